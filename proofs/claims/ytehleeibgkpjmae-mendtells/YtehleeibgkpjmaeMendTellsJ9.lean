/- Texts joined: MendI, RepI, RefF, Pair, PDec, SameInts, MBegun, SameI, MTells, SlotsIn. -/
import Derived.Test.YtehleeibgkpjmaeMendTellsJ8
import Derived.Test.YtehleeibgkpjmaeMendTellsJ7
import Derived.Test.YtehleeibgkpjmaeMendTellsJ4
import Derived.Test.YtehleeibgkpjmaeMendTellsJ1
import Derived.Deep.QuietTactic
import Derived.BigQuiet
import Derived.Test.YtehleeibgkpjmaeMendTellsJ3
import Derived.Deep.RegionHeld3
import Derived.Deep.RegionHeld
import Derived.Deep.Strs
import Derived.Deep.Slices
import Derived.ProofKit
/- Contracts of mending: Repair and Leaks. -/
namespace Go.Proofs.Ytehleeibgkpjmae
open Go.RowKit Go.Shelf
set_option maxRecDepth 20000

theorem repair_turn (w : World) (m : ImgD) : Turns w 51 #[] m (some m) := by
  intro W D B val hb h1 h2 hK
  go_enter Try.func51, Try.ntmps51
  go_wp2
  go_end0
  exact ⟨val, rfl, DTo.refl hK nilV⟩
/-- What is answered, laid open. -/
theorem AnsI.open {w w' : World} {B : Nat} {m : ImgD} {err : Int} {r : Ending} (h : AnsI w B m err r w') : ∃ val ra rc sa sc fa fc na nc, r = .returned (.tuple #[.agg #[.int .i64 m.guest, .slice ra m.root.length rc, .slice sa m.slots.length sc, .slice fa m.refs.length fc, .slice na m.snaps.length nc], .int .i64 err]) ∧ OI w' B val m ∧ Below B w w' ∧ imgV m.guest val = .agg #[.int .i64 m.guest, .slice ra m.root.length rc, .slice sa m.slots.length sc, .slice fa m.refs.length fc, .slice na m.snaps.length nc] := by
  obtain ⟨val, rfl, hO, hb⟩ := h
  obtain ⟨ra, rc, e0, _⟩ := hO.forms .root (Live.root m)
  obtain ⟨sa, sc, e1, _⟩ := hO.forms .slots (Live.slots m)
  obtain ⟨fa, fc, e2, _⟩ := hO.forms .refs (Live.refs m)
  obtain ⟨na, nc, e3, _⟩ := hO.forms .snaps (Live.snaps m)
  have e : imgV m.guest val = .agg #[.int .i64 m.guest, .slice ra m.root.length rc, .slice sa m.slots.length sc, .slice fa m.refs.length fc, .slice na m.snaps.length nc] := by
    unfold imgV
    rw [e0, e1, e2, e3]
    rfl
  exact ⟨val, ra, rc, sa, sc, fa, fc, na, nc, by rw [e], hO, hb, e⟩

set_option maxHeartbeats 4000000 in
theorem repair_at (m : ImgD) (ra : Option Addr) (rn rc : Nat) (sa : Option Addr) (sn sc : Nat) (fa : Option Addr) (fn fc : Nat) (na : Option Addr) (nn nc : Nat) (w : World) (h : Img w (.agg #[.int .i64 m.guest, .slice ra rn rc, .slice sa sn sc, .slice fa fn fc, .slice na nn nc]) m) (hF : Fits m) :
    Calls Try.prog 20 #[.agg #[.int .i64 m.guest, .slice ra rn rc, .slice sa sn sc, .slice fa fn fc, .slice na nn nc]] w (AnsI w w.heap.size (ofM (some m)) (ofE (some m))) := by
  have b0 : Below w.heap.size w ((w.alloc (.cells #[.int .i64 m.guest, .slice ra rn rc, .slice sa sn sc, .slice fa fn fc, .slice na nn nc] 26)).alloc (.cells #[.int .i64 0, .slice none 0 0, .slice none 0 0, .slice none 0 0, .slice none 0 0] 26)) := ((Below.refl _ _).alloc (Nat.le_refl _) _).alloc (by simp) _
  have m0 : ((w.alloc (.cells #[.int .i64 m.guest, .slice ra rn rc, .slice sa sn sc, .slice fa fn fc, .slice na nn nc] 26)).alloc (.cells #[.int .i64 0, .slice none 0 0, .slice none 0 0, .slice none 0 0, .slice none 0 0] 26)).heap[w.heap.size]? = some (.cells #[.int .i64 m.guest, .slice ra rn rc, .slice sa sn sc, .slice fa fn fc, .slice na nn nc] 26) := cells_alloc (World.alloc_heap_new _ _) _
  have m1 : ((w.alloc (.cells #[.int .i64 m.guest, .slice ra rn rc, .slice sa sn sc, .slice fa fn fc, .slice na nn nc] 26)).alloc (.cells #[.int .i64 0, .slice none 0 0, .slice none 0 0, .slice none 0 0, .slice none 0 0] 26)).heap[w.heap.size + 1]? = some (.cells #[.int .i64 0, .slice none 0 0, .slice none 0 0, .slice none 0 0, .slice none 0 0] 26) := by have := World.alloc_heap_new (w.alloc (.cells #[.int .i64 m.guest, .slice ra rn rc, .slice sa sn sc, .slice fa fn fc, .slice na nn nc] 26)) (.cells #[.int .i64 0, .slice none 0 0, .slice none 0 0, .slice none 0 0, .slice none 0 0] 26); simpa using this
  have hz2 : ((w.alloc (.cells #[.int .i64 m.guest, .slice ra rn rc, .slice sa sn sc, .slice fa fn fc, .slice na nn nc] 26)).alloc (.cells #[.int .i64 0, .slice none 0 0, .slice none 0 0, .slice none 0 0, .slice none 0 0] 26)).heap.size = w.heap.size + 1 + 1 := by simp
  obtain ⟨c0, c1, c2, c3, c4⟩ := five m0
  have hof := of_is (h.below b0) hF (enters_of Try.func51 (by kernel_rfl) rfl) (repair_turn ((w.alloc (.cells #[.int .i64 m.guest, .slice ra rn rc, .slice sa sn sc, .slice fa fn fc, .slice na nn nc] 26)).alloc (.cells #[.int .i64 0, .slice none 0 0, .slice none 0 0, .slice none 0 0, .slice none 0 0] 26)) m)
  go_enter Try.func20, Try.ntmps20
  go_wp2_with fail
  refine hof.mono ?_
  intro e w1 hA
  obtain ⟨val, ga, gc, la, lc, oa, oc, ta, tc, rfl, hO, b1, hI⟩ := hA.open
  dsimp only
  have k1 := cells_below m1 b1 (by rw [hz2]; omega)
  obtain ⟨z0, z1, z2, z3, z4⟩ := five k1
  have y0 := cells_frozen k1 0
  have y1 := cells_frozen k1 1
  have y2 := cells_frozen k1 2
  have y3 := cells_frozen k1 3
  have y4 := cells_frozen k1 4
  have HO : Hid (OI w1 (w.heap.size + 1 + 1) val (ofM (some m))) := by rw [hz2] at hO; exact hO
  have HB : Hid (Below w.heap.size w w1) := Below.on b0 b1
  have HI : Hid (imgV (ofM (some m)).guest val = .agg #[.int .i64 (ofM (some m)).guest, .slice ga (ofM (some m)).root.length gc, .slice la (ofM (some m)).slots.length lc, .slice oa (ofM (some m)).refs.length oc, .slice ta (ofM (some m)).snaps.length tc]) := hI
  clear hO b1 hI hof hA
  go_wp2_with fail
  have i1 : w.heap.size ≤ w.heap.size + 1 := Nat.le_succ _
  have hf1 : ∀ a, Live (ofM (some m)) a → (val a).ownBlock ≠ some (w.heap.size + 1) := fun a ha e => by have := ((HO.out.row a ha).lt _ e).1; omega
  refine bodyPost_ret (v := .tuple #[.agg #[.int .i64 (ofM (some m)).guest, .slice ga (ofM (some m)).root.length gc, .slice la (ofM (some m)).slots.length lc, .slice oa (ofM (some m)).refs.length oc, .slice ta (ofM (some m)).snaps.length tc], .int .i64 (ofE (some m))]) (by simp [results, Try.results20, go_sem, z0, z1, z2, z3, z4]) rfl ⟨val, by rw [HI.out], OI.mono (((((HO.out.far hf1).far hf1).far hf1).far hf1).far hf1) (by omega), ((((HB.out.setCell i1 _).setCell i1 _).setCell i1 _).setCell i1 _).setCell i1 _⟩
theorem repair_is {w : World} {v : Value} {m : ImgD} (h : Img w v m) (hF : Fits m) : Calls Try.prog 20 #[v] w (AnsI w w.heap.size (ofM (some m)) (ofE (some m))) := by
  have h' := h
  obtain ⟨ra, rc, sa, sc, fa, fc, na, nc, rfl, _⟩ := h.parts
  exact repair_at m ra _ rc sa _ sc fa _ fc na _ nc w h' hF
theorem repair_ok {w : World} {v : Value} {m M : ImgD} (h : Img w v m) (hF : Fits m) (hE : shapeE m = 0) (hM : countedD m = M) : Calls Try.prog 20 #[v] w (AnsI w w.heap.size M 0) := by
  have := repair_is h hF
  unfold ofM ofE at this
  dsimp only at this
  rw [if_pos hE, hE, hM] at this
  exact this
theorem repair_bad {w : World} {v : Value} {m : ImgD} (h : Img w v m) (hF : Fits m) {E : Int} (hE : shapeE m = E) (hne : E ≠ 0) : Calls Try.prog 20 #[v] w (AnsI w w.heap.size imgZ E) := by
  have := repair_is h hF
  unfold ofM ofE at this
  dsimp only at this
  rw [if_neg (by rw [hE]; exact hne), hE] at this
  exact this

/-! ### Leaks -/
def leakP (L : List SlotD) (c : List Int) (k : Nat) : Nat := (List.range k).countP (fun j => (L.getD j default).1 != 0 && c.getD j 0 == 0)
def leakN (L : List SlotD) (c : List Int) : Nat := leakP L c L.length
theorem leakP_succ (L : List SlotD) (c : List Int) (k : Nat) : leakP L c (k + 1) = leakP L c k + if ((L.getD k default).1 != 0 && c.getD k 0 == 0) = true then 1 else 0 := by
  unfold leakP
  rw [List.range_succ, List.countP_append]
  simp [List.countP_cons]
theorem countP_part (p q : Nat → Bool) : ∀ l : List Nat, l.countP (fun j => !q j && p j) + l.countP (fun j => p j && q j) = l.countP p
  | [] => rfl
  | x :: l => by
    have ih := countP_part p q l
    rw [List.countP_cons, List.countP_cons, List.countP_cons]
    cases p x <;> cases q x <;> simp <;> omega
theorem used_range (L : List SlotD) : usedN L = (List.range L.length).countP (fun j => (L.getD j default).1 != 0) := by
  unfold usedN
  have hl : L = (List.range L.length).map (fun j => L.getD j default) := by
    apply List.ext_getElem
    · simp
    · intro j h1 h2; simp [List.getD, h1]
  conv => lhs; rw [hl]
  rw [List.countP_map]
  rfl
theorem used_leak (L : List SlotD) (c : List Int) : usedN (freeUn L c) + leakN L c = usedN L := by
  rw [used_range, used_range L, freeUn_length]
  unfold leakN leakP
  rw [← countP_part (fun j => (L.getD j default).1 != 0) (fun j => c.getD j 0 == 0) (List.range L.length)]
  congr 1
  refine List.countP_congr fun j hj => ?_
  have hj := List.mem_range.1 hj
  rw [freeUn_get hj]
  by_cases e : c.getD j 0 = 0
  · rw [if_pos e]
    have e2 : (c.getD j 0 == 0) = true := by rw [e]; rfl
    simp only [e2]; simp [slotZ]
  · rw [if_neg e]
    have e2 : (c.getD j 0 == 0) = false := by simpa using e
    simp only [e2]; simp
theorem leak_none {m : ImgD} (hC : checkE m = 0) : leakN m.slots (cntL m) = 0 := by
  have h := used_leak m.slots (cntL m)
  have e : (countedD m).slots = m.slots := by rw [counted_same hC]
  have e : freeUn m.slots (cntL m) = m.slots := e
  rw [e] at h
  omega

set_option maxHeartbeats 4000000 in
theorem leaks_err (m : ImgD) (E : Int) (ra : Option Addr) (rn rc : Nat) (sa : Option Addr) (sn sc : Nat) (fa : Option Addr) (fn fc : Nat) (na : Option Addr) (nn nc : Nat) (w : World) (h : Img w (.agg #[.int .i64 m.guest, .slice ra rn rc, .slice sa sn sc, .slice fa fn fc, .slice na nn nc]) m) (hE : shapeE m = E) (hne : (E != 0) = true) :
    Calls Try.prog 19 #[.agg #[.int .i64 m.guest, .slice ra rn rc, .slice sa sn sc, .slice fa fn fc, .slice na nn nc]] w fun r w' => r = .returned (.tuple #[.int .i64 0, .int .i64 E]) ∧ Below w.heap.size w w' := by
  have b0 : Below w.heap.size w (w.alloc (.cells #[.int .i64 m.guest, .slice ra rn rc, .slice sa sn sc, .slice fa fn fc, .slice na nn nc] 26)) := (Below.refl _ _).alloc (Nat.le_refl _) _
  have m0 : (w.alloc (.cells #[.int .i64 m.guest, .slice ra rn rc, .slice sa sn sc, .slice fa fn fc, .slice na nn nc] 26)).heap[w.heap.size]? = some (.cells #[.int .i64 m.guest, .slice ra rn rc, .slice sa sn sc, .slice fa fn fc, .slice na nn nc] 26) := World.alloc_heap_new _ _
  obtain ⟨c0, c1, c2, c3, c4⟩ := five m0
  have hcall := counts_err (h.below b0) hE hne
  clear h hE
  go_enter Try.func19, Try.ntmps19
  go_wp2_with (go_at_call 40; refine hcall.mono ?_; rintro e w1 ⟨rfl, b1⟩)
  go_ret2
  exact ⟨rfl, Below.on b0 b1⟩

set_option maxHeartbeats 4000000 in
theorem leaks_at (m : ImgD) (ra : Option Addr) (rn rc : Nat) (b off n sc : Nat) (fa : Option Addr) (fn fc : Nat) (na : Option Addr) (nn nc : Nat) (w : World) (h : Img w (.agg #[.int .i64 m.guest, .slice ra rn rc, .slice (some ⟨b, off, none⟩) n sc, .slice fa fn fc, .slice na nn nc]) m) (hE : shapeE m = 0) (hn : m.slots.length = n) (hlt : b < w.heap.size) (hc : ∀ j, (h : j < m.slots.length) → SlAt w b (off + j * 3) m.slots[j]) :
    Calls Try.prog 19 #[.agg #[.int .i64 m.guest, .slice ra rn rc, .slice (some ⟨b, off, none⟩) n sc, .slice fa fn fc, .slice na nn nc]] w fun r w' => r = .returned (.tuple #[.int .i64 (leakN m.slots (cntL m)), .int .i64 0]) ∧ Below w.heap.size w w' := by
  have b0 : Below w.heap.size w (w.alloc (.cells #[.int .i64 m.guest, .slice ra rn rc, .slice (some ⟨b, off, none⟩) n sc, .slice fa fn fc, .slice na nn nc] 26)) := (Below.refl _ _).alloc (Nat.le_refl _) _
  have m0 : (w.alloc (.cells #[.int .i64 m.guest, .slice ra rn rc, .slice (some ⟨b, off, none⟩) n sc, .slice fa fn fc, .slice na nn nc] 26)).heap[w.heap.size]? = some (.cells #[.int .i64 m.guest, .slice ra rn rc, .slice (some ⟨b, off, none⟩) n sc, .slice fa fn fc, .slice na nn nc] 26) := World.alloc_heap_new _ _
  obtain ⟨c0, c1, c2, c3, c4⟩ := five m0
  have h40 : n ≤ 40 := by rw [← hn]; exact (slotsE_parts (shapeE_zero hE).2.1).2
  have hcall := counts_own (h.below b0) hE
  rw [hn] at hcall
  have HC : Hid (∀ j, (h : j < m.slots.length) → SlAt w b (off + j * 3) m.slots[j]) := hc
  have HN : Hid (m.slots.length = n) := hn
  have HL : Hid ((cntL m).length = n) := by rw [← hn]; exact cntL_length m
  clear h hE hc hn
  go_enter Try.func19, Try.ntmps19
  go_wp2_with (go_at_call 40; refine hcall.mono ?_; rintro e w1 ⟨⟨q, hq, rfl, hL⟩, b1⟩; have m1 := cells_below m0 b1 (by simp); obtain ⟨d0, d1, d2, d3, d4⟩ := five m1)
  have HB : Hid (LAt w1 q (cntL m) ∧ Below w.heap.size w w1) := ⟨hL, Below.on b0 b1⟩
  clear hL hq hcall b1 m0 m1 c0 c1 c2 c3 c4 d0 d1 d2 d3 d4 b0
  go_loopw [6, 20] (fun x i wr => ∃ k u : Nat, k ≤ n ∧ u ≤ k ∧ i = .int .i64 k ∧ x = .int .i64 u ∧ Hid (u = leakP m.slots (cntL m) k) ∧ Hid (LAt wr q (cntL m) ∧ Below w.heap.size w wr)) (fun _ i _ => n - (intOf i).toNat)
  case atStart => exact ⟨0, 0, by omega, by omega, rfl, rfl, rfl, HB⟩
  case round =>
    obtain ⟨k, u, hk, hu, rfl, rfl, HU, HW⟩ := hrel
    by_cases hlk : k < n
    · obtain ⟨s, hs'⟩ : ∃ s, s = m.slots[k]'(by rw [HN.out]; exact hlk) := ⟨_, rfl⟩
      obtain ⟨kk, dd, tt⟩ := s
      have hS : SlAt w b (off + k * 3) (kk, dd, tt) := by rw [hs']; exact HC.out k _
      have hgd : m.slots.getD k default = (kk, dd, tt) := by rw [hs']; simp [List.getD, show k < m.slots.length by rw [HN.out]; exact hlk]
      obtain ⟨tv, c1, c2, c3, hsl⟩ := hS
      obtain ⟨ta, tc, htv⟩ := hsl.form
      subst htv
      have hbel := HW.out.2
      have c1 : wr.cell? ⟨b, off + k * 3, none⟩ = some (.int .i64 kk) := (hbel.cell (p := ⟨b, off + k * 3, none⟩) hlt).trans c1
      have c2 : wr.cell? ⟨b, off + k * 3 + 1, none⟩ = some (.string dd) := (hbel.cell (p := ⟨b, off + k * 3 + 1, none⟩) hlt).trans c2
      have c3 : wr.cell? ⟨b, off + k * 3 + 1 + 1, none⟩ = some (.slice ta tt.length tc) := (hbel.cell (p := ⟨b, off + k * 3 + 1 + 1, none⟩) hlt).trans c3
      obtain ⟨x, hx⟩ : ∃ x, (cntL m).getD k 0 = x := ⟨_, rfl⟩
      have hLn : LAt (wr.alloc (.cells #[.int .i64 kk, .string dd, .slice ta tt.length tc] 72)) q (cntL m) := cells_alloc HW.out.1 _
      have cx := hLn.cell (j := k) (by rw [HL.out]; exact hlk)
      rw [hx] at cx
      have ms := World.alloc_heap_new wr (.cells #[.int .i64 kk, .string dd, .slice ta tt.length tc] 72)
      obtain ⟨y0, y1, y2⟩ := three ms
      have hstep := leakP_succ m.slots (cntL m) k
      rw [hgd, hx] at hstep
      have HT : Hid (leakP m.slots (cntL m) (k + 1) = leakP m.slots (cntL m) k + if (kk != 0 && x == 0) = true then 1 else 0) := hstep
      have HA : Hid (LAt (wr.alloc (.cells #[.int .i64 kk, .string dd, .slice ta tt.length tc] 72)) q (cntL m) ∧ Below w.heap.size w (wr.alloc (.cells #[.int .i64 kk, .string dd, .slice ta tt.length tc] 72))) := ⟨hLn, hbel.alloc hbel.size _⟩
      have hki : (k : Int) < (n : Int) := by omega
      clear hs' hsl hstep hgd hx hLn ms hbel
      by_cases h0 : kk = 0
      · have h0' : (kk != 0) = false := by simp [h0]
        have H0 : Hid (kk = 0) := h0
        clear h0
        go_wp2_with fail
        go_roundw
        case rel => exact ⟨k + 1, u, by omega, by omega, by go_num, rfl, by show _ = _; rw [HT.out, ← HU.out, h0']; rfl, HA⟩
        case measure => simp [intOf]; omega
      · have h0' : (kk != 0) = true := by simp [h0]
        by_cases hx0 : x = 0
        · have hx' : (x == 0) = true := by simp [hx0]
          have HX0 : Hid (x = 0) := hx0
          clear hx0
          go_wp2_with fail
          go_roundw
          case rel => exact ⟨k + 1, u + 1, by omega, by omega, by go_num, by go_num, by show _ = _; rw [HT.out, ← HU.out, h0', hx']; rfl, HA⟩
          case measure => simp [intOf]; omega
        · have hx' : (x == 0) = false := by simp [hx0]
          go_wp2_with fail
          go_roundw
          case rel => exact ⟨k + 1, u, by omega, by omega, by go_num, rfl, by show _ = _; rw [HT.out, ← HU.out, h0', hx']; rfl, HA⟩
          case measure => simp [intOf]; omega
    · have e4 : k = n := by omega
      subst e4
      have HU' : Hid (u = leakN m.slots (cntL m)) := by show _ = _; unfold leakN; rw [HU.out, HN.out]
      have hbel := HW.out.2
      clear HU
      go_wp2_with fail
      go_ret2
      exact ⟨by rw [← HU'.out]; rfl, hbel⟩
def leaksA (m : ImgD) : Nat := if shapeE m = 0 then leakN m.slots (cntL m) else 0
theorem leaks_is {w : World} {v : Value} {m : ImgD} (h : Img w v m) {E : Int} (hE : shapeE m = E) {u : Nat} (hu : leaksA m = u) : Calls Try.prog 19 #[v] w fun r w' => r = .returned (.tuple #[.int .i64 (u : Int), .int .i64 E]) ∧ Below w.heap.size w w' := by
  subst hE hu
  have h' := h
  obtain ⟨ra, rc, sa, sc, fa, fc, na, nc, rfl, h1, h2, h3, h4⟩ := h.parts
  unfold leaksA
  by_cases h0 : shapeE m = 0
  · rw [if_pos h0, h0]
    obtain ⟨b, off, cap, e, hcp, hlt, hcell⟩ := h2.open (slotsE_parts (shapeE_zero h0).2.1).1
    simp at e
    obtain ⟨rfl, rfl⟩ := e
    exact leaks_at m ra _ rc b off _ _ fa _ fc na _ nc w h' h0 rfl hlt hcell
  · rw [if_neg h0]
    exact leaks_err m _ ra _ rc sa _ sc fa _ fc na _ nc w h' rfl (by simpa using h0)
end Go.Proofs.Ytehleeibgkpjmae
/- Contracts of the document's RepairOf and LeaksOf. -/
namespace Go.Proofs.Ytehleeibgkpjmae
open Go.RowKit Go.Shelf
set_option maxRecDepth 20000
set_option linter.unusedVariables false

theorem shape_rfz {m : ImgD} (h : shapeE m = 0) : shapeE { m with refs := rfZ m.slots } = 0 := by
  obtain ⟨z1, z2, z3, z4, z5, z6, z7⟩ := shapeE_zero h
  unfold shapeE
  rw [if_neg (by show ¬ 3 < m.snaps.length; omega), if_neg (by show ¬ slotsE m.slots ≠ 0; simpa using z2), if_neg, if_neg (by show ¬ (rootsOf m).all _ = false; rw [z5]; decide), if_neg (by show ¬ tabFit m.slots = false; rw [z6]; decide), if_neg (by show ¬ (rootsOf m).all _ = false; rw [z7]; decide)]
  rintro (x | x)
  · apply x; show (rfZ m.slots).length = m.slots.length; simp [rfZ]
  · have : namesOK m.snaps = false := x
    rw [z4] at this; cases this
/-- What a function of the document answers: an image. -/
def AnsV (w : World) (M : ImgD) (r : Ending) (w' : World) : Prop := ∃ val a0 c0 a1 c1 a2 c2 a3 c3, r = .returned (.agg #[.int .i64 M.guest, .slice a0 M.root.length c0, .slice a1 M.slots.length c1, .slice a2 M.refs.length c2, .slice a3 M.snaps.length c3]) ∧ (val .root = .slice a0 M.root.length c0 ∧ val .slots = .slice a1 M.slots.length c1 ∧ val .refs = .slice a2 M.refs.length c2 ∧ val .snaps = .slice a3 M.snaps.length c3) ∧ OX w' w.heap.size val M ∧ Below w.heap.size w w'
theorem OX.four {W : World} {B : Nat} {val : Nm → Value} {m : ImgD} (h : OX W B val m) : ∃ a0 c0 a1 c1 a2 c2 a3 c3, val .root = .slice a0 m.root.length c0 ∧ val .slots = .slice a1 m.slots.length c1 ∧ val .refs = .slice a2 m.refs.length c2 ∧ val .snaps = .slice a3 m.snaps.length c3 := by
  obtain ⟨a0, c0, h0, _⟩ := h.forms .root (LiveX.root _)
  obtain ⟨a1, c1, h1, _⟩ := h.forms .slots (LiveX.slots _)
  obtain ⟨a2, c2, h2, _⟩ := h.forms .refs (LiveX.refs _)
  obtain ⟨a3, c3, h3, _⟩ := h.forms .snaps (LiveX.snaps _)
  exact ⟨a0, c0, a1, c1, a2, c2, a3, c3, h0, h1, h2, h3⟩
set_option maxHeartbeats 4000000 in
theorem repairOf_at (ra : Option Addr) (rc : Nat) (sa : Option Addr) (sc : Nat) (fa : Option Addr) (fc : Nat) (na : Option Addr) (nc : Nat) (m : ImgD) (w : World) (h : Img w (.agg #[.int .i64 m.guest, .slice ra m.root.length rc, .slice sa m.slots.length sc, .slice fa m.refs.length fc, .slice na m.snaps.length nc]) m) (hE : shapeE m = 0) (M : ImgD) (hM : countedD m = M) :
    Calls Try.prog 23 #[.agg #[.int .i64 m.guest, .slice ra m.root.length rc, .slice sa m.slots.length sc, .slice fa m.refs.length fc, .slice na m.snaps.length nc]] w (AnsV w M) := by
  have b0 : Below w.heap.size w ((w.alloc (.cells #[.int .i64 m.guest, .slice ra m.root.length rc, .slice sa m.slots.length sc, .slice fa m.refs.length fc, .slice na m.snaps.length nc] 26)).alloc (.cells #[.int .i64 0, .slice none 0 0, .slice none 0 0, .slice none 0 0, .slice none 0 0] 26)) := ((Below.refl _ _).alloc (Nat.le_refl _) _).alloc (by simp) _
  have m0 : ((w.alloc (.cells #[.int .i64 m.guest, .slice ra m.root.length rc, .slice sa m.slots.length sc, .slice fa m.refs.length fc, .slice na m.snaps.length nc] 26)).alloc (.cells #[.int .i64 0, .slice none 0 0, .slice none 0 0, .slice none 0 0, .slice none 0 0] 26)).heap[w.heap.size]? = some (.cells #[.int .i64 m.guest, .slice ra m.root.length rc, .slice sa m.slots.length sc, .slice fa m.refs.length fc, .slice na m.snaps.length nc] 26) := cells_alloc (World.alloc_heap_new _ _) _
  have m1 : ((w.alloc (.cells #[.int .i64 m.guest, .slice ra m.root.length rc, .slice sa m.slots.length sc, .slice fa m.refs.length fc, .slice na m.snaps.length nc] 26)).alloc (.cells #[.int .i64 0, .slice none 0 0, .slice none 0 0, .slice none 0 0, .slice none 0 0] 26)).heap[w.heap.size + 1]? = some (.cells #[.int .i64 0, .slice none 0 0, .slice none 0 0, .slice none 0 0, .slice none 0 0] 26) := by have := World.alloc_heap_new (w.alloc (.cells #[.int .i64 m.guest, .slice ra m.root.length rc, .slice sa m.slots.length sc, .slice fa m.refs.length fc, .slice na m.snaps.length nc] 26)) (.cells #[.int .i64 0, .slice none 0 0, .slice none 0 0, .slice none 0 0, .slice none 0 0] 26); simpa using this
  have hsz : w.heap.size + 1 < ((w.alloc (.cells #[.int .i64 m.guest, .slice ra m.root.length rc, .slice sa m.slots.length sc, .slice fa m.refs.length fc, .slice na m.snaps.length nc] 26)).alloc (.cells #[.int .i64 0, .slice none 0 0, .slice none 0 0, .slice none 0 0, .slice none 0 0] 26)).heap.size := by simp
  have hcall := ownImage_is (h.below b0) hE
  have hgM : M.guest = m.guest := by rw [← hM]; rfl
  have HE : Hid (shapeE { m with refs := rfZ m.slots } = 0 ∧ countedD m = M) := ⟨shape_rfz hE, hM⟩
  obtain ⟨c0, c1, c2, c3, c4⟩ := five m0
  clear h hE hM
  go_enter Try.func23, Try.ntmps23
  go_wp2_with (first
    | (go_at_call 58; refine HK.out.mono ?_; rintro e w2 ⟨val2, rfl, hO2, b2, k2, s2⟩; obtain ⟨p0, q0, p1, q1, p2, q2, p3, q3, x0, x1, x2, x3⟩ := hO2.four; have n1 := (k2 (w.heap.size + 1) (by have := HB1.out.2; omega) (fun a ha e => by have := ((HB1.out.1.row a ha).lt _ e).1; omega)).trans HB1r.out; obtain ⟨z0, z1, z2, z3, z4⟩ := five n1; have y0 := cells_frozen n1 0; have y1 := cells_frozen n1 1; have y2 := cells_frozen n1 2; have y3 := cells_frozen n1 3; have y4 := cells_frozen n1 4; unfold imgV; rw [x0, x1, x2, x3])
    | (go_at_call 59; refine hcall.mono ?_; rintro e w1 ⟨val, rfl, hO, b1⟩; have HB1 : Hid (OX w1 ((w.alloc (.cells #[.int .i64 m.guest, .slice ra m.root.length rc, .slice sa m.slots.length sc, .slice fa m.refs.length fc, .slice na m.snaps.length nc] 26)).alloc (.cells #[.int .i64 0, .slice none 0 0, .slice none 0 0, .slice none 0 0, .slice none 0 0] 26)).heap.size val m ∧ ((w.alloc (.cells #[.int .i64 m.guest, .slice ra m.root.length rc, .slice sa m.slots.length sc, .slice fa m.refs.length fc, .slice na m.snaps.length nc] 26)).alloc (.cells #[.int .i64 0, .slice none 0 0, .slice none 0 0, .slice none 0 0, .slice none 0 0] 26)).heap.size ≤ w1.heap.size) := ⟨hO, b1.size⟩; have HB1r : Hid (w1.heap[w.heap.size + 1]? = some (.cells #[.int .i64 0, .slice none 0 0, .slice none 0 0, .slice none 0 0, .slice none 0 0] 26)) := cells_below m1 b1 hsz; have HK : Hid (Calls Try.prog 58 #[imgV m.guest val] w1 fun r w' => ∃ val', r = .returned (imgV m.guest val') ∧ OX w' ((w.alloc (.cells #[.int .i64 m.guest, .slice ra m.root.length rc, .slice sa m.slots.length sc, .slice fa m.refs.length fc, .slice na m.snaps.length nc] 26)).alloc (.cells #[.int .i64 0, .slice none 0 0, .slice none 0 0, .slice none 0 0, .slice none 0 0] 26)).heap.size val' (countedD m) ∧ Below ((w.alloc (.cells #[.int .i64 m.guest, .slice ra m.root.length rc, .slice sa m.slots.length sc, .slice fa m.refs.length fc, .slice na m.snaps.length nc] 26)).alloc (.cells #[.int .i64 0, .slice none 0 0, .slice none 0 0, .slice none 0 0, .slice none 0 0] 26)).heap.size w1 w' ∧ KeepX w1 w' m val ∧ SrcX w1 m val (.slice none 0 0) (countedD m) val') := countedX_is hO b1.size HE.out.1; have hbb := b1; clear hO))
  have hfr : ∀ a, LiveX (countedD m) a → (val2 a).ownBlock ≠ some (w.heap.size + 1) := fun a ha e => by
    have := ((hO2.row a ha).lt _ e).1
    omega
  have hO3 := ((((hO2.far (i := 0) (u := .int .i64 m.guest) hfr).far (i := 1) (u := .slice p0 (countedD m).root.length q0) hfr).far (i := 2) (u := .slice p1 (countedD m).slots.length q1) hfr).far (i := 3) (u := .slice p2 (countedD m).refs.length q2) hfr).far (i := 4) (u := .slice p3 (countedD m).snaps.length q3) hfr
  have hI := hO3.mono (B' := w.heap.size) (by omega)
  have i1 : w.heap.size ≤ w.heap.size + 1 := Nat.le_succ _
  have hbel : Below w.heap.size w w2 := (Below.on b0 hbb).trans (b2.mono (by omega))
  subst_vars
  have hM := HE.out.2
  subst hM
  refine bodyPost_ret (v := .agg #[.int .i64 (countedD m).guest, .slice p0 (countedD m).root.length q0, .slice p1 (countedD m).slots.length q1, .slice p2 (countedD m).refs.length q2, .slice p3 (countedD m).snaps.length q3]) (by simp [results, Try.results23, go_sem, z0, z1, z2, z3, z4, show (countedD m).guest = m.guest from rfl]) rfl ⟨val2, p0, q0, p1, q1, p2, q2, p3, q3, rfl, ⟨x0, x1, x2, x3⟩, hI, ((((hbel.setCell i1 _).setCell i1 _).setCell i1 _).setCell i1 _).setCell i1 _⟩
theorem repairOf_is {w : World} {v : Value} {m M : ImgD} (h : Img w v m) (hE : shapeE m = 0) (hM : countedD m = M) : Calls Try.prog 23 #[v] w (AnsV w M) := by
  have h' := h
  obtain ⟨ra, rc, sa, sc, fa, fc, na, nc, rfl, _⟩ := h.parts
  exact repairOf_at ra rc sa sc fa fc na nc m w h' hE M hM
theorem leakP_le (L : List SlotD) (c : List Int) (k : Nat) : leakP L c k ≤ k := by
  unfold leakP
  exact Nat.le_trans List.countP_le_length (by simp)
set_option maxHeartbeats 4000000 in
theorem leaksOf_at (ra : Option Addr) (rc sb so sc : Nat) (fa : Option Addr) (fc : Nat) (na : Option Addr) (nc : Nat) (m : ImgD) (w : World) (h : Img w (.agg #[.int .i64 m.guest, .slice ra m.root.length rc, .slice (some ⟨sb, so, none⟩) m.slots.length sc, .slice fa m.refs.length fc, .slice na m.snaps.length nc]) m) (hE : shapeE m = 0) (hps : ∀ j, (hj : j < m.slots.length) → w.cell? ⟨sb, so + j * 3, none⟩ = some (.int .i64 m.slots[j].1)) (hsb : sb < w.heap.size) (u : Nat) (hu : leakN m.slots (cntL m) = u) :
    Calls Try.prog 22 #[.agg #[.int .i64 m.guest, .slice ra m.root.length rc, .slice (some ⟨sb, so, none⟩) m.slots.length sc, .slice fa m.refs.length fc, .slice na m.snaps.length nc]] w fun r w' => r = .returned (.int .i64 (u : Int)) ∧ Below w.heap.size w w' := by
  have b0 : Below w.heap.size w (w.alloc (.cells #[.int .i64 m.guest, .slice ra m.root.length rc, .slice (some ⟨sb, so, none⟩) m.slots.length sc, .slice fa m.refs.length fc, .slice na m.snaps.length nc] 26)) := (Below.refl _ _).alloc (Nat.le_refl _) _
  have m0 : (w.alloc (.cells #[.int .i64 m.guest, .slice ra m.root.length rc, .slice (some ⟨sb, so, none⟩) m.slots.length sc, .slice fa m.refs.length fc, .slice na m.snaps.length nc] 26)).heap[w.heap.size]? = some (.cells #[.int .i64 m.guest, .slice ra m.root.length rc, .slice (some ⟨sb, so, none⟩) m.slots.length sc, .slice fa m.refs.length fc, .slice na m.snaps.length nc] 26) := World.alloc_heap_new _ _
  have hcall := countsOf_is (h.below b0) hE
  obtain ⟨c0, c1, c2, c3, c4⟩ := five m0
  have h40 : m.slots.length ≤ 40 := (slotsE_parts (shapeE_zero hE).2.1).2
  have hlc : (cntL m).length = m.slots.length := cntL_length m
  clear h hE
  go_enter Try.func22, Try.ntmps22
  go_wp2_with (go_at_call 57; refine hcall.mono ?_; rintro e w1 ⟨⟨rfl, hL⟩, b1⟩; have HM : Hid (w1.heap[w.heap.size]? = some (.cells #[.int .i64 m.guest, .slice ra m.root.length rc, .slice (some ⟨sb, so, none⟩) m.slots.length sc, .slice fa m.refs.length fc, .slice na m.snaps.length nc] 26)) := cells_below m0 b1 (by simp))
  rw [show (w.alloc (.cells #[.int .i64 m.guest, .slice ra m.root.length rc, .slice (some ⟨sb, so, none⟩) m.slots.length sc, .slice fa m.refs.length fc, .slice na m.snaps.length nc] 26)).heap.size + 1 = w.heap.size + 1 + 1 by simp] at hL
  have HL : Hid (∀ j, j < m.slots.length → w1.cell? ⟨w.heap.size + 1 + 1, j, none⟩ = some (.int .i64 ((cntL m).getD j 0))) := fun j hj => hL.cell (by rw [hlc]; exact hj)
  have HP : Hid (∀ j, (hj : j < m.slots.length) → w1.cell? ⟨sb, so + j * 3, none⟩ = some (.int .i64 m.slots[j].1)) := fun j hj => (b1.cell (p := ⟨sb, so + j * 3, none⟩) (Nat.lt_of_lt_of_le hsb b0.size)).trans ((b0.cell (p := ⟨sb, so + j * 3, none⟩) hsb).trans (hps j hj))
  have hB := Below.on b0 b1
  clear hL hps b0 b1 m0 hcall
  go_loopw [4, 5] (fun c i wr => ∃ k : Nat, k ≤ m.slots.length ∧ i = .int .i64 k ∧ c = .int .i64 (leakP m.slots (cntL m) k) ∧ wr = w1) (fun _ i _ => m.slots.length - (intOf i).toNat)
  case atStart => exact ⟨0, Nat.zero_le _, rfl, rfl, rfl⟩
  case round =>
    obtain ⟨k, hk, rfl, rfl, rfl⟩ := hrel
    obtain ⟨d0, d1, d2, d3, d4⟩ := five HM.out
    by_cases hlk : k < m.slots.length
    · have hki : (k : Int) < (m.slots.length : Int) := by omega
      have hs := leakP_succ m.slots (cntL m) k
      have hle := leakP_le m.slots (cntL m) k
      obtain ⟨x, hx⟩ : ∃ x, (cntL m).getD k 0 = x := ⟨_, rfl⟩
      obtain ⟨y, hy⟩ : ∃ y, m.slots[k].1 = y := ⟨_, rfl⟩
      have eg : (m.slots.getD k default).1 = y := by rw [← hy]; simp [List.getD, hlk]
      have cx := HL.out k hlk
      have cy := HP.out k hlk
      rw [hx] at cx hs
      rw [hy] at cy
      rw [eg] at hs
      obtain ⟨l, hl⟩ : ∃ l, leakP m.slots (cntL m) k = l := ⟨_, rfl⟩
      rw [hl] at hs hle ⊢
      have HS : Hid (leakP m.slots (cntL m) (k + 1) = l + if (y != 0 && x == 0) = true then 1 else 0) := hs
      clear hs hx hy eg hl
      have hl2 : l + 1 ≤ 9223372036854775807 := by omega
      have hk2 : k + 1 ≤ 9223372036854775807 := by omega
      rcases Bool.eq_false_or_eq_true (x == 0) with e1 | e1
      · rcases Bool.eq_false_or_eq_true (y != 0) with e2 | e2
        · go_wp2_with fail
          go_roundw
          case rel => exact ⟨k + 1, by omega, by go_num, (by rw [HS.out, e1, e2]; go_num), (by first | trivial | rfl)⟩
          case measure => simp [intOf]; omega
        · go_wp2_with fail
          go_roundw
          case rel => exact ⟨k + 1, by omega, by go_num, (by rw [HS.out, e1, e2]; rfl), (by first | trivial | rfl)⟩
          case measure => simp [intOf]; omega
      · go_wp2_with fail
        go_roundw
        case rel => exact ⟨k + 1, by omega, by go_num, (by rw [HS.out, e1, Bool.and_false]; rfl), (by first | trivial | rfl)⟩
        case measure => simp [intOf]; omega
    · have ek : k = m.slots.length := by omega
      subst ek
      go_wp2_with fail
      go_ret
      exact ⟨by rw [← hu]; rfl, hB⟩
theorem leaksOf_is {w : World} {v : Value} {m : ImgD} (h : Img w v m) (hE : shapeE m = 0) {u : Nat} (hu : leakN m.slots (cntL m) = u) : Calls Try.prog 22 #[v] w fun r w' => r = .returned (.int .i64 (u : Int)) ∧ Below w.heap.size w w' := by
  have h' := h
  obtain ⟨ra, rc, sa, sc, fa, fc, na, nc, rfl, _⟩ := h.parts
  have h1 := (slotsE_parts (shapeE_zero hE).2.1).1
  obtain ⟨sb, so, sc', e, _, hbl, hps⟩ := h'.four.2.1.open h1
  simp only [Value.slice.injEq] at e
  obtain ⟨rfl, _, rfl⟩ := e
  exact leaksOf_at ra rc sb so _ fa fc na nc m w h' hE (fun j hj => (hps j hj).choose_spec.1) hbl u hu
end Go.Proofs.Ytehleeibgkpjmae
/- Contracts of the document's CheckImage, look, LookError, LookOf. -/
namespace Go.Proofs.Ytehleeibgkpjmae
open Go.RowKit Go.Shelf
theorem lookR_hole (gm : Int) (ra : Option Addr) (rn rc : Nat) (sa : Option Addr) (sn sc : Nat) (fa : Option Addr) (fn fc : Nat) (na : Option Addr) (nn nc : Nat) (qb qo qn qc n : Nat) (w : World) (hn : n < 16) (hqn : n / 4 < qn) (hqb : qb < w.heap.size) (hc : w.cell? ⟨qb, qo + n / 4, none⟩ = some (.int .i64 0)) :
    Calls Try.prog 88 #[.agg #[.int .i64 gm, .slice ra rn rc, .slice sa sn sc, .slice fa fn fc, .slice na nn nc], .slice (some ⟨qb, qo, none⟩) qn qc, .int .i64 n] w fun r w' => r = .returned (.int .i64 0) ∧ Below w.heap.size w w' := by
  have b0 : Below w.heap.size w (w.alloc (.cells #[.int .i64 gm, .slice ra rn rc, .slice sa sn sc, .slice fa fn fc, .slice na nn nc] 26)) := (Below.refl _ _).alloc (Nat.le_refl _) _
  have cr := (b0.cell (p := ⟨qb, qo + n / 4, none⟩) hqb).trans hc
  have hq : ((n : Int) / 4).toNat = n / 4 := by omega
  go_enter Try.func88, Try.ntmps88
  go_wp2_with fail
  go_ret
  exact ⟨rfl, b0⟩
theorem lookR_tab (gm : Int) (ra : Option Addr) (rn rc : Nat) (sb so : Nat) (sn sc : Nat) (fa : Option Addr) (fn fc : Nat) (na : Option Addr) (nn nc : Nat) (qb qo qn qc n : Nat) (t : Nat) (x : Int) (w : World) (hn : n < 16) (hqn : n / 4 < qn) (hqb : qb < w.heap.size) (hc : w.cell? ⟨qb, qo + n / 4, none⟩ = some (.int .i64 t)) (ht : 0 < t) (hts : t < sn) (hsb : sb < w.heap.size)
    (tb tw tc : Nat) (hct : w.cell? ⟨sb, so + t * 3 + 2, none⟩ = some (.slice (some ⟨tb, tw, none⟩) 4 tc)) (htb : tb < w.heap.size) (hx : w.cell? ⟨tb, tw + n % 4, none⟩ = some (.int .i64 x)) :
    Calls Try.prog 88 #[.agg #[.int .i64 gm, .slice ra rn rc, .slice (some ⟨sb, so, none⟩) sn sc, .slice fa fn fc, .slice na nn nc], .slice (some ⟨qb, qo, none⟩) qn qc, .int .i64 n] w fun r w' => r = .returned (.int .i64 x) ∧ Below w.heap.size w w' := by
  have b0 : Below w.heap.size w (w.alloc (.cells #[.int .i64 gm, .slice ra rn rc, .slice (some ⟨sb, so, none⟩) sn sc, .slice fa fn fc, .slice na nn nc] 26)) := (Below.refl _ _).alloc (Nat.le_refl _) _
  have cr := (b0.cell (p := ⟨qb, qo + n / 4, none⟩) hqb).trans hc
  have ct := (b0.cell (p := ⟨sb, so + t * 3 + 2, none⟩) hsb).trans hct
  have cx := (b0.cell (p := ⟨tb, tw + n % 4, none⟩) htb).trans hx
  have hq : ((n : Int) / 4).toNat = n / 4 := by omega
  have hq2 : ((n : Int) % 4).toNat = n % 4 := by omega
  have hne : ((t : Int) == 0) = false := by simp; omega
  have h4 : n % 4 < 4 := by omega
  go_enter Try.func88, Try.ntmps88
  go_wp2_with fail
  go_ret
  exact ⟨rfl, b0⟩
/-- The entry of page n of a Root that fits. -/
theorem lookR_is {w : World} {v rv : Value} {m : ImgD} {root : List Int} (h : Img w v m) (hr : Sl w rv root) (hs : slotsE m.slots = 0) (hall : root.all (rootE m.slots) = true) (n : Nat) (hn : n < 16) (hl : n / 4 < root.length) {c : Int} (hc : lookV m root n = c) :
    Calls Try.prog 88 #[v, rv, .int .i64 n] w fun r w' => r = .returned (.int .i64 c) ∧ Below w.heap.size w w' := by
  obtain ⟨ra, rc, sa, sc, fa, fc, na, nc, rfl, h1, h2, h3, h4⟩ := h.parts
  have hE2 := all_at hall hl
  obtain ⟨rb, ro, qc, rfl, _, hrb, hcell⟩ := hr.open (by omega)
  have hcr := hcell (n / 4) hl
  unfold lookV at hc
  by_cases hz : root.getD (n / 4) 0 = 0
  · rw [if_pos hz] at hc
    subst hc
    rw [hz] at hcr
    exact lookR_hole m.guest ra _ rc sa _ sc fa _ fc na _ nc rb ro _ qc n w hn hl hrb hcr
  · rw [if_neg hz] at hc
    rw [rootE_x hz] at hE2
    obtain ⟨t, ht, htl, hkd⟩ := isKd_yes hE2
    have hok := okD_tab (slotsE_all hs htl) hkd
    obtain ⟨sb, so, sc', e, _, hsb, hcl⟩ := h2.open (by omega)
    simp at e
    obtain ⟨rfl, rfl⟩ := e
    obtain ⟨tv, _, _, c3, hsl⟩ := hcl t htl
    obtain ⟨tb, tw, tc, rfl, _, htb, htc⟩ := hsl.four hok.1
    rw [ht] at hcr hc hz
    have e4 : tabOf m.slots (t : Int) = m.slots[t].2.2 := by unfold tabOf; simp [List.getD, htl]
    rw [e4] at hc
    have hx := htc (n % 4) (by omega)
    rw [hc] at hx
    exact lookR_tab m.guest ra _ rc sb so _ sc fa _ fc na _ nc rb ro _ qc n t c w hn hl hrb hcr (by omega) htl hsb tb tw tc c3 htb hx

theorem lookOf_at (gm : Int) (ra : Option Addr) (rn rc : Nat) (sa : Option Addr) (sn sc : Nat) (fa : Option Addr) (fn fc : Nat) (na : Option Addr) (nn nc : Nat) (m : ImgD) (n : Nat) (c : Int) (w : World) (h : Img w (.agg #[.int .i64 gm, .slice ra rn rc, .slice sa sn sc, .slice fa fn fc, .slice na nn nc]) m) (hr : Sl w (.slice ra rn rc) m.root) (hs : slotsE m.slots = 0) (hall : m.root.all (rootE m.slots) = true) (hn : n < 16) (hl : n / 4 < m.root.length) (hc : lookV m m.root n = c) :
    Calls Try.prog 62 #[.agg #[.int .i64 gm, .slice ra rn rc, .slice sa sn sc, .slice fa fn fc, .slice na nn nc], .int .i64 n] w fun r w' => r = .returned (.int .i64 c) ∧ Below w.heap.size w w' := by
  have b0 : Below w.heap.size w (w.alloc (.cells #[.int .i64 gm, .slice ra rn rc, .slice sa sn sc, .slice fa fn fc, .slice na nn nc] 26)) := (Below.refl _ _).alloc (Nat.le_refl _) _
  have hcall := lookR_is (h.below b0) (hr.below b0) hs hall n hn hl hc
  clear h hr hs hall hc hl
  go_enter Try.func62, Try.ntmps62
  go_wp2_with (go_at_call 88; refine hcall.mono ?_; rintro e w1 ⟨rfl, b1⟩)
  go_ret
  exact ⟨rfl, Below.on b0 b1⟩
theorem lookOf_is {w : World} {v : Value} {m : ImgD} (h : Img w v m) (n : Int) (hE : lookE m n = 0) {c : Int} (hc : lookV m m.root n.toNat = c) :
    Calls Try.prog 62 #[v, .int .i64 n] w fun r w' => r = .returned (.int .i64 c) ∧ Below w.heap.size w w' := by
  have h' := h
  obtain ⟨ra, rc, sa, sc, fa, fc, na, nc, rfl, h1, h2, h3, h4⟩ := h.parts
  unfold lookE at hE
  split at hE
  · rename_i h0; exact absurd hE h0
  rename_i h0
  have h0 : checkE m = 0 := Classical.not_not.1 h0
  split at hE
  · rename_i hn
    have hsh := checkE_shape h0
    have hg := guest_ok hsh
    have hro := root_ok hsh
    obtain ⟨k, rfl⟩ : ∃ k : Nat, n = k := ⟨n.toNat, by omega⟩
    rw [Int.toNat_natCast] at hc
    exact lookOf_at m.guest ra _ rc sa _ sc fa _ fc na _ nc m k c w h' h1 (shapeE_zero hsh).2.1 hro.2 (by omega) (by omega) hc
  · simp at hE
end Go.Proofs.Ytehleeibgkpjmae
/- Contract of pair: the image that every beginning looks at. -/
namespace Go.Proofs.Ytehleeibgkpjmae
open Go.RowKit Go.Shelf
set_option maxRecDepth 20000

def aaaa : ByteArray := ⟨#[97, 97, 97, 97]⟩
def bbbb : ByteArray := ⟨#[98, 98, 98, 98]⟩
def nOld : ByteArray := ⟨#[111, 108, 100]⟩

/-- The image of pair, where its second table and its Refs may have been changed. -/
def pairD (g : Int) (R T : List Int) : ImgD := ⟨g, [2, 4], [(0, ⟨#[]⟩, []), (1, aaaa, []), (2, ⟨#[]⟩, [1, 0, -1, 1]), (1, bbbb, []), (2, ⟨#[]⟩, T)], R, [(nOld, 4, [2])]⟩
structure PairW (n : Nat) (W : World) (R T : List Int) : Prop where
  root : LAt W (n + 1) [2, 4]
  ta : LAt W (n + 2) [1, 0, -1, 1]
  tb : LAt W (n + 3) T
  slots : W.heap[n + 4]? = some (.cells #[.int .i64 0, .string ⟨#[]⟩, .slice none 0 0, .int .i64 1, .string aaaa, .slice none 0 0, .int .i64 2, .string ⟨#[]⟩, .slice (some ⟨n + 2, 0, none⟩) 4 4, .int .i64 1, .string bbbb, .slice none 0 0, .int .i64 2, .string ⟨#[]⟩, .slice (some ⟨n + 3, 0, none⟩) 4 4] 72)
  refs : LAt W (n + 5) R
  sroot : LAt W (n + 6) [2]
  snaps : W.heap[n + 7]? = some (.cells #[.string nOld, .int .i64 4, .slice (some ⟨n + 6, 0, none⟩) 1 1] 64)

theorem alloc_get (W : World) (o : Obj) (i : Nat) : (W.alloc o).heap[i]? = if i = W.heap.size then some o else W.heap[i]? := by
  show (W.heap.push o)[i]? = _
  rw [Array.getElem?_push]

theorem size_alloc (W : World) (o : Obj) : (W.alloc o).heap.size = W.heap.size + 1 := by simp

set_option linter.unusedSimpArgs false in
theorem pair_at (w : World) : Calls Try.prog 42 #[] w fun r w' => r = .returned (.agg #[.int .i64 6, .slice (some ⟨w.heap.size + 1, 0, none⟩) 2 2, .slice (some ⟨w.heap.size + 4, 0, none⟩) 5 5, .slice (some ⟨w.heap.size + 5, 0, none⟩) 5 5, .slice (some ⟨w.heap.size + 7, 0, none⟩) 1 1]) ∧ PairW w.heap.size w' [0, 2, 2, 1, 1] [3, 0, 0, 0] ∧ Below w.heap.size w w' := by
  go_enter Try.func42, Try.ntmps42
  go_wp2
  refine bodyPost_ret (v := .agg #[.int .i64 6, .slice (some ⟨w.heap.size + 1, 0, none⟩) 2 2, .slice (some ⟨w.heap.size + 4, 0, none⟩) 5 5, .slice (some ⟨w.heap.size + 5, 0, none⟩) 5 5, .slice (some ⟨w.heap.size + 7, 0, none⟩) 1 1]) (by simp [results, Try.results42, go_sem]) rfl ⟨rfl, ⟨?_, ?_, ?_, ?_, ?_, ?_, ?_⟩, ?_⟩
  · show _ = _; simp only [alloc_get, size_alloc, Nat.add_right_cancel_iff, Nat.add_assoc, Nat.reduceAdd, Nat.add_left_cancel_iff, Nat.reduceEqDiff, ↓reduceIte, List.map, Nat.left_eq_add, reduceCtorEq, Nat.add_eq_left, Nat.succ_ne_self]
  · show _ = _; simp only [alloc_get, size_alloc, Nat.add_right_cancel_iff, Nat.add_assoc, Nat.reduceAdd, Nat.add_left_cancel_iff, Nat.reduceEqDiff, ↓reduceIte, List.map, Nat.left_eq_add, reduceCtorEq, Nat.add_eq_left, Nat.succ_ne_self]
  · show _ = _; simp only [alloc_get, size_alloc, Nat.add_right_cancel_iff, Nat.add_assoc, Nat.reduceAdd, Nat.add_left_cancel_iff, Nat.reduceEqDiff, ↓reduceIte, List.map, Nat.left_eq_add, reduceCtorEq, Nat.add_eq_left, Nat.succ_ne_self]
  · show _ = _; simp only [alloc_get, size_alloc, Nat.add_assoc, Nat.reduceAdd, Nat.add_left_cancel_iff, Nat.reduceEqDiff, ↓reduceIte, aaaa, bbbb]
  · show _ = _; simp only [alloc_get, size_alloc, Nat.add_right_cancel_iff, Nat.add_assoc, Nat.reduceAdd, Nat.add_left_cancel_iff, Nat.reduceEqDiff, ↓reduceIte, List.map, Nat.left_eq_add, reduceCtorEq, Nat.add_eq_left, Nat.succ_ne_self]
  · show _ = _; simp only [alloc_get, size_alloc, Nat.add_right_cancel_iff, Nat.add_assoc, Nat.reduceAdd, Nat.add_left_cancel_iff, Nat.reduceEqDiff, ↓reduceIte, List.map, Nat.left_eq_add, reduceCtorEq, Nat.add_eq_left, Nat.succ_ne_self]
  · show _ = _; simp only [alloc_get, size_alloc, Nat.add_assoc, Nat.reduceAdd, Nat.add_left_cancel_iff, Nat.reduceEqDiff, ↓reduceIte, nOld]
  · exact ((((((((Below.refl _ _).alloc (Nat.le_refl _) _).alloc (by simp) _).alloc (by simp; omega) _).alloc (by simp; omega) _).alloc (by simp; omega) _).alloc (by simp; omega) _).alloc (by simp; omega) _).alloc (by simp; omega) _

theorem PairW.below {n : Nat} {W W' : World} {R T : List Int} (h : PairW n W R T) {k : Nat} (hb : Below k W W') (hk : n + 8 ≤ k) : PairW n W' R T :=
  ⟨(hb.block _ (by omega)).trans h.root, (hb.block _ (by omega)).trans h.ta, (hb.block _ (by omega)).trans h.tb, (hb.block _ (by omega)).trans h.slots, (hb.block _ (by omega)).trans h.refs, (hb.block _ (by omega)).trans h.sroot, (hb.block _ (by omega)).trans h.snaps⟩
theorem PairW.size {n : Nat} {W : World} {R T : List Int} (h : PairW n W R T) : n + 8 ≤ W.heap.size := by
  have := (Array.getElem?_eq_some_iff.1 h.snaps).1; omega
theorem cell_of {W : World} {g : Nat} {A : Array Value} {t : TypeId} {fr : Nat × Nat} (h : W.heap[g]? = some (.cells A t fr)) {j : Nat} {v : Value} (hv : A[j]? = some v) : W.cell? ⟨g, j, none⟩ = some v := by
  simp [World.cell?, h, hv]
theorem PairW.img {n : Nat} {W : World} {R T : List Int} (h : PairW n W R T) (hR : R.length = 5) (hT : T.length = 4) (g : Int) :
    Img W (.agg #[.int .i64 g, .slice (some ⟨n + 1, 0, none⟩) 2 2, .slice (some ⟨n + 4, 0, none⟩) 5 5, .slice (some ⟨n + 5, 0, none⟩) 5 5, .slice (some ⟨n + 7, 0, none⟩) 1 1]) (pairD g R T) := by
  refine ⟨_, _, _, _, rfl, h.root.sl rfl (by decide), ⟨some ⟨n + 4, 0, none⟩, 5, rfl, show (5 : Nat) ≤ maxLen by decide, Nat.le_refl _, fun _ => ⟨n + 4, 0, rfl, (Array.getElem?_eq_some_iff.1 h.slots).1, ?_⟩⟩, h.refs.sl hR (by decide), ⟨some ⟨n + 7, 0, none⟩, 1, rfl, show (1 : Nat) ≤ maxLen by decide, Nat.le_refl _, fun _ => ⟨n + 7, 0, rfl, (Array.getElem?_eq_some_iff.1 h.snaps).1, ?_⟩⟩⟩
  · intro j hj
    have h5 : j < 5 := hj
    match j, h5 with
    | 0, _ => exact ⟨_, cell_of h.slots rfl, cell_of h.slots rfl, cell_of h.slots rfl, Sl.nil W⟩
    | 1, _ => exact ⟨_, cell_of h.slots rfl, cell_of h.slots rfl, cell_of h.slots rfl, Sl.nil W⟩
    | 2, _ => exact ⟨_, cell_of h.slots rfl, cell_of h.slots rfl, cell_of h.slots rfl, h.ta.sl rfl (by decide)⟩
    | 3, _ => exact ⟨_, cell_of h.slots rfl, cell_of h.slots rfl, cell_of h.slots rfl, Sl.nil W⟩
    | 4, _ => exact ⟨_, cell_of h.slots rfl, cell_of h.slots rfl, cell_of h.slots rfl, h.tb.sl hT (by decide)⟩
  · intro j hj
    have h1 : j < 1 := hj
    match j, h1 with
    | 0, _ => exact ⟨_, cell_of h.snaps rfl, cell_of h.snaps rfl, cell_of h.snaps rfl, h.sroot.sl rfl (by decide)⟩
theorem LAt.other {W : World} {g g' : Nat} {l : List Int} (h : LAt W g l) (hne : g ≠ g') (j : Nat) (v : Value) : LAt (W.setCell ⟨g', j, none⟩ v) g l := ((Only.set g' W j v).block g hne).trans h
theorem PairW.setRefs {n : Nat} {W : World} {R T : List Int} (h : PairW n W R T) (j : Nat) (x : Int) : PairW n (W.setCell ⟨n + 5, j, none⟩ (.int .i64 x)) (R.set j x) T :=
  ⟨h.root.other (by omega) _ _, h.ta.other (by omega) _ _, h.tb.other (by omega) _ _, ((Only.set (n + 5) W j _).block _ (by omega)).trans h.slots, h.refs.set j x, h.sroot.other (by omega) _ _, ((Only.set (n + 5) W j _).block _ (by omega)).trans h.snaps⟩
theorem PairW.setTab {n : Nat} {W : World} {R T : List Int} (h : PairW n W R T) (j : Nat) (x : Int) : PairW n (W.setCell ⟨n + 3, j, none⟩ (.int .i64 x)) R (T.set j x) :=
  ⟨h.root.other (by omega) _ _, h.ta.other (by omega) _ _, h.tb.set j x, ((Only.set (n + 3) W j _).block _ (by omega)).trans h.slots, h.refs.other (by omega) _ _, h.sroot.other (by omega) _ _, ((Only.set (n + 3) W j _).block _ (by omega)).trans h.snaps⟩
theorem pair_is (w : World) : Calls Try.prog 42 #[] w fun r w' => (∃ v, r = .returned v ∧ Img w' v (pairD 6 [0, 2, 2, 1, 1] [3, 0, 0, 0])) ∧ Below w.heap.size w w' :=
  (pair_at w).mono fun _ _ h => ⟨⟨_, h.1, h.2.1.img rfl rfl 6⟩, h.2.2⟩
end Go.Proofs.Ytehleeibgkpjmae
/- The image of pair: what is decided of it. -/
namespace Go.Proofs.Ytehleeibgkpjmae
open Go.RowKit Go.Shelf
set_option maxRecDepth 20000

abbrev pD : ImgD := pairD 6 [0, 2, 2, 1, 1] [3, 0, 0, 0]
theorem pD_shape : shapeE pD = 0 := by decide +kernel
theorem pD_check : checkE pD = 0 := by decide +kernel
theorem pD_cnt : cntL pD = [0, 2, 2, 1, 1] := by decide +kernel
theorem pD_look2 : lookE pD 2 = 0 := by decide +kernel
theorem pD_look4 : lookE pD 4 = 0 := by decide +kernel
theorem pD_lv2 : lookV pD pD.root (2 : Int).toNat = -1 := by decide +kernel
theorem pD_lv4 : lookV pD pD.root (4 : Int).toNat = 3 := by decide +kernel
theorem pX_check : checkE (pairD 6 [0, 1, 2, 1, 1] [3, 0, 0, 0]) = 9 := by decide +kernel
theorem pY_shape : shapeE (pairD 5 [0, 2, 2, 1, 1] [3, 3, 0, 0]) = 1 := by decide +kernel

end Go.Proofs.Ytehleeibgkpjmae
/- Contract of SameInts. -/
namespace Go.Proofs.Ytehleeibgkpjmae
open Go.RowKit
set_option maxRecDepth 20000

theorem same_at (ao bo : Option Addr) (n cap cap' : Nat) (xs : List Int) (w : World) (hn : xs.length = n) (hm : n ≤ 9223372036854775807)
    (hc : ∀ j, j < n → ∃ b off, ao = some ⟨b, off, none⟩ ∧ b < w.heap.size ∧ w.cell? ⟨b, off + j, none⟩ = some (.int .i64 (xs.getD j 0)))
    (hd : ∀ j, j < n → ∃ b off, bo = some ⟨b, off, none⟩ ∧ b < w.heap.size ∧ w.cell? ⟨b, off + j, none⟩ = some (.int .i64 (xs.getD j 0))) :
    Calls Try.prog 18 #[.slice ao n cap, .slice bo n cap'] w fun r w' => r = .returned (.bool true) ∧ Below w.heap.size w w' := by
  have HC : Hid (∀ j, j < n → ∃ b off, ao = some ⟨b, off, none⟩ ∧ b < w.heap.size ∧ w.cell? ⟨b, off + j, none⟩ = some (.int .i64 (xs.getD j 0))) := hc
  have HD : Hid (∀ j, j < n → ∃ b off, bo = some ⟨b, off, none⟩ ∧ b < w.heap.size ∧ w.cell? ⟨b, off + j, none⟩ = some (.int .i64 (xs.getD j 0))) := hd
  clear hc hd
  have HN : Hid (xs.length = n) := hn
  clear hn
  go_enter Try.func18, Try.ntmps18
  go_wp2
  go_loopw [5] (fun i wr => ∃ k : Nat, k ≤ n ∧ i = .int .i64 k ∧ Below w.heap.size w wr) (fun i _ => n - (intOf i).toNat)
  case atStart => exact ⟨0, by omega, rfl, Below.refl _ _⟩
  case round =>
    obtain ⟨k, hk, rfl, hbel⟩ := hrel
    by_cases hlt : k < n
    · obtain ⟨x, hx⟩ : ∃ x, xs.getD k 0 = x := ⟨_, rfl⟩
      obtain ⟨b, off, hao, hl1, hck⟩ := HC.out k hlt
      obtain ⟨b', off', hbo, hl2, hck'⟩ := HD.out k hlt
      rw [hx] at hck hck'
      clear hx
      have g1 : wr.cell? ⟨b, off + k, none⟩ = some (.int .i64 x) := (hbel.cell (p := ⟨b, off + k, none⟩) hl1).trans hck
      have g2 : wr.cell? ⟨b', off' + k, none⟩ = some (.int .i64 x) := (hbel.cell (p := ⟨b', off' + k, none⟩) hl2).trans hck'
      have i1 : (k : Int) < (n : Int) := by omega
      go_wp2
      go_quiet (fail)
      go_wp2
      go_roundw
      case rel => exact ⟨k + 1, by omega, by go_num, below_drewN hbel _⟩
      case measure => simp [intOf]; omega
    · have e4 : k = n := by omega
      subst e4
      go_wp2
      go_ret
      exact ⟨rfl, hbel⟩
theorem same_any {v u : Value} {xs : List Int} {w : World} (h : Sl w v xs) (k : Sl w u xs) :
    Calls Try.prog 18 #[v, u] w fun r w' => r = .returned (.bool true) ∧ Below w.heap.size w w' := by
  obtain ⟨ao, cap, rfl⟩ := h.form
  obtain ⟨bo, cap', rfl⟩ := k.form
  obtain ⟨hn, hm, _, hc⟩ := h.cells
  obtain ⟨_, _, _, hd⟩ := k.cells
  exact same_at ao bo _ cap cap' xs w hn hm hc hd

end Go.Proofs.Ytehleeibgkpjmae
/- Contract of mendBegun: it answers true. -/
namespace Go.Proofs.Ytehleeibgkpjmae
open Go.RowKit Go.Shelf
set_option maxRecDepth 20000

/-- The image of pair, where its Root may have been changed. -/
structure PairX (n : Nat) (W : World) (Q R T : List Int) : Prop where
  root : LAt W (n + 1) Q
  ta : LAt W (n + 2) [1, 0, -1, 1]
  tb : LAt W (n + 3) T
  slots : W.heap[n + 4]? = some (.cells #[.int .i64 0, .string ⟨#[]⟩, .slice none 0 0, .int .i64 1, .string aaaa, .slice none 0 0, .int .i64 2, .string ⟨#[]⟩, .slice (some ⟨n + 2, 0, none⟩) 4 4, .int .i64 1, .string bbbb, .slice none 0 0, .int .i64 2, .string ⟨#[]⟩, .slice (some ⟨n + 3, 0, none⟩) 4 4] 72)
  refs : LAt W (n + 5) R
  sroot : LAt W (n + 6) [2]
  snaps : W.heap[n + 7]? = some (.cells #[.string nOld, .int .i64 4, .slice (some ⟨n + 6, 0, none⟩) 1 1] 64)
theorem PairW.x {n : Nat} {W : World} {R T : List Int} (h : PairW n W R T) : PairX n W [2, 4] R T := ⟨h.root, h.ta, h.tb, h.slots, h.refs, h.sroot, h.snaps⟩
theorem PairX.below {n : Nat} {W W' : World} {Q R T : List Int} (h : PairX n W Q R T) {k : Nat} (hb : Below k W W') (hk : n + 8 ≤ k) : PairX n W' Q R T :=
  ⟨(hb.block _ (by omega)).trans h.root, (hb.block _ (by omega)).trans h.ta, (hb.block _ (by omega)).trans h.tb, (hb.block _ (by omega)).trans h.slots, (hb.block _ (by omega)).trans h.refs, (hb.block _ (by omega)).trans h.sroot, (hb.block _ (by omega)).trans h.snaps⟩
theorem PairX.size {n : Nat} {W : World} {Q R T : List Int} (h : PairX n W Q R T) : n + 8 ≤ W.heap.size := by
  have := (Array.getElem?_eq_some_iff.1 h.snaps).1; omega
theorem PairX.setRoot {n : Nat} {W : World} {Q R T : List Int} (h : PairX n W Q R T) (j : Nat) (x : Int) : PairX n (W.setCell ⟨n + 1, j, none⟩ (.int .i64 x)) (Q.set j x) R T :=
  ⟨h.root.set j x, h.ta.other (by omega) _ _, h.tb.other (by omega) _ _, ((Only.set (n + 1) W j _).block _ (by omega)).trans h.slots, h.refs.other (by omega) _ _, h.sroot.other (by omega) _ _, ((Only.set (n + 1) W j _).block _ (by omega)).trans h.snaps⟩
def pairL (T : List Int) : List SlotD := [(0, ⟨#[]⟩, []), (1, aaaa, []), (2, ⟨#[]⟩, [1, 0, -1, 1]), (1, bbbb, []), (2, ⟨#[]⟩, T)]
def pairS : List SnapD := [(nOld, 4, [2])]
theorem PairX.slotsOf {n : Nat} {W : World} {Q R T : List Int} (h : PairX n W Q R T) (hT : T.length = 4) : Slots W (.slice (some ⟨n + 4, 0, none⟩) 5 5) (pairL T) := by
  refine ⟨some ⟨n + 4, 0, none⟩, 5, rfl, show (5 : Nat) ≤ maxLen by decide, Nat.le_refl _, fun _ => ⟨n + 4, 0, rfl, (Array.getElem?_eq_some_iff.1 h.slots).1, ?_⟩⟩
  intro j hj
  have h5 : j < 5 := hj
  match j, h5 with
  | 0, _ => exact ⟨_, cell_of h.slots rfl, cell_of h.slots rfl, cell_of h.slots rfl, Sl.nil W⟩
  | 1, _ => exact ⟨_, cell_of h.slots rfl, cell_of h.slots rfl, cell_of h.slots rfl, Sl.nil W⟩
  | 2, _ => exact ⟨_, cell_of h.slots rfl, cell_of h.slots rfl, cell_of h.slots rfl, h.ta.sl rfl (by decide)⟩
  | 3, _ => exact ⟨_, cell_of h.slots rfl, cell_of h.slots rfl, cell_of h.slots rfl, Sl.nil W⟩
  | 4, _ => exact ⟨_, cell_of h.slots rfl, cell_of h.slots rfl, cell_of h.slots rfl, h.tb.sl hT (by decide)⟩
theorem PairX.snapsOf {n : Nat} {W : World} {Q R T : List Int} (h : PairX n W Q R T) : Snaps W (.slice (some ⟨n + 7, 0, none⟩) 1 1) pairS := by
  refine ⟨some ⟨n + 7, 0, none⟩, 1, rfl, show (1 : Nat) ≤ maxLen by decide, Nat.le_refl _, fun _ => ⟨n + 7, 0, rfl, (Array.getElem?_eq_some_iff.1 h.snaps).1, ?_⟩⟩
  intro j hj
  have h1 : j < 1 := hj
  match j, h1 with
  | 0, _ => exact ⟨_, cell_of h.snaps rfl, cell_of h.snaps rfl, cell_of h.snaps rfl, h.sroot.sl rfl (by decide)⟩
/-- What mendBegun looks at. -/
def mbD : ImgD := ⟨6, [2, 0], pairL [3, 0, 0, 0], [0, 9, 9, 9, 9], pairS⟩
def mbX : ImgD := ⟨6, [2, 0], [(0, ⟨#[]⟩, []), (1, aaaa, []), (2, ⟨#[]⟩, [1, 0, -1, 1]), (0, ⟨#[]⟩, []), (0, ⟨#[]⟩, [])], [0, 2, 2, 0, 0], pairS⟩
theorem mb_shape : shapeE mbD = 0 := by decide +kernel
theorem mb_leaks : leaksA mbD = 2 := by decide +kernel
theorem mb_fixed : countedD mbD = mbX := by kernel_rfl
theorem mb_check : checkE mbX = 0 := by decide +kernel






set_option maxHeartbeats 4000000 in
theorem mendBegun_any (w : World) : Calls Try.prog 24 #[] w fun r w' => r = .returned (.bool true) ∧ Below w.heap.size w w' := by
  go_enter Try.func24, Try.ntmps24
  go_wp2_with fail
  refine (pair_at _).mono ?_
  rintro e w1 ⟨rfl, p1, b1⟩
  have h1 := p1.size
  have a1 : Below w1.heap.size w1 ((w1.alloc (.cells #[.int .i64 6, .slice (some ⟨w.heap.size + 1, 0, none⟩) 2 2, .slice (some ⟨w.heap.size + 4, 0, none⟩) 5 5, .slice (some ⟨w1.heap.size + 1, 0, none⟩) 5 5, .slice (some ⟨w.heap.size + 7, 0, none⟩) 1 1] 26)).alloc (.cells #[.int .i64 0, .int .i64 9, .int .i64 9, .int .i64 9, .int .i64 9] 3)) := ((Below.refl _ _).alloc (Nat.le_refl _) _).alloc (by simp) _
  have p2 := p1.x.below a1 h1
  have c1 : ((w1.alloc (.cells #[.int .i64 6, .slice (some ⟨w.heap.size + 1, 0, none⟩) 2 2, .slice (some ⟨w.heap.size + 4, 0, none⟩) 5 5, .slice (some ⟨w1.heap.size + 1, 0, none⟩) 5 5, .slice (some ⟨w.heap.size + 7, 0, none⟩) 1 1] 26)).alloc (.cells #[.int .i64 0, .int .i64 9, .int .i64 9, .int .i64 9, .int .i64 9] 3)).cell? ⟨w.heap.size + 1, 1, none⟩ = some (.int .i64 4) := p2.root.cell (j := 1) (by decide)
  have f1 := p2.root.frozen 1
  have m2 : ((w1.alloc (.cells #[.int .i64 6, .slice (some ⟨w.heap.size + 1, 0, none⟩) 2 2, .slice (some ⟨w.heap.size + 4, 0, none⟩) 5 5, .slice (some ⟨w1.heap.size + 1, 0, none⟩) 5 5, .slice (some ⟨w.heap.size + 7, 0, none⟩) 1 1] 26)).alloc (.cells #[.int .i64 0, .int .i64 9, .int .i64 9, .int .i64 9, .int .i64 9] 3)).heap[w1.heap.size]? = some (.cells #[.int .i64 6, .slice (some ⟨w.heap.size + 1, 0, none⟩) 2 2, .slice (some ⟨w.heap.size + 4, 0, none⟩) 5 5, .slice (some ⟨w1.heap.size + 1, 0, none⟩) 5 5, .slice (some ⟨w.heap.size + 7, 0, none⟩) 1 1] 26) := cells_alloc (World.alloc_heap_new _ _) _
  have l2 : LAt ((w1.alloc (.cells #[.int .i64 6, .slice (some ⟨w.heap.size + 1, 0, none⟩) 2 2, .slice (some ⟨w.heap.size + 4, 0, none⟩) 5 5, .slice (some ⟨w1.heap.size + 1, 0, none⟩) 5 5, .slice (some ⟨w.heap.size + 7, 0, none⟩) 1 1] 26)).alloc (.cells #[.int .i64 0, .int .i64 9, .int .i64 9, .int .i64 9, .int .i64 9] 3)) (w1.heap.size + 1) [0, 9, 9, 9, 9] := by
    have := World.alloc_heap_new (w1.alloc (.cells #[.int .i64 6, .slice (some ⟨w.heap.size + 1, 0, none⟩) 2 2, .slice (some ⟨w.heap.size + 4, 0, none⟩) 5 5, .slice (some ⟨w1.heap.size + 1, 0, none⟩) 5 5, .slice (some ⟨w.heap.size + 7, 0, none⟩) 1 1] 26)) (.cells #[.int .i64 0, .int .i64 9, .int .i64 9, .int .i64 9, .int .i64 9] 3)
    rw [show (w1.alloc (.cells #[.int .i64 6, .slice (some ⟨w.heap.size + 1, 0, none⟩) 2 2, .slice (some ⟨w.heap.size + 4, 0, none⟩) 5 5, .slice (some ⟨w1.heap.size + 1, 0, none⟩) 5 5, .slice (some ⟨w.heap.size + 7, 0, none⟩) 1 1] 26)).heap.size = w1.heap.size + 1 by simp] at this
    exact this
  have p3 := p2.setRoot 1 0
  have m3 := cells_other m2 (show w1.heap.size ≠ w.heap.size + 1 by omega) 1 (.int .i64 0)
  have l3 := l2.other (show w1.heap.size + 1 ≠ w.heap.size + 1 by omega) 1 (.int .i64 0)
  have n1 : ¬ w1.heap.size = w.heap.size + 1 := by omega
  have n2 : ¬ w.heap.size + 1 = w1.heap.size := by omega
  have n3 : ¬ w.heap.size + 1 = w1.heap.size + 1 := by omega
  have hI : Img (((w1.alloc (.cells #[.int .i64 6, .slice (some ⟨w.heap.size + 1, 0, none⟩) 2 2, .slice (some ⟨w.heap.size + 4, 0, none⟩) 5 5, .slice (some ⟨w1.heap.size + 1, 0, none⟩) 5 5, .slice (some ⟨w.heap.size + 7, 0, none⟩) 1 1] 26)).alloc (.cells #[.int .i64 0, .int .i64 9, .int .i64 9, .int .i64 9, .int .i64 9] 3)).setCell ⟨w.heap.size + 1, 1, none⟩ (.int .i64 0)) (.agg #[.int .i64 6, .slice (some ⟨w.heap.size + 1, 0, none⟩) 2 2, .slice (some ⟨w.heap.size + 4, 0, none⟩) 5 5, .slice (some ⟨w1.heap.size + 1, 0, none⟩) 5 5, .slice (some ⟨w.heap.size + 7, 0, none⟩) 1 1]) mbD := ⟨_, _, _, _, rfl, p3.root.sl rfl (by decide), p3.slotsOf rfl, l3.sl rfl (by decide), p3.snapsOf⟩
  have hB : Below w.heap.size w (((w1.alloc (.cells #[.int .i64 6, .slice (some ⟨w.heap.size + 1, 0, none⟩) 2 2, .slice (some ⟨w.heap.size + 4, 0, none⟩) 5 5, .slice (some ⟨w1.heap.size + 1, 0, none⟩) 5 5, .slice (some ⟨w.heap.size + 7, 0, none⟩) 1 1] 26)).alloc (.cells #[.int .i64 0, .int .i64 9, .int .i64 9, .int .i64 9, .int .i64 9] 3)).setCell ⟨w.heap.size + 1, 1, none⟩ (.int .i64 0)) := (b1.trans (a1.mono (by omega))).setCell (show w.heap.size ≤ w.heap.size + 1 by omega) _
  clear p1 p2 p3 m2 l2 l3 b1 a1
  obtain ⟨d0, d1, d2, d3, d4⟩ := five m3
  go_wp2_with fail
  obtain ⟨W3, hW3⟩ : ∃ W3, ((w1.alloc (.cells #[.int .i64 6, .slice (some ⟨w.heap.size + 1, 0, none⟩) 2 2, .slice (some ⟨w.heap.size + 4, 0, none⟩) 5 5, .slice (some ⟨w1.heap.size + 1, 0, none⟩) 5 5, .slice (some ⟨w.heap.size + 7, 0, none⟩) 1 1] 26)).alloc (.cells #[.int .i64 0, .int .i64 9, .int .i64 9, .int .i64 9, .int .i64 9] 3)).setCell ⟨w.heap.size + 1, 1, none⟩ (.int .i64 0) = W3 := ⟨_, rfl⟩
  rw [hW3] at hI hB m3 ⊢
  clear hW3 c1 f1 n1 n2 n3 d0 d1 d2 d3 d4
  refine (leaks_is hI mb_shape mb_leaks).mono ?_
  rintro e w3 ⟨rfl, bb⟩
  have mb_m := cells_below m3 bb (Array.getElem?_eq_some_iff.1 m3).1
  replace hB := Below.on hB bb
  have I_m := hI.below bb
  clear bb hI m3
  obtain ⟨m0, m1, m2, m3, m4⟩ := five mb_m
  go_wp2_with fail
  refine (repair_ok I_m (fits_of_shape mb_shape) mb_shape mb_fixed).mono ?_
  intro e w4 hA
  obtain ⟨val, xr, xrc, xs, xsc, xf, xfc, xn, xnc, rfl, hO, bb, hI⟩ := hA.open
  dsimp only
  have I_x := hO.img
  rw [hI] at I_x
  clear hA hO hI
  rw [show mbX.guest = 6 from rfl, show mbX.root.length = 2 from rfl, show mbX.slots.length = 5 from rfl, show mbX.refs.length = 5 from rfl, show mbX.snaps.length = 1 from rfl] at I_x ⊢
  clear m0 m1 m2 m3 m4
  replace mb_m := cells_below mb_m bb (Array.getElem?_eq_some_iff.1 mb_m).1
  replace hB := Below.on hB bb
  replace I_m := I_m.below bb
  clear bb
  clear mb_m
  clear I_m
  have ba : Below w4.heap.size w4 (w4.alloc (.cells #[.int .i64 6, .slice xr 2 xrc, .slice xs 5 xsc, .slice xf 5 xfc, .slice xn 1 xnc] 26)) := (Below.refl _ _).alloc (Nat.le_refl _) _
  replace hB := Below.on hB ba
  replace I_x := I_x.below ba
  clear ba
  have mb_x : (w4.alloc (.cells #[.int .i64 6, .slice xr 2 xrc, .slice xs 5 xsc, .slice xf 5 xfc, .slice xn 1 xnc] 26)).heap[w4.heap.size]? = some (.cells #[.int .i64 6, .slice xr 2 xrc, .slice xs 5 xsc, .slice xf 5 xfc, .slice xn 1 xnc] 26) := World.alloc_heap_new _ _
  obtain ⟨x0, x1, x2, x3, x4⟩ := five mb_x
  go_wp2_with fail
  refine (tcheck_is I_x mb_check).mono ?_
  rintro e w5 ⟨rfl, bb⟩
  clear x0 x1 x2 x3 x4
  replace mb_x := cells_below mb_x bb (Array.getElem?_eq_some_iff.1 mb_x).1
  replace hB := Below.on hB bb
  replace I_x := I_x.below bb
  clear bb
  have hn5 := Sl_new w5 [0, 2, 2, 0, 0] 5 rfl (by decide)
  have hr5 := I_x.four.2.2.1
  obtain ⟨pb, po, pc, e, _, hpl, hps⟩ := I_x.four.2.1.open (by decide)
  simp only [Value.slice.injEq] at e
  obtain ⟨rfl, hh, rfl⟩ := e
  clear hh
  obtain ⟨z0, z1, z2, z3, z4⟩ := five mb_x
  obtain ⟨tv, q0, q1, q2, qs⟩ := hps 3 (by decide)
  have ba : Below w5.heap.size w5 (w5.alloc (.cells #[.int .i64 0, .int .i64 2, .int .i64 2, .int .i64 0, .int .i64 0] 3)) := (Below.refl _ _).alloc (Nat.le_refl _) _
  replace mb_x := cells_alloc mb_x (.cells #[.int .i64 0, .int .i64 2, .int .i64 2, .int .i64 0, .int .i64 0] 3)
  replace hB := Below.on hB ba
  have q0 : w5.cell? ⟨pb, po + 9, none⟩ = some (.int .i64 0) := q0
  replace q0 := (ba.cell (p := ⟨pb, po + 9, none⟩) hpl).trans q0
  have hpl2 : pb < (w5.alloc (.cells #[.int .i64 0, .int .i64 2, .int .i64 2, .int .i64 0, .int .i64 0] 3)).heap.size := Nat.lt_of_lt_of_le hpl ba.size
  have hsame := same_any (hr5.below ba) hn5
  clear q1 q2 qs hps hr5 hn5 ba I_x
  obtain ⟨x0, x1, x2, x3, x4⟩ := five mb_x
  go_wp2_with fail
  refine (hsame).mono ?_
  rintro e w6 ⟨rfl, bb⟩
  clear x0 x1 x2 x3 x4
  replace mb_x := cells_below mb_x bb (Array.getElem?_eq_some_iff.1 mb_x).1
  replace hB := Below.on hB bb
  have bb0 := bb
  replace q0 := (bb0.cell (p := ⟨pb, po + 9, none⟩) hpl2).trans q0
  obtain ⟨x0, x1, x2, x3, x4⟩ := five mb_x
  go_wp2_with fail
  go_ret
  exact ⟨rfl, hB⟩

end Go.Proofs.Ytehleeibgkpjmae
/- Contract of SameImages: of one image, wherever it lies twice. -/
namespace Go.Proofs.Ytehleeibgkpjmae
open Go.RowKit Go.Shelf
set_option maxRecDepth 20000

set_option maxHeartbeats 4000000 in
theorem sameI_at (m : ImgD) (ra : Option Addr) (rc : Nat) (sa : Option Addr) (sc : Nat) (fa : Option Addr) (fc : Nat) (na : Option Addr) (nc : Nat) (rb : Option Addr) (rd : Nat) (sb : Option Addr) (sd : Nat) (fb : Option Addr) (fd : Nat) (nb : Option Addr) (nd : Nat) (w : World)
    (h1 : Sl w (.slice ra m.root.length rc) m.root) (h2 : Slots w (.slice sa m.slots.length sc) m.slots) (h3 : Sl w (.slice fa m.refs.length fc) m.refs) (h4 : Snaps w (.slice na m.snaps.length nc) m.snaps)
    (k1 : Sl w (.slice rb m.root.length rd) m.root) (k2 : Slots w (.slice sb m.slots.length sd) m.slots) (k3 : Sl w (.slice fb m.refs.length fd) m.refs) (k4 : Snaps w (.slice nb m.snaps.length nd) m.snaps) :
    Calls Try.prog 25 #[.agg #[.int .i64 m.guest, .slice ra m.root.length rc, .slice sa m.slots.length sc, .slice fa m.refs.length fc, .slice na m.snaps.length nc], .agg #[.int .i64 m.guest, .slice rb m.root.length rd, .slice sb m.slots.length sd, .slice fb m.refs.length fd, .slice nb m.snaps.length nd]] w fun r w' => r = .returned (.bool true) ∧ Below w.heap.size w w' := by
  have b0 : Below w.heap.size w ((w.alloc (.cells #[.int .i64 m.guest, .slice ra m.root.length rc, .slice sa m.slots.length sc, .slice fa m.refs.length fc, .slice na m.snaps.length nc] 26)).alloc (.cells #[.int .i64 m.guest, .slice rb m.root.length rd, .slice sb m.slots.length sd, .slice fb m.refs.length fd, .slice nb m.snaps.length nd] 26)) := ((Below.refl _ _).alloc (Nat.le_refl _) _).alloc (by simp) _
  have m0 : ((w.alloc (.cells #[.int .i64 m.guest, .slice ra m.root.length rc, .slice sa m.slots.length sc, .slice fa m.refs.length fc, .slice na m.snaps.length nc] 26)).alloc (.cells #[.int .i64 m.guest, .slice rb m.root.length rd, .slice sb m.slots.length sd, .slice fb m.refs.length fd, .slice nb m.snaps.length nd] 26)).heap[w.heap.size]? = some (.cells #[.int .i64 m.guest, .slice ra m.root.length rc, .slice sa m.slots.length sc, .slice fa m.refs.length fc, .slice na m.snaps.length nc] 26) := cells_alloc (World.alloc_heap_new _ _) _
  have m1 : ((w.alloc (.cells #[.int .i64 m.guest, .slice ra m.root.length rc, .slice sa m.slots.length sc, .slice fa m.refs.length fc, .slice na m.snaps.length nc] 26)).alloc (.cells #[.int .i64 m.guest, .slice rb m.root.length rd, .slice sb m.slots.length sd, .slice fb m.refs.length fd, .slice nb m.snaps.length nd] 26)).heap[w.heap.size + 1]? = some (.cells #[.int .i64 m.guest, .slice rb m.root.length rd, .slice sb m.slots.length sd, .slice fb m.refs.length fd, .slice nb m.snaps.length nd] 26) := by have := World.alloc_heap_new (w.alloc (.cells #[.int .i64 m.guest, .slice ra m.root.length rc, .slice sa m.slots.length sc, .slice fa m.refs.length fc, .slice na m.snaps.length nc] 26)) (.cells #[.int .i64 m.guest, .slice rb m.root.length rd, .slice sb m.slots.length sd, .slice fb m.refs.length fd, .slice nb m.snaps.length nd] 26); simpa using this
  obtain ⟨c0, c1, c2, c3, c4⟩ := five m0
  obtain ⟨d0, d1, d2, d3, d4⟩ := five m1
  have HR := same_any (h1.below b0) (k1.below b0)
  have HF := fun W (hW : Below w.heap.size w W) => same_any (h3.below hW) (k3.below hW)
  have HS : Hid (Slots w (.slice sa m.slots.length sc) m.slots ∧ Slots w (.slice sb m.slots.length sd) m.slots ∧ Snaps w (.slice na m.snaps.length nc) m.snaps ∧ Snaps w (.slice nb m.snaps.length nd) m.snaps) := ⟨h2, k2, h4, k4⟩
  have HL : Hid (m.slots.length ≤ 9223372036854775807 ∧ m.snaps.length ≤ 9223372036854775807) := ⟨h2.small, h4.small⟩
  clear h1 h2 h3 h4 k1 k2 k3 k4
  go_enter Try.func25, Try.ntmps25
  go_wp2_with (first
    | (go_at_call 18; refine (HF _ bw1).mono ?_; rintro e w2 ⟨rfl, b2⟩; have m4 := cells_below m2 b2 (Array.getElem?_eq_some_iff.1 m2).1; have m5 := cells_below m3 b2 (Array.getElem?_eq_some_iff.1 m3).1; obtain ⟨g0, g1, g2, g3, g4⟩ := five m4; obtain ⟨i0, i1, i2, i3, i4⟩ := five m5; have bw2 := Below.on bw1 b2)
    | (go_at_call 18; refine HR.mono ?_; rintro e w1 ⟨rfl, b1⟩; have m2 := cells_below m0 b1 (by simp <;> omega); have m3 := cells_below m1 b1 (by simp <;> omega); obtain ⟨e0, e1, e2, e3, e4⟩ := five m2; obtain ⟨f0, f1, f2, f3, f4⟩ := five m3; have bw1 := Below.on b0 b1))
  have HB : Hid (w2.heap[w.heap.size]? = some (.cells #[.int .i64 m.guest, .slice ra m.root.length rc, .slice sa m.slots.length sc, .slice fa m.refs.length fc, .slice na m.snaps.length nc] 26) ∧ w2.heap[w.heap.size + 1]? = some (.cells #[.int .i64 m.guest, .slice rb m.root.length rd, .slice sb m.slots.length sd, .slice fb m.refs.length fd, .slice nb m.snaps.length nd] 26) ∧ Below w.heap.size w w2) := ⟨m4, m5, bw2⟩
  clear c0 c1 c2 c3 c4 d0 d1 d2 d3 d4 e0 e1 e2 e3 e4 f0 f1 f2 f3 f4 g0 g1 g2 g3 g4 i0 i1 i2 i3 i4 m0 m1 m2 m3 m4 m5 b0 b1 b2 bw1 bw2 HR HF
  go_loopw [5] (fun i wr => ∃ k : Nat, k ≤ m.slots.length ∧ i = .int .i64 k ∧ Hid (wr.heap[w.heap.size]? = some (.cells #[.int .i64 m.guest, .slice ra m.root.length rc, .slice sa m.slots.length sc, .slice fa m.refs.length fc, .slice na m.snaps.length nc] 26) ∧ wr.heap[w.heap.size + 1]? = some (.cells #[.int .i64 m.guest, .slice rb m.root.length rd, .slice sb m.slots.length sd, .slice fb m.refs.length fd, .slice nb m.snaps.length nd] 26) ∧ Below w.heap.size w wr)) (fun i _ => m.slots.length - (intOf i).toNat)
  case atStart => exact ⟨0, Nat.zero_le _, rfl, HB⟩
  case round =>
    obtain ⟨k, hk, rfl, HC⟩ := hrel
    obtain ⟨mA, mB, hb⟩ := HC.out
    obtain ⟨c0, c1, c2, c3, c4⟩ := five mA
    obtain ⟨d0, d1, d2, d3, d4⟩ := five mB
    have hL := HL.out.1
    by_cases hlk : k < m.slots.length
    · have hki : (k : Int) < (m.slots.length : Int) := by omega
      have hL1 : (k : Int) + 1 ≤ 9223372036854775807 := by omega
      obtain ⟨pb, po, pc, e, _, hpl, hps⟩ := HS.out.1.open (by omega)
      simp at e
      obtain ⟨rfl, rfl⟩ := e
      obtain ⟨qb, qo, qc, e, _, hql, hqs⟩ := HS.out.2.1.open (by omega)
      simp at e
      obtain ⟨rfl, rfl⟩ := e
      obtain ⟨s, hs⟩ : ∃ s, m.slots[k] = s := ⟨_, rfl⟩
      obtain ⟨kk, dd, tt⟩ := s
      obtain ⟨tv, p0, p1, p2, ps⟩ := hps k hlk
      obtain ⟨uv, q0, q1, q2, qs⟩ := hqs k hlk
      rw [hs] at p0 p1 ps q0 q1 qs
      obtain ⟨ta, tc, rfl⟩ := ps.form
      obtain ⟨ua, uc, rfl⟩ := qs.form
      have p0 : wr.cell? ⟨pb, po + k * 3, none⟩ = some (.int .i64 kk) := (hb.cell (p := ⟨pb, po + k * 3, none⟩) hpl).trans p0
      have p1 : wr.cell? ⟨pb, po + k * 3 + 1, none⟩ = some (.string dd) := (hb.cell (p := ⟨pb, po + k * 3 + 1, none⟩) hpl).trans p1
      have p2 : wr.cell? ⟨pb, po + k * 3 + 1 + 1, none⟩ = some (.slice ta tt.length tc) := (hb.cell (p := ⟨pb, po + k * 3 + 1 + 1, none⟩) hpl).trans p2
      have q0 : wr.cell? ⟨qb, qo + k * 3, none⟩ = some (.int .i64 kk) := (hb.cell (p := ⟨qb, qo + k * 3, none⟩) hql).trans q0
      have q1 : wr.cell? ⟨qb, qo + k * 3 + 1, none⟩ = some (.string dd) := (hb.cell (p := ⟨qb, qo + k * 3 + 1, none⟩) hql).trans q1
      have q2 : wr.cell? ⟨qb, qo + k * 3 + 1 + 1, none⟩ = some (.slice ua tt.length uc) := (hb.cell (p := ⟨qb, qo + k * 3 + 1 + 1, none⟩) hql).trans q2
      have hcall := same_any (w := wr.drew) (ps.below (to_drew hb)) (qs.below (to_drew hb))
      have hpw : pb < wr.heap.size := Nat.lt_of_lt_of_le hpl hb.size
      have hqw : qb < wr.heap.size := Nat.lt_of_lt_of_le hql hb.size
      have HN : Hid (∀ W, Below wr.heap.size wr W → W.heap[w.heap.size]? = some (.cells #[.int .i64 m.guest, .slice ra m.root.length rc, .slice (some ⟨pb, po, none⟩) m.slots.length sc, .slice fa m.refs.length fc, .slice na m.snaps.length nc] 26) ∧ W.heap[w.heap.size + 1]? = some (.cells #[.int .i64 m.guest, .slice rb m.root.length rd, .slice (some ⟨qb, qo, none⟩) m.slots.length sd, .slice fb m.refs.length fd, .slice nb m.snaps.length nd] 26) ∧ Below w.heap.size w W) := fun W hW => ⟨cells_below mA hW (Array.getElem?_eq_some_iff.1 mA).1, cells_below mB hW (Array.getElem?_eq_some_iff.1 mB).1, Below.on hb hW⟩
      have HK : Hid (∀ W, Below wr.heap.size wr W → W.cell? ⟨w.heap.size, 0 + 1 + 1, none⟩ = some (.slice (some ⟨pb, po, none⟩) m.slots.length sc) ∧ W.cell? ⟨w.heap.size + 1, 0 + 1 + 1, none⟩ = some (.slice (some ⟨qb, qo, none⟩) m.slots.length sd) ∧ W.cell? ⟨pb, po + k * 3, none⟩ = some (.int .i64 kk) ∧ W.cell? ⟨pb, po + k * 3 + 1, none⟩ = some (.string dd) ∧ W.cell? ⟨pb, po + k * 3 + 1 + 1, none⟩ = some (.slice ta tt.length tc) ∧ W.cell? ⟨qb, qo + k * 3, none⟩ = some (.int .i64 kk) ∧ W.cell? ⟨qb, qo + k * 3 + 1, none⟩ = some (.string dd) ∧ W.cell? ⟨qb, qo + k * 3 + 1 + 1, none⟩ = some (.slice ua tt.length uc)) := fun W hW => ⟨(hW.cell (p := ⟨w.heap.size, 0 + 1 + 1, none⟩) (Array.getElem?_eq_some_iff.1 mA).1).trans c2, (hW.cell (p := ⟨w.heap.size + 1, 0 + 1 + 1, none⟩) (Array.getElem?_eq_some_iff.1 mB).1).trans d2, (hW.cell (p := ⟨pb, po + k * 3, none⟩) hpw).trans p0, (hW.cell (p := ⟨pb, po + k * 3 + 1, none⟩) hpw).trans p1, (hW.cell (p := ⟨pb, po + k * 3 + 1 + 1, none⟩) hpw).trans p2, (hW.cell (p := ⟨qb, qo + k * 3, none⟩) hqw).trans q0, (hW.cell (p := ⟨qb, qo + k * 3 + 1, none⟩) hqw).trans q1, (hW.cell (p := ⟨qb, qo + k * 3 + 1 + 1, none⟩) hqw).trans q2⟩
      clear hs mA mB ps qs hps hqs
      go_wp2_with fail
      go_region_held3 (fun W => W.cell? ⟨w.heap.size, 0 + 1 + 1, none⟩ = some (.slice (some ⟨pb, po, none⟩) m.slots.length sc) ∧ W.cell? ⟨w.heap.size + 1, 0 + 1 + 1, none⟩ = some (.slice (some ⟨qb, qo, none⟩) m.slots.length sd) ∧ W.cell? ⟨pb, po + k * 3, none⟩ = some (.int .i64 kk) ∧ W.cell? ⟨pb, po + k * 3 + 1, none⟩ = some (.string dd) ∧ W.cell? ⟨pb, po + k * 3 + 1 + 1, none⟩ = some (.slice ta tt.length tc) ∧ W.cell? ⟨qb, qo + k * 3, none⟩ = some (.int .i64 kk) ∧ W.cell? ⟨qb, qo + k * 3 + 1, none⟩ = some (.string dd) ∧ W.cell? ⟨qb, qo + k * 3 + 1 + 1, none⟩ = some (.slice ua tt.length uc)) (first | exact HK.out _ b3 | exact HK.out _ (to_drew (Below.refl _ _)))
        (first | (go_at_call 18; refine hcall.mono ?_; rintro e w3 ⟨rfl, b3⟩; have b3 := below_drew b3))
      go_wp2_with fail
      go_roundw
      case rel => exact ⟨k + 1, by omega, by go_num, HN.out _ b3⟩
      case measure => simp [intOf]; omega
    · have ek : k = m.slots.length := by omega
      subst ek
      obtain ⟨x, hrn⟩ : ∃ X, X = wr := ⟨_, rfl⟩
      subst hrn
      go_wp2_with fail
      clear c0 c1 c2 c3 c4 d0 d1 d2 d3 d4 mA mB hb hL
      go_loopw [6] (fun i wr => ∃ l : Nat, l ≤ m.snaps.length ∧ i = .int .i64 l ∧ Hid (wr.heap[w.heap.size]? = some (.cells #[.int .i64 m.guest, .slice ra m.root.length rc, .slice sa m.slots.length sc, .slice fa m.refs.length fc, .slice na m.snaps.length nc] 26) ∧ wr.heap[w.heap.size + 1]? = some (.cells #[.int .i64 m.guest, .slice rb m.root.length rd, .slice sb m.slots.length sd, .slice fb m.refs.length fd, .slice nb m.snaps.length nd] 26) ∧ Below w.heap.size w wr)) (fun i _ => m.snaps.length - (intOf i).toNat)
      case atStart => exact ⟨0, Nat.zero_le _, rfl, HC⟩
      case round =>
        obtain ⟨l, hl, rfl, HD⟩ := hrel
        obtain ⟨mA, mB, hb⟩ := HD.out
        obtain ⟨c0, c1, c2, c3, c4⟩ := five mA
        obtain ⟨d0, d1, d2, d3, d4⟩ := five mB
        have hL := HL.out.2
        by_cases hll : l < m.snaps.length
        · have hki : (l : Int) < (m.snaps.length : Int) := by omega
          have hL1 : (l : Int) + 1 ≤ 9223372036854775807 := by omega
          obtain ⟨pb, po, pc, e, _, hpl, hps⟩ := HS.out.2.2.1.open (by omega)
          simp at e
          obtain ⟨rfl, rfl⟩ := e
          obtain ⟨qb, qo, qc, e, _, hql, hqs⟩ := HS.out.2.2.2.open (by omega)
          simp at e
          obtain ⟨rfl, rfl⟩ := e
          obtain ⟨s, hs⟩ : ∃ s, m.snaps[l] = s := ⟨_, rfl⟩
          obtain ⟨nm, sg, tt⟩ := s
          obtain ⟨tv, p0, p1, p2, ps⟩ := hps l hll
          obtain ⟨uv, q0, q1, q2, qs⟩ := hqs l hll
          rw [hs] at p0 p1 ps q0 q1 qs
          obtain ⟨ta, tc, rfl⟩ := ps.form
          obtain ⟨ua, uc, rfl⟩ := qs.form
          have p0 : wr.cell? ⟨pb, po + l * 3, none⟩ = some (.string nm) := (hb.cell (p := ⟨pb, po + l * 3, none⟩) hpl).trans p0
          have p1 : wr.cell? ⟨pb, po + l * 3 + 1, none⟩ = some (.int .i64 sg) := (hb.cell (p := ⟨pb, po + l * 3 + 1, none⟩) hpl).trans p1
          have p2 : wr.cell? ⟨pb, po + l * 3 + 1 + 1, none⟩ = some (.slice ta tt.length tc) := (hb.cell (p := ⟨pb, po + l * 3 + 1 + 1, none⟩) hpl).trans p2
          have q0 : wr.cell? ⟨qb, qo + l * 3, none⟩ = some (.string nm) := (hb.cell (p := ⟨qb, qo + l * 3, none⟩) hql).trans q0
          have q1 : wr.cell? ⟨qb, qo + l * 3 + 1, none⟩ = some (.int .i64 sg) := (hb.cell (p := ⟨qb, qo + l * 3 + 1, none⟩) hql).trans q1
          have q2 : wr.cell? ⟨qb, qo + l * 3 + 1 + 1, none⟩ = some (.slice ua tt.length uc) := (hb.cell (p := ⟨qb, qo + l * 3 + 1 + 1, none⟩) hql).trans q2
          have hcall := same_any (w := wr.drew) (ps.below (to_drew hb)) (qs.below (to_drew hb))
          have hpw : pb < wr.heap.size := Nat.lt_of_lt_of_le hpl hb.size
          have hqw : qb < wr.heap.size := Nat.lt_of_lt_of_le hql hb.size
          have HN : Hid (∀ W, Below wr.heap.size wr W → W.heap[w.heap.size]? = some (.cells #[.int .i64 m.guest, .slice ra m.root.length rc, .slice sa m.slots.length sc, .slice fa m.refs.length fc, .slice (some ⟨pb, po, none⟩) m.snaps.length nc] 26) ∧ W.heap[w.heap.size + 1]? = some (.cells #[.int .i64 m.guest, .slice rb m.root.length rd, .slice sb m.slots.length sd, .slice fb m.refs.length fd, .slice (some ⟨qb, qo, none⟩) m.snaps.length nd] 26) ∧ Below w.heap.size w W) := fun W hW => ⟨cells_below mA hW (Array.getElem?_eq_some_iff.1 mA).1, cells_below mB hW (Array.getElem?_eq_some_iff.1 mB).1, Below.on hb hW⟩
          have HK : Hid (∀ W, Below wr.heap.size wr W → W.cell? ⟨w.heap.size, 0 + 1 + 1 + 1 + 1, none⟩ = some (.slice (some ⟨pb, po, none⟩) m.snaps.length nc) ∧ W.cell? ⟨w.heap.size + 1, 0 + 1 + 1 + 1 + 1, none⟩ = some (.slice (some ⟨qb, qo, none⟩) m.snaps.length nd) ∧ W.cell? ⟨pb, po + l * 3, none⟩ = some (.string nm) ∧ W.cell? ⟨pb, po + l * 3 + 1, none⟩ = some (.int .i64 sg) ∧ W.cell? ⟨pb, po + l * 3 + 1 + 1, none⟩ = some (.slice ta tt.length tc) ∧ W.cell? ⟨qb, qo + l * 3, none⟩ = some (.string nm) ∧ W.cell? ⟨qb, qo + l * 3 + 1, none⟩ = some (.int .i64 sg) ∧ W.cell? ⟨qb, qo + l * 3 + 1 + 1, none⟩ = some (.slice ua tt.length uc)) := fun W hW => ⟨(hW.cell (p := ⟨w.heap.size, 0 + 1 + 1 + 1 + 1, none⟩) (Array.getElem?_eq_some_iff.1 mA).1).trans c4, (hW.cell (p := ⟨w.heap.size + 1, 0 + 1 + 1 + 1 + 1, none⟩) (Array.getElem?_eq_some_iff.1 mB).1).trans d4, (hW.cell (p := ⟨pb, po + l * 3, none⟩) hpw).trans p0, (hW.cell (p := ⟨pb, po + l * 3 + 1, none⟩) hpw).trans p1, (hW.cell (p := ⟨pb, po + l * 3 + 1 + 1, none⟩) hpw).trans p2, (hW.cell (p := ⟨qb, qo + l * 3, none⟩) hqw).trans q0, (hW.cell (p := ⟨qb, qo + l * 3 + 1, none⟩) hqw).trans q1, (hW.cell (p := ⟨qb, qo + l * 3 + 1 + 1, none⟩) hqw).trans q2⟩
          clear hs mA mB ps qs hps hqs
          go_wp2_with fail
          go_region_held3 (fun W => W.cell? ⟨w.heap.size, 0 + 1 + 1 + 1 + 1, none⟩ = some (.slice (some ⟨pb, po, none⟩) m.snaps.length nc) ∧ W.cell? ⟨w.heap.size + 1, 0 + 1 + 1 + 1 + 1, none⟩ = some (.slice (some ⟨qb, qo, none⟩) m.snaps.length nd) ∧ W.cell? ⟨pb, po + l * 3, none⟩ = some (.string nm) ∧ W.cell? ⟨pb, po + l * 3 + 1, none⟩ = some (.int .i64 sg) ∧ W.cell? ⟨pb, po + l * 3 + 1 + 1, none⟩ = some (.slice ta tt.length tc) ∧ W.cell? ⟨qb, qo + l * 3, none⟩ = some (.string nm) ∧ W.cell? ⟨qb, qo + l * 3 + 1, none⟩ = some (.int .i64 sg) ∧ W.cell? ⟨qb, qo + l * 3 + 1 + 1, none⟩ = some (.slice ua tt.length uc)) (first | exact HK.out _ b3 | exact HK.out _ (to_drew (Below.refl _ _)))
            (first | (go_at_call 18; refine hcall.mono ?_; rintro e w3 ⟨rfl, b3⟩; have b3 := below_drew b3))
          go_wp2_with fail
          go_roundw
          case rel => exact ⟨l + 1, by omega, by go_num, HN.out _ b3⟩
          case measure => simp [intOf]; omega
        · have el : l = m.snaps.length := by omega
          subst el
          go_wp2_with fail
          go_ret
          exact ⟨rfl, hb⟩
theorem sameI_is {w : World} {v u : Value} {m : ImgD} (h : Img w v m) (k : Img w u m) : Calls Try.prog 25 #[v, u] w fun r w' => r = .returned (.bool true) ∧ Below w.heap.size w w' := by
  obtain ⟨ra, rc, sa, sc, fa, fc, na, nc, rfl, h1, h2, h3, h4⟩ := h.parts
  obtain ⟨rb, rd, sb, sd, fb, fd, nb, nd, rfl, k1, k2, k3, k4⟩ := k.parts
  exact sameI_at m ra rc sa sc fa fc na nc rb rd sb sd fb fd nb nd w h1 h2 h3 h4 k1 k2 k3 k4
end Go.Proofs.Ytehleeibgkpjmae
/- The walk of MendTells. -/
namespace Go.Proofs.Ytehleeibgkpjmae
open Go.RowKit Go.Shelf
set_option maxRecDepth 20000
set_option linter.unusedVariables false
set_option linter.unusedSimpArgs false

theorem imgZ_img (W : World) : Img W (.agg #[.int .i64 0, .slice none 0 0, .slice none 0 0, .slice none 0 0, .slice none 0 0]) imgZ := (OI.zero W 0).img
theorem OX.imgS {W : World} {B : Nat} {val : Nm → Value} {M : ImgD} {v0 v1 v2 v3 : Value} (h : OX W B val M) (e : val .root = v0 ∧ val .slots = v1 ∧ val .refs = v2 ∧ val .snaps = v3) : Img W (.agg #[.int .i64 M.guest, v0, v1, v2, v3]) M := by
  have hI := h.img
  unfold imgV at hI
  rwa [e.1, e.2.1, e.2.2.1, e.2.2.2] at hI

set_option maxHeartbeats 8000000 in
theorem mtells_bad (ra : Option Addr) (rc : Nat) (sa : Option Addr) (sc : Nat) (fa : Option Addr) (fc : Nat) (na : Option Addr) (nc : Nat) (m : ImgD) (w : World) (h : Img w (.agg #[.int .i64 m.guest, .slice ra m.root.length rc, .slice sa m.slots.length sc, .slice fa m.refs.length fc, .slice na m.snaps.length nc]) m) (hF : Fits m) (E : Int) (hE : shapeE m = E) (hne : E ≠ 0) (hnb : (E == 0) = false) :
    Calls Try.prog 6 #[.agg #[.int .i64 m.guest, .slice ra m.root.length rc, .slice sa m.slots.length sc, .slice fa m.refs.length fc, .slice na m.snaps.length nc]] w fun r w' => r = .returned (.bool true) ∧ Below w.heap.size w w' := by
  have hB : Below w.heap.size w (w.alloc (.cells #[.int .i64 m.guest, .slice ra m.root.length rc, .slice sa m.slots.length sc, .slice fa m.refs.length fc, .slice na m.snaps.length nc] 26)) := (Below.refl _ _).alloc (Nat.le_refl _) _
  have mb_m : (w.alloc (.cells #[.int .i64 m.guest, .slice ra m.root.length rc, .slice sa m.slots.length sc, .slice fa m.refs.length fc, .slice na m.snaps.length nc] 26)).heap[w.heap.size]? = some (.cells #[.int .i64 m.guest, .slice ra m.root.length rc, .slice sa m.slots.length sc, .slice fa m.refs.length fc, .slice na m.snaps.length nc] 26) := World.alloc_heap_new _ _
  have I_m := h.below hB
  have HM : Hid (shapeE m = E ∧ leaksA m = 0) := ⟨hE, by unfold leaksA; rw [if_neg (by rw [hE]; exact hne)]⟩
  clear hE
  clear h
  go_enter Try.func6, Try.ntmps6
  obtain ⟨m0, m1, m2, m3, m4⟩ := five mb_m
  go_wp2_with fail
  refine (leaks_is I_m HM.out.1 HM.out.2).mono ?_
  rintro e w1 ⟨rfl, bb⟩
  clear m0 m1 m2 m3 m4
  replace mb_m := cells_below mb_m bb (Array.getElem?_eq_some_iff.1 mb_m).1
  replace hB := Below.on hB bb
  replace I_m := I_m.below bb
  clear bb
  obtain ⟨m0, m1, m2, m3, m4⟩ := five mb_m
  go_wp2_with fail
  refine (repair_bad I_m hF HM.out.1 hne).mono ?_
  intro e w2 hA
  obtain ⟨val, x_r, x_rc, x_s, x_sc, x_f, x_fc, x_n, x_nc, rfl, hO, bb, hI⟩ := hA.open
  dsimp only
  have I_x := hO.img
  rw [hI] at I_x
  clear hA hO hI
  rw [show imgZ.guest = 0 from rfl, show imgZ.root.length = 0 from rfl, show imgZ.slots.length = 0 from rfl, show imgZ.refs.length = 0 from rfl, show imgZ.snaps.length = 0 from rfl] at I_x ⊢
  clear m0 m1 m2 m3 m4
  replace mb_m := cells_below mb_m bb (Array.getElem?_eq_some_iff.1 mb_m).1
  replace hB := Below.on hB bb
  replace I_m := I_m.below bb
  clear bb
  replace mb_m := cells_alloc mb_m (.cells #[.int .i64 0, .slice x_r 0 x_rc, .slice x_s 0 x_sc, .slice x_f 0 x_fc, .slice x_n 0 x_nc] 26)
  have ba : Below w2.heap.size w2 (w2.alloc (.cells #[.int .i64 0, .slice x_r 0 x_rc, .slice x_s 0 x_sc, .slice x_f 0 x_fc, .slice x_n 0 x_nc] 26)) := (Below.refl _ _).alloc (Nat.le_refl _) _
  replace hB := Below.on hB ba
  replace I_m := I_m.below ba
  replace I_x := I_x.below ba
  clear ba
  have mb_x : (w2.alloc (.cells #[.int .i64 0, .slice x_r 0 x_rc, .slice x_s 0 x_sc, .slice x_f 0 x_fc, .slice x_n 0 x_nc] 26)).heap[w2.heap.size]? = some (.cells #[.int .i64 0, .slice x_r 0 x_rc, .slice x_s 0 x_sc, .slice x_f 0 x_fc, .slice x_n 0 x_nc] 26) := World.alloc_heap_new _ _
  obtain ⟨m0, m1, m2, m3, m4⟩ := five mb_m
  obtain ⟨x0, x1, x2, x3, x4⟩ := five mb_x
  go_wp2_with fail
  refine (shapeOf_is I_m HM.out.1).mono ?_
  rintro e w3 ⟨rfl, bb⟩
  clear m0 m1 m2 m3 m4 x0 x1 x2 x3 x4
  replace mb_m := cells_below mb_m bb (Array.getElem?_eq_some_iff.1 mb_m).1
  replace mb_x := cells_below mb_x bb (Array.getElem?_eq_some_iff.1 mb_x).1
  replace hB := Below.on hB bb
  replace I_m := I_m.below bb
  replace I_x := I_x.below bb
  clear bb
  replace mb_m := cells_alloc mb_m (.cells #[.int .i64 0, .slice none 0 0, .slice none 0 0, .slice none 0 0, .slice none 0 0] 26)
  replace mb_x := cells_alloc mb_x (.cells #[.int .i64 0, .slice none 0 0, .slice none 0 0, .slice none 0 0, .slice none 0 0] 26)
  have ba : Below w3.heap.size w3 (w3.alloc (.cells #[.int .i64 0, .slice none 0 0, .slice none 0 0, .slice none 0 0, .slice none 0 0] 26)) := (Below.refl _ _).alloc (Nat.le_refl _) _
  replace hB := Below.on hB ba
  replace I_m := I_m.below ba
  replace I_x := I_x.below ba
  clear ba
  have mb_y : (w3.alloc (.cells #[.int .i64 0, .slice none 0 0, .slice none 0 0, .slice none 0 0, .slice none 0 0] 26)).heap[w3.heap.size]? = some (.cells #[.int .i64 0, .slice none 0 0, .slice none 0 0, .slice none 0 0, .slice none 0 0] 26) := World.alloc_heap_new _ _
  have I_y := imgZ_img (w3.alloc (.cells #[.int .i64 0, .slice none 0 0, .slice none 0 0, .slice none 0 0, .slice none 0 0] 26))
  clear mb_m
  clear I_m
  obtain ⟨x0, x1, x2, x3, x4⟩ := five mb_x
  obtain ⟨y0, y1, y2, y3, y4⟩ := five mb_y
  go_wp2_with fail
  refine (mendBegun_any _).mono ?_
  rintro e w4 ⟨rfl, bb⟩
  clear x0 x1 x2 x3 x4 y0 y1 y2 y3 y4
  replace mb_x := cells_below mb_x bb (Array.getElem?_eq_some_iff.1 mb_x).1
  replace mb_y := cells_below mb_y bb (Array.getElem?_eq_some_iff.1 mb_y).1
  replace hB := Below.on hB bb
  replace I_x := I_x.below bb
  replace I_y := I_y.below bb
  clear bb
  obtain ⟨x0, x1, x2, x3, x4⟩ := five mb_x
  obtain ⟨y0, y1, y2, y3, y4⟩ := five mb_y
  go_wp2_with fail
  refine (sameI_is I_x I_y).mono ?_
  rintro e w5 ⟨rfl, bb⟩
  clear x0 x1 x2 x3 x4 y0 y1 y2 y3 y4
  replace mb_x := cells_below mb_x bb (Array.getElem?_eq_some_iff.1 mb_x).1
  replace mb_y := cells_below mb_y bb (Array.getElem?_eq_some_iff.1 mb_y).1
  replace hB := Below.on hB bb
  replace I_x := I_x.below bb
  replace I_y := I_y.below bb
  clear bb
  obtain ⟨x0, x1, x2, x3, x4⟩ := five mb_x
  obtain ⟨y0, y1, y2, y3, y4⟩ := five mb_y
  go_wp2_with fail
  go_ret
  exact ⟨rfl, hB⟩

set_option maxHeartbeats 8000000 in
theorem mtells_ok (ra : Option Addr) (rc : Nat) (sa : Option Addr) (sc : Nat) (fa : Option Addr) (fc : Nat) (na : Option Addr) (nc : Nat) (m : ImgD) (w : World) (h : Img w (.agg #[.int .i64 m.guest, .slice ra m.root.length rc, .slice sa m.slots.length sc, .slice fa m.refs.length fc, .slice na m.snaps.length nc]) m) (hF : Fits m) (hE : shapeE m = 0) (X : ImgD) (hX : countedD m = X) (l : Nat) (hl : leakN m.slots (cntL m) = l) :
    Calls Try.prog 6 #[.agg #[.int .i64 m.guest, .slice ra m.root.length rc, .slice sa m.slots.length sc, .slice fa m.refs.length fc, .slice na m.snaps.length nc]] w fun r w' => r = .returned (.bool true) ∧ Below w.heap.size w w' := by
  have hB : Below w.heap.size w (w.alloc (.cells #[.int .i64 m.guest, .slice ra m.root.length rc, .slice sa m.slots.length sc, .slice fa m.refs.length fc, .slice na m.snaps.length nc] 26)) := (Below.refl _ _).alloc (Nat.le_refl _) _
  have mb_m : (w.alloc (.cells #[.int .i64 m.guest, .slice ra m.root.length rc, .slice sa m.slots.length sc, .slice fa m.refs.length fc, .slice na m.snaps.length nc] 26)).heap[w.heap.size]? = some (.cells #[.int .i64 m.guest, .slice ra m.root.length rc, .slice sa m.slots.length sc, .slice fa m.refs.length fc, .slice na m.snaps.length nc] 26) := World.alloc_heap_new _ _
  have I_m := h.below hB
  have HM : Hid (shapeE m = 0 ∧ leaksA m = l ∧ leakN m.slots (cntL m) = l) := ⟨hE, by unfold leaksA; rw [if_pos hE]; exact hl, hl⟩
  have HX : Hid (countedD m = X) := hX
  clear hE hX hl
  clear h
  go_enter Try.func6, Try.ntmps6
  obtain ⟨m0, m1, m2, m3, m4⟩ := five mb_m
  go_wp2_with fail
  refine (leaks_is I_m HM.out.1 HM.out.2.1).mono ?_
  rintro e w1 ⟨rfl, bb⟩
  clear m0 m1 m2 m3 m4
  replace mb_m := cells_below mb_m bb (Array.getElem?_eq_some_iff.1 mb_m).1
  replace hB := Below.on hB bb
  replace I_m := I_m.below bb
  clear bb
  obtain ⟨m0, m1, m2, m3, m4⟩ := five mb_m
  go_wp2_with fail
  refine (repair_ok I_m hF HM.out.1 HX.out).mono ?_
  intro e w2 hA
  obtain ⟨val, x_r, x_rc, x_s, x_sc, x_f, x_fc, x_n, x_nc, rfl, hO, bb, hI⟩ := hA.open
  dsimp only
  have I_x := hO.img
  rw [hI] at I_x
  clear hA hO hI
  clear m0 m1 m2 m3 m4
  replace mb_m := cells_below mb_m bb (Array.getElem?_eq_some_iff.1 mb_m).1
  replace hB := Below.on hB bb
  replace I_m := I_m.below bb
  clear bb
  replace mb_m := cells_alloc mb_m (.cells #[.int .i64 X.guest, .slice x_r X.root.length x_rc, .slice x_s X.slots.length x_sc, .slice x_f X.refs.length x_fc, .slice x_n X.snaps.length x_nc] 26)
  have ba : Below w2.heap.size w2 (w2.alloc (.cells #[.int .i64 X.guest, .slice x_r X.root.length x_rc, .slice x_s X.slots.length x_sc, .slice x_f X.refs.length x_fc, .slice x_n X.snaps.length x_nc] 26)) := (Below.refl _ _).alloc (Nat.le_refl _) _
  replace hB := Below.on hB ba
  replace I_m := I_m.below ba
  replace I_x := I_x.below ba
  clear ba
  have mb_x : (w2.alloc (.cells #[.int .i64 X.guest, .slice x_r X.root.length x_rc, .slice x_s X.slots.length x_sc, .slice x_f X.refs.length x_fc, .slice x_n X.snaps.length x_nc] 26)).heap[w2.heap.size]? = some (.cells #[.int .i64 X.guest, .slice x_r X.root.length x_rc, .slice x_s X.slots.length x_sc, .slice x_f X.refs.length x_fc, .slice x_n X.snaps.length x_nc] 26) := World.alloc_heap_new _ _
  obtain ⟨m0, m1, m2, m3, m4⟩ := five mb_m
  obtain ⟨x0, x1, x2, x3, x4⟩ := five mb_x
  go_wp2_with fail
  refine (shapeOf_is I_m HM.out.1).mono ?_
  rintro e w3 ⟨rfl, bb⟩
  clear m0 m1 m2 m3 m4 x0 x1 x2 x3 x4
  replace mb_m := cells_below mb_m bb (Array.getElem?_eq_some_iff.1 mb_m).1
  replace mb_x := cells_below mb_x bb (Array.getElem?_eq_some_iff.1 mb_x).1
  replace hB := Below.on hB bb
  replace I_m := I_m.below bb
  replace I_x := I_x.below bb
  clear bb
  have hlm : w.heap.size < w3.heap.size := (Array.getElem?_eq_some_iff.1 mb_m).1
  have bz : Below w3.heap.size w3 (w3.alloc (.cells #[.int .i64 0, .slice none 0 0, .slice none 0 0, .slice none 0 0, .slice none 0 0] 26)) := (Below.refl _ _).alloc (Nat.le_refl _) _
  have mz : (w3.alloc (.cells #[.int .i64 0, .slice none 0 0, .slice none 0 0, .slice none 0 0, .slice none 0 0] 26)).heap[w3.heap.size]? = some (.cells #[.int .i64 0, .slice none 0 0, .slice none 0 0, .slice none 0 0, .slice none 0 0] 26) := World.alloc_heap_new _ _
  have nm := cells_alloc mb_m (.cells #[.int .i64 0, .slice none 0 0, .slice none 0 0, .slice none 0 0, .slice none 0 0] 26)
  obtain ⟨c0, c1, c2, c3, c4⟩ := five nm
  obtain ⟨x0, x1, x2, x3, x4⟩ := five mb_x
  have HL : Hid (Calls Try.prog 22 #[.agg #[.int .i64 m.guest, .slice ra m.root.length rc, .slice sa m.slots.length sc, .slice fa m.refs.length fc, .slice na m.snaps.length nc]] (w3.alloc (.cells #[.int .i64 0, .slice none 0 0, .slice none 0 0, .slice none 0 0, .slice none 0 0] 26)).drew fun r w' => r = .returned (.int .i64 (l : Int)) ∧ Below (w3.alloc (.cells #[.int .i64 0, .slice none 0 0, .slice none 0 0, .slice none 0 0, .slice none 0 0] 26)).heap.size (w3.alloc (.cells #[.int .i64 0, .slice none 0 0, .slice none 0 0, .slice none 0 0, .slice none 0 0] 26)) w') := (leaksOf_is ((I_m.below bz).below (to_drew (Below.refl _ _))) HM.out.1 HM.out.2.2).mono (fun r w' h => ⟨h.1, below_drew h.2⟩)
  have HR : Hid (∀ w4, Below (w3.alloc (.cells #[.int .i64 0, .slice none 0 0, .slice none 0 0, .slice none 0 0, .slice none 0 0] 26)).heap.size (w3.alloc (.cells #[.int .i64 0, .slice none 0 0, .slice none 0 0, .slice none 0 0, .slice none 0 0] 26)) w4 → Calls Try.prog 23 #[.agg #[.int .i64 m.guest, .slice ra m.root.length rc, .slice sa m.slots.length sc, .slice fa m.refs.length fc, .slice na m.snaps.length nc]] w4 (AnsV w4 X)) := fun w4 b4 => repairOf_is ((I_m.below bz).below b4) HM.out.1 HX.out
  go_wp2_with fail
  refine wp_region_held_drew (S := (fun X : World => X.heap[w.heap.size]? = some (.cells #[.int .i64 m.guest, .slice ra m.root.length rc, .slice sa m.slots.length sc, .slice fa m.refs.length fc, .slice na m.snaps.length nc] 26))) (by kernel_rfl) nm (fun hHeld => ?_)
  refine wpAnyH_take (i := 0) (v := .agg #[.int .i64 m.guest, .slice ra m.root.length rc, .slice sa m.slots.length sc, .slice fa m.refs.length fc, .slice na m.snaps.length nc]) rfl (by kernel_rfl) (by kernel_rfl) (by kernel_rfl) (fun _ _ _ h => h) (Or.inl ⟨by rfl, fun w' hSw => by obtain ⟨j0, j1, j2, j3, j4⟩ := five hSw; go_simp⟩) hHeld ?_
  simp only [Act.put, List.getElem_toArray, List.getElem_cons_succ, List.getElem_cons_zero, List.setIfInBounds_toArray, List.set_cons_zero, List.set_cons_succ]
  refine wpAnyH_take (i := 2) (v := .agg #[.int .i64 m.guest, .slice ra m.root.length rc, .slice sa m.slots.length sc, .slice fa m.refs.length fc, .slice na m.snaps.length nc]) rfl (by kernel_rfl) (by kernel_rfl) (by kernel_rfl) (fun _ _ _ h => h) (Or.inl ⟨by rfl, fun w' hSw => by obtain ⟨j0, j1, j2, j3, j4⟩ := five hSw; go_simp⟩) hHeld ?_
  simp only [Act.put, List.getElem_toArray, List.getElem_cons_succ, List.getElem_cons_zero, List.setIfInBounds_toArray, List.set_cons_zero, List.set_cons_succ]
  refine wpAnyH_ready (rs := [1]) (by kernel_rfl) (by simp) ?_
  refine AllReadyH.cons rfl (fun K hK => ?_) AllReadyH.nil
  clear hHeld
  simp only [Act.put, List.getElem_toArray, List.getElem_cons_succ, List.getElem_cons_zero, List.setIfInBounds_toArray, List.set_cons_zero, List.set_cons_succ]
  rw [if_pos (by rfl)]
  go_wp2_with (go_at_call 22; refine HL.out.mono ?_; rintro e w4 ⟨rfl, b4⟩)
  have nm4 := cells_below nm b4 (by simp <;> omega)
  refine hK.out _ _ nm4 (fun hHeld => ?_)
  clear hK K
  try simp only [Act.put, List.getElem_toArray, List.getElem_cons_succ, List.getElem_cons_zero, List.setIfInBounds_toArray, List.set_cons_zero, List.set_cons_succ]
  refine wpAnyH_ready (rs := [3]) (by kernel_rfl) (by simp) ?_
  refine AllReadyH.cons rfl (fun K hK => ?_) AllReadyH.nil
  clear hHeld
  simp only [Act.put, List.getElem_toArray, List.getElem_cons_succ, List.getElem_cons_zero, List.setIfInBounds_toArray, List.set_cons_zero, List.set_cons_succ]
  rw [if_pos (by rfl)]
  go_wp2_with (go_at_call 23; refine (HR.out w4 b4).mono ?_; rintro e w5 ⟨val, p0, q0, p1, q1, p2, q2, p3, q3, rfl, hv, hO, b5⟩)
  have hs4 := b4.size
  simp at hs4
  have nm5 := cells_below nm4 b5 (by omega)
  refine hK.out _ _ nm5 (fun hHeld => ?_)
  clear hK K
  try simp only [Act.put, List.getElem_toArray, List.getElem_cons_succ, List.getElem_cons_zero, List.setIfInBounds_toArray, List.set_cons_zero, List.set_cons_succ]
  refine wpAnyH_take (i := 4) (v := .int .i64 (l : Int)) rfl (by kernel_rfl) (by kernel_rfl) (by kernel_rfl) (fun _ _ _ h => h) (Or.inl ⟨by rfl, fun w' hSw => by go_simp⟩) hHeld ?_
  simp only [Act.put, List.getElem_toArray, List.getElem_cons_succ, List.getElem_cons_zero, List.setIfInBounds_toArray, List.set_cons_zero, List.set_cons_succ]
  refine wpAnyH_ready (rs := [5]) (by kernel_rfl) (by simp) ?_
  refine AllReadyH.cons rfl (fun K hK => ?_) AllReadyH.nil
  clear hHeld
  simp only [Act.put, List.getElem_toArray, List.getElem_cons_succ, List.getElem_cons_zero, List.setIfInBounds_toArray, List.set_cons_zero, List.set_cons_succ]
  rw [if_pos (by rfl)]
  have mz5 := cells_below (cells_below mz b4 (by simp)) b5 (by omega)
  obtain ⟨z0, z1, z2, z3, z4⟩ := five mz5
  have y0 := cells_frozen mz5 0
  have y1 := cells_frozen mz5 1
  have y2 := cells_frozen mz5 2
  have y3 := cells_frozen mz5 3
  have y4 := cells_frozen mz5 4
  go_simp
  have hk6 : ∀ q, q ≠ w3.heap.size → (((((w5.setCell ⟨w3.heap.size, 0, none⟩ (.int .i64 X.guest)).setCell ⟨w3.heap.size, 1, none⟩ (.slice p0 X.root.length q0)).setCell ⟨w3.heap.size, 2, none⟩ (.slice p1 X.slots.length q1)).setCell ⟨w3.heap.size, 3, none⟩ (.slice p2 X.refs.length q2)).setCell ⟨w3.heap.size, 4, none⟩ (.slice p3 X.snaps.length q3)).heap[q]? = w5.heap[q]? := fun q hq => by rw [Below.heap_setCell _ _ _ q hq, Below.heap_setCell _ _ _ q hq, Below.heap_setCell _ _ _ q hq, Below.heap_setCell _ _ _ q hq, Below.heap_setCell _ _ _ q hq]
  refine hK.out _ _ ((hk6 _ (by omega)).trans nm5) (fun hHeld => ?_)
  clear hK K hHeld
  refine wpAnyH_done (by kernel_rfl) ?_ _
  have b6 : Below w3.heap.size w3 (((((w5.setCell ⟨w3.heap.size, 0, none⟩ (.int .i64 X.guest)).setCell ⟨w3.heap.size, 1, none⟩ (.slice p0 X.root.length q0)).setCell ⟨w3.heap.size, 2, none⟩ (.slice p1 X.slots.length q1)).setCell ⟨w3.heap.size, 3, none⟩ (.slice p2 X.refs.length q2)).setCell ⟨w3.heap.size, 4, none⟩ (.slice p3 X.snaps.length q3)) := (((((((bz.trans (b4.mono (by simp))).trans (b5.mono (by omega))).setCell (p := ⟨w3.heap.size, 0, none⟩) (Nat.le_refl _) _).setCell (p := ⟨w3.heap.size, 1, none⟩) (Nat.le_refl _) _).setCell (p := ⟨w3.heap.size, 2, none⟩) (Nat.le_refl _) _).setCell (p := ⟨w3.heap.size, 3, none⟩) (Nat.le_refl _) _).setCell (p := ⟨w3.heap.size, 4, none⟩) (Nat.le_refl _) _)
  have hfr : ∀ a, LiveX X a → (val a).ownBlock ≠ some w3.heap.size := fun a ha e => by
    have := ((hO.row a ha).lt _ e).1
    omega
  have I_y := (OX.imgS (((((hO.far (i := 0) (u := .int .i64 X.guest) hfr).far (i := 1) (u := .slice p0 X.root.length q0) hfr).far (i := 2) (u := .slice p1 X.slots.length q1) hfr).far (i := 3) (u := .slice p2 X.refs.length q2) hfr).far (i := 4) (u := .slice p3 X.snaps.length q3) hfr) hv)
  have mb_y : (((((w5.setCell ⟨w3.heap.size, 0, none⟩ (.int .i64 X.guest)).setCell ⟨w3.heap.size, 1, none⟩ (.slice p0 X.root.length q0)).setCell ⟨w3.heap.size, 2, none⟩ (.slice p1 X.slots.length q1)).setCell ⟨w3.heap.size, 3, none⟩ (.slice p2 X.refs.length q2)).setCell ⟨w3.heap.size, 4, none⟩ (.slice p3 X.snaps.length q3)).heap[w3.heap.size]? = some (.cells #[.int .i64 X.guest, .slice p0 X.root.length q0, .slice p1 X.slots.length q1, .slice p2 X.refs.length q2, .slice p3 X.snaps.length q3] 26) := cells_set (cells_set (cells_set (cells_set (cells_set mz5 0 _) 1 _) 2 _) 3 _) 4 _
  have bb := b6
  clear hk6 hfr b6 HL HR nm nm4 nm5 mz5 z0 z1 z2 z3 z4 y0 y1 y2 y3 y4 hO hv b4 b5 mz bz c0 c1 c2 c3 c4 x0 x1 x2 x3 x4 hlm hs4
  replace mb_m := cells_below mb_m bb (Array.getElem?_eq_some_iff.1 mb_m).1
  replace mb_x := cells_below mb_x bb (Array.getElem?_eq_some_iff.1 mb_x).1
  replace hB := Below.on hB bb
  replace I_m := I_m.below bb
  replace I_x := I_x.below bb
  clear bb
  obtain ⟨w6, h6⟩ : ∃ Z, (((((w5.setCell ⟨w3.heap.size, 0, none⟩ (.int .i64 X.guest)).setCell ⟨w3.heap.size, 1, none⟩ (.slice p0 X.root.length q0)).setCell ⟨w3.heap.size, 2, none⟩ (.slice p1 X.slots.length q1)).setCell ⟨w3.heap.size, 3, none⟩ (.slice p2 X.refs.length q2)).setCell ⟨w3.heap.size, 4, none⟩ (.slice p3 X.snaps.length q3)) = Z := ⟨_, rfl⟩
  rw [h6] at mb_m mb_x mb_y I_m I_x I_y hB ⊢
  clear h6
  clear mb_m
  clear I_m
  obtain ⟨x0, x1, x2, x3, x4⟩ := five mb_x
  obtain ⟨y0, y1, y2, y3, y4⟩ := five mb_y
  go_wp2_with fail
  refine (mendBegun_any _).mono ?_
  rintro e w7 ⟨rfl, bb⟩
  clear x0 x1 x2 x3 x4 y0 y1 y2 y3 y4
  replace mb_x := cells_below mb_x bb (Array.getElem?_eq_some_iff.1 mb_x).1
  replace mb_y := cells_below mb_y bb (Array.getElem?_eq_some_iff.1 mb_y).1
  replace hB := Below.on hB bb
  replace I_x := I_x.below bb
  replace I_y := I_y.below bb
  clear bb
  obtain ⟨x0, x1, x2, x3, x4⟩ := five mb_x
  obtain ⟨y0, y1, y2, y3, y4⟩ := five mb_y
  go_wp2_with fail
  refine (sameI_is I_x I_y).mono ?_
  rintro e w8 ⟨rfl, bb⟩
  clear x0 x1 x2 x3 x4 y0 y1 y2 y3 y4
  replace mb_x := cells_below mb_x bb (Array.getElem?_eq_some_iff.1 mb_x).1
  replace mb_y := cells_below mb_y bb (Array.getElem?_eq_some_iff.1 mb_y).1
  replace hB := Below.on hB bb
  replace I_x := I_x.below bb
  replace I_y := I_y.below bb
  clear bb
  obtain ⟨x0, x1, x2, x3, x4⟩ := five mb_x
  obtain ⟨y0, y1, y2, y3, y4⟩ := five mb_y
  go_wp2_with fail
  go_ret
  exact ⟨rfl, hB⟩

theorem mtells_is {v : Value} {m : ImgD} {w : World} (h : Img w v m) (hF : Fits m) : Calls Try.prog 6 #[v] w fun r w' => r = .returned (.bool true) ∧ Below w.heap.size w w' := by
  have h' := h
  obtain ⟨ra, rc, sa, sc, fa, fc, na, nc, rfl, h1, h2, h3, h4⟩ := h.parts
  by_cases hE : shapeE m = 0
  · exact mtells_ok ra rc sa sc fa fc na nc m w h' hF hE _ rfl _ rfl
  · exact mtells_bad ra rc sa sc fa fc na nc m w h' hF _ rfl hE (by simpa using hE)
end Go.Proofs.Ytehleeibgkpjmae
/- From the reading of an argument to what it holds: slices of integers, slots, slices of slots. -/
namespace Go.Proofs.Ytehleeibgkpjmae
open Go.RowKit Go.Deep Go.ChangeShapes Go.WideShapes Go.ChangeAt
set_option maxRecDepth 20000

theorem cells27 : Try.prog.cellsOf 22 = 1 := by kernel_rfl
theorem cells3 : Try.prog.cellsOf 3 = 1 := by kernel_rfl
theorem cells9 : Try.prog.cellsOf 9 = 1 := by kernel_rfl
theorem cells29 : Try.prog.cellsOf 72 = 3 := by kernel_rfl

variable {H : Type} {enc : TypeId × Value → H} {w : World} {base : Nat} {spare : Nat → Bool} {held : Bool}

/-- The cells of a row by its address. -/
theorem row_at {w : World} {a : Addr} {n : Nat} {f : Nat → Value} (hn : 0 < n) (h : ∀ i, i < n → w.cell? (a.add i) = some (f i)) :
    ∃ b off, a = ⟨b, off, none⟩ ∧ b < w.heap.size ∧ ∀ i, i < n → w.cell? ⟨b, off + i, none⟩ = some (f i) := by
  have h0 := h 0 hn
  obtain ⟨b, off, spot⟩ := a
  have hspot : spot = none := by simpa [Addr.add] using World.cell?_spot h0
  subst hspot
  refine ⟨b, off, rfl, World.block_lt_of_cell? w _ (by rw [addr_add] at h0; exact h0), fun i hi => ?_⟩
  have := h i hi
  rw [addr_add] at this
  exact this

theorem sl_of_trod {n : Nat} {cs : List Value} {x : DataW H × List MemPlace} (h : DataW.trod enc Try.prog w base spare held n 22 cs = some x) : ∃ v xs, cs = [v] ∧ Sl w v xs := by
  rcases open_ints Try.underlying22 Try.underlying3 cells3 h with ⟨rfl, _⟩ | ⟨a, l, c, zs, rfl, _, hl, hm, hz, _, hcell, _⟩
  · exact ⟨_, [], rfl, Sl.nil w⟩
  · have hlz : l ≤ zs.length := by rw [hz]; split <;> omega
    have hlen : (zs.take l).length = l := by simp; omega
    refine ⟨_, zs.take l, rfl, some a, c, by rw [hlen], by rw [hlen]; omega, by rw [hlen]; exact hl, fun hne => ?_⟩
    have hpos : 0 < l := by
      rcases Nat.eq_zero_or_pos l with e | e
      · subst e; simp at hne
      · exact e
    obtain ⟨b, off, rfl, hb, hc⟩ := row_at (w := w) (a := a) (n := l) (f := fun i => .int .i64 (zs.getD i 0)) hpos (fun i hi => hcell i (by omega))
    refine ⟨b, off, rfl, hb, fun j hj => ?_⟩
    rw [hlen] at hj
    rw [hc j hj]
    simp [List.getD, hj]

set_option maxRecDepth 20000 in
theorem slot_of_trod {n : Nat} {cs : List Value} {x : DataW H × List MemPlace} (h : DataW.trod enc Try.prog w base spare held n 72 cs = some x) :
    ∃ k d tv xs, cs = [.int .i64 k, .string d, tv] ∧ Sl w tv xs := by
  obtain ⟨y0, y1, y2, m, _, hl, h0, h1, h2⟩ := trod_struct3 Try.underlying72 h
  rw [cells29] at hl
  match cs, hl with
  | [c0, c1, c2], _ =>
    simp only [cells3, cells9, cells27] at h0 h1 h2
    obtain ⟨k, e0, _, _⟩ := DataW.trod_int Try.underlying3 h0
    obtain ⟨d, e1, _, _⟩ := DataW.trod_string Try.underlying9 h1
    obtain ⟨tv, xs, e2, hs⟩ := sl_of_trod h2
    simp at e0 e1 e2
    subst e0 e1 e2
    exact ⟨k, d, _, xs, rfl, hs⟩

theorem slots_of_trod {n : Nat} {v : Value} {x : DataW H × List MemPlace} (h : DataW.trod enc Try.prog w base spare held n 23 [v] = some x) : ∃ L, Slots w v L := by
  rcases open_slice Try.underlying23 h with ⟨hv, _⟩ | ⟨a, len, cap, m, fuel, D, Pl, hv, _, hl, hm, hmm, _, hx⟩
  · simp at hv
    subst hv
    exact ⟨[], none, 0, rfl, Nat.zero_le _, Nat.zero_le _, fun h => absurd rfl h⟩
  · simp at hv
    subst hv
    rw [cells29] at hx
    have hx' : ∀ i, i < len → ∃ s : SlotD, ∃ tv, w.cell? (a.add (i * 3)) = some (.int .i64 s.1) ∧ w.cell? ((a.add (i * 3)).add 1) = some (.string s.2.1) ∧ w.cell? ((a.add (i * 3)).add 2) = some tv ∧ Sl w tv s.2.2 := by
      intro i hi
      obtain ⟨cs', h1, h2⟩ := hx i (by rw [hmm]; split <;> omega)
      obtain ⟨k, d, tv, xs, rfl, hs⟩ := slot_of_trod h2
      obtain ⟨_, _, hc⟩ := World.cells?_some h1
      have c0 := hc 0 (by omega)
      have c1 := hc 1 (by omega)
      have c2 := hc 2 (by omega)
      exact ⟨(k, d, xs), tv, by simpa [Addr.add] using c0, c1, c2, hs⟩
    obtain ⟨f, hf⟩ := choose_lt hx'
    have hlen : ((List.range len).map f).length = len := by simp
    refine ⟨(List.range len).map f, some a, cap, by rw [hlen], by rw [hlen]; omega, by rw [hlen]; exact hl, fun hne => ?_⟩
    have hpos : 0 < len := by
      rcases Nat.eq_zero_or_pos len with e | e
      · subst e; simp at hne
      · exact e
    obtain ⟨tv0, c0, _⟩ := hf 0 hpos
    obtain ⟨b, off, spot⟩ := a
    have hspot : spot = none := by simpa [Addr.add] using World.cell?_spot c0
    subst hspot
    refine ⟨b, off, rfl, World.block_lt_of_cell? w _ (by rw [addr_add] at c0; exact c0), fun j hj => ?_⟩
    rw [hlen] at hj
    obtain ⟨tv, c0, c1, c2, hs⟩ := hf j hj
    rw [addr_add] at c0 c1 c2
    rw [addr_add] at c1 c2
    have e : ((List.range len).map f)[j]'(by rw [hlen]; exact hj) = f j := by simp
    rw [e]
    exact ⟨tv, c0, c1, c2, hs⟩
set_option maxRecDepth 20000 in
theorem slot_of_arg {r : Reach} {b0 : Nat} {v : Value} {d : DataW H} {p : List MemPlace} (hv : Value.okWide Try.prog w r b0 72 v) (h : DataW.Trod enc Try.prog w base spare held 72 v d p) :
    ∃ k d tv xs, v = .agg #[.int .i64 k, .string d, tv] ∧ Sl w tv xs := by
  obtain ⟨cs, rfl, hsz⟩ := okWide_struct Try.underlying72 hv
  obtain ⟨fuel, hf⟩ := h
  obtain ⟨k, d, tv, xs, e, hs⟩ := slot_of_trod hf
  refine ⟨k, d, tv, xs, ?_, hs⟩
  have e' : cs.toList = [.int .i64 k, .string d, tv] := by simpa [Value.cells] using e
  cases cs
  simp at e'
  rw [e']
end Go.Proofs.Ytehleeibgkpjmae
