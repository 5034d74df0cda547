/- Contract of the document's CountsOf, of an image of right shape. -/
import Derived.Test.YtehleeibgkpjmabRefD
namespace Go.Proofs.Ytehleeibgkpjmab
open Go.RowKit Go.Shelf
set_option maxRecDepth 20000

def rl (n : Nat) (f : Nat → Int) : List Int := (List.range n).map f
theorem rl_length (n : Nat) (f : Nat → Int) : (rl n f).length = n := by simp [rl]
theorem rl_get {n : Nat} {f : Nat → Int} {j : Nat} (h : j < n) : (rl n f).getD j 0 = f j := by simp [rl, List.getD, h]
theorem rl_set {n k : Nat} {f g : Nat → Int} {x : Int} (hx : g k = x) (h : ∀ j, j < n → j ≠ k → g j = f j) : (rl n f).set k x = rl n g := by
  subst hx
  apply List.ext_getElem
  · simp [rl]
  · intro j h1 h2
    have hj : j < n := by simpa [rl] using h2
    rw [List.getElem_set]
    by_cases e : k = j
    · subst e; simp [rl]
    · rw [if_neg e]; simp [rl]; exact (h j hj (fun x => e x.symm)).symm
theorem rl_congr {n : Nat} {f g : Nat → Int} (h : ∀ j, j < n → f j = g j) : rl n f = rl n g := List.map_congr_left fun j hj => h j (List.mem_range.1 hj)
theorem rl_of {l : List Int} {n : Nat} (h : l.length = n) : l = rl n (fun j => l.getD j 0) := by
  subst h
  apply List.ext_getElem
  · simp [rl]
  · intro j h1 h2; simp [rl, List.getD, h1]

def f1 (P : List Int) (k j : Nat) : Int := if 1 ≤ j ∧ j < k then ((P.count (j : Int) : Nat) : Int) else 0
def g1 (P : List Int) (j : Nat) : Int := if 1 ≤ j then ((P.count (j : Int) : Nat) : Int) else 0
def g2 (L : List SlotD) (P : List Int) (n j : Nat) : Int := if 1 ≤ j ∧ j < n ∧ kd L j = 1 then ((sumT L P j : Nat) : Int) else 0
def f2 (L : List SlotD) (P : List Int) (n j : Nat) : Int := g1 P j + g2 L P n j
theorem g1_pos {P : List Int} {j : Nat} (h : 1 ≤ j) : g1 P j = ((P.count (j : Int) : Nat) : Int) := by unfold g1; rw [if_pos h]
theorem g2_yes {L : List SlotD} {P : List Int} {n j : Nat} (h : 1 ≤ j ∧ j < n ∧ kd L j = 1) : g2 L P n j = ((sumT L P j : Nat) : Int) := by unfold g2; rw [if_pos h]
theorem g2_no {L : List SlotD} {P : List Int} {n j : Nat} (h : ¬ (1 ≤ j ∧ j < n ∧ kd L j = 1)) : g2 L P n j = 0 := by unfold g2; rw [if_neg h]
theorem g2_next {L : List SlotD} {P : List Int} {n j : Nat} (h : j ≠ n ∨ kd L n ≠ 1) : g2 L P n j = g2 L P (n + 1) j := by
  by_cases c : 1 ≤ j ∧ j < n ∧ kd L j = 1
  · rw [g2_yes c, g2_yes ⟨c.1, by omega, c.2.2⟩]
  · rw [g2_no c, g2_no]
    rintro ⟨d1, d2, d3⟩
    refine c ⟨d1, ?_, d3⟩
    rcases Nat.lt_or_ge j n with h' | h'
    · exact h'
    · have : j = n := by omega
      subst this
      rcases h with h | h
      · exact absurd rfl h
      · exact absurd d3 h
def sT (L : List SlotD) (P : List Int) (n k : Nat) : Nat := ((List.range k).map (toldT L P n)).sum
def f3 (L : List SlotD) (P : List Int) (n k j : Nat) : Int := if j = n then ((P.count (n : Int) + sT L P n k : Nat) : Int) else f2 L P n j

theorem sT_succ (L : List SlotD) (P : List Int) (n k : Nat) : sT L P n (k + 1) = sT L P n k + toldT L P n k := by
  unfold sT; rw [List.range_succ, List.map_append, List.sum_append]; simp
theorem sT_one {L : List SlotD} (hs : slotsE L = 0) (P : List Int) (n : Nat) : sT L P n 1 = 0 := by
  rw [sT_succ]; unfold sT toldT; rw [if_neg (by rw [slot0 hs]; simp)]; rfl
theorem sT_le {L : List SlotD} (h : slotsE L = 0) (P : List Int) (n : Nat) : ∀ k, sT L P n k ≤ 4 * k
  | 0 => Nat.le_refl _
  | k + 1 => by
    rw [sT_succ]
    have := sT_le h P n k
    have : toldT L P n k ≤ 4 := by
      unfold toldT
      split
      · exact Nat.le_trans List.count_le_length (tab4 h k)
      · omega
    omega
theorem f3_same {L : List SlotD} {P : List Int} {n q : Nat} (sn : Nat) (h : toldT L P n q = 0) : rl sn (f3 L P n q) = rl sn (f3 L P n (q + 1)) := rl_congr fun j _ => by
  unfold f3; rw [sT_succ, h]; rfl
theorem only_drew {g : Nat} {A B : World} (h : Only g A B) : Only g A B.drew := ⟨h.os, h.tape, h.output, h.size, h.block⟩
theorem f12 (L : List SlotD) (P : List Int) (sn : Nat) : rl sn (f1 P sn) = rl sn (f2 L P 1) := rl_congr fun j hj => by
  unfold f1 f2
  rw [g2_no (by omega)]
  unfold g1
  by_cases h : 1 ≤ j
  · rw [if_pos ⟨h, hj⟩, if_pos h]; simp
  · rw [if_neg (by omega), if_neg h]; rfl
theorem f23 {L : List SlotD} (hs : slotsE L = 0) (P : List Int) (sn n : Nat) (hn : 1 ≤ n) : rl sn (f2 L P n) = rl sn (f3 L P n 1) := rl_congr fun j _ => by
  unfold f3
  by_cases e : j = n
  · subst e; rw [if_pos rfl, sT_one hs]; unfold f2; rw [g1_pos hn, g2_no (by omega)]; simp
  · rw [if_neg e]
theorem f32 {L : List SlotD} (P : List Int) (n : Nat) (hn : 1 ≤ n) (hk : kd L n = 1) : rl L.length (f3 L P n L.length) = rl L.length (f2 L P (n + 1)) := rl_congr fun j _ => by
  unfold f3
  by_cases e : j = n
  · subst e; rw [if_pos rfl]; unfold f2; rw [g1_pos hn, g2_yes ⟨hn, by omega, hk⟩]; unfold sT sumT; omega
  · rw [if_neg e]; unfold f2
    rw [g2_next (.inl e)]
theorem f22 {L : List SlotD} (P : List Int) (sn n : Nat) (hk : kd L n ≠ 1) : rl sn (f2 L P n) = rl sn (f2 L P (n + 1)) := rl_congr fun j _ => by
  unfold f2
  rw [g2_next (.inr hk)]
theorem f2_end {m : ImgD} (h : shapeE m = 0) : rl m.slots.length (f2 m.slots (flatR m) m.slots.length) = cntL m := by
  rw [rl_of (cntL_length m)]
  refine rl_congr fun j hj => ?_
  rw [cntL_get h j hj]
  obtain ⟨z1, z2, z3, z4, z5, z6, z7⟩ := shapeE_zero h
  unfold f2 cntI
  by_cases h1 : 1 ≤ j
  · rw [g1_pos h1, if_neg (by omega)]
    by_cases hk : kd m.slots j = 1
    · rw [g2_yes ⟨h1, hj, hk⟩]; omega
    · rw [g2_no (fun d => hk d.2.2), sumT_no z6 _ h1 hk]; omega
  · rw [g2_no (by omega), if_pos (by omega)]; unfold g1; rw [if_neg h1]; rfl
theorem flatR_take (m : ImgD) (q : Nat) (hq : q < m.snaps.length) : (m.root ++ (m.snaps.take (q + 1)).flatMap (fun s => s.2.2)) = (m.root ++ (m.snaps.take q).flatMap (fun s => s.2.2)) ++ m.snaps[q].2.2 := by
  rw [List.take_add_one, List.getElem?_eq_getElem hq, Option.toList_some, List.flatMap_append, List.append_assoc]; simp
theorem flatR_all (m : ImgD) : m.root ++ (m.snaps.take m.snaps.length).flatMap (fun s => s.2.2) = flatR m := by
  rw [List.take_length]; rfl
theorem roots4 {m : ImgD} (h : shapeE m = 0) : ∀ s ∈ rootsOf m, s.2.2.length ≤ 4 := fun s hs => by
  obtain ⟨z1, z2, z3, z4, z5, z6, z7⟩ := shapeE_zero h
  have h1 := List.all_eq_true.1 z7 s hs
  have h2 := List.all_eq_true.1 z5 s hs
  unfold rootFit at h1
  unfold guestOK at h2
  simp only [Bool.and_eq_true, decide_eq_true_eq] at h1 h2
  omega

set_option linter.unusedSimpArgs false in
set_option maxRecDepth 20000 in
set_option maxHeartbeats 8000000 in
theorem countsOf_at (gm : Int) (ra : Option Addr) (rn rc : Nat) (sb so : Nat) (sn sc : Nat) (fa : Option Addr) (fn fc : Nat) (na : Option Addr) (nn nc : Nat) (m : ImgD) (w : World)
    (hsn : m.slots.length = sn) (hnn : m.snaps.length = nn) (hsb : sb < w.heap.size) (hcl : ∀ j, (h : j < m.slots.length) → SlAt w sb (so + j * 3) m.slots[j])
    (hr : Sl w (.slice ra rn rc) m.root) (hna : ∀ j, (h : j < m.snaps.length) → ∃ b off, na = some ⟨b, off, none⟩ ∧ b < w.heap.size ∧ SnAt w b (off + j * 3) m.snaps[j])
    (hE : shapeE m = 0) :
    Calls Try.prog 27 #[.agg #[.int .i64 gm, .slice ra rn rc, .slice (some ⟨sb, so, none⟩) sn sc, .slice fa fn fc, .slice na nn nc]] w fun r w' => (r = .returned (.slice (some ⟨w.heap.size + 1, 0, none⟩) sn sn) ∧ LAt w' (w.heap.size + 1) (cntL m)) ∧ Below w.heap.size w w' := by
  have b0 : Below w.heap.size w (w.alloc (.cells #[.int .i64 gm, .slice ra rn rc, .slice (some ⟨sb, so, none⟩) sn sc, .slice fa fn fc, .slice na nn nc] 44)) := (Below.refl _ _).alloc (Nat.le_refl _) _
  have m0 : (w.alloc (.cells #[.int .i64 gm, .slice ra rn rc, .slice (some ⟨sb, so, none⟩) sn sc, .slice fa fn fc, .slice na nn nc] 44)).heap[w.heap.size]? = some (.cells #[.int .i64 gm, .slice ra rn rc, .slice (some ⟨sb, so, none⟩) sn sc, .slice fa fn fc, .slice na nn nc] 44) := World.alloc_heap_new _ _
  obtain ⟨z1, z2, z3, z4, z5, z6, z7⟩ := shapeE_zero hE
  have h40 : sn ≤ 40 := by rw [← hsn]; exact (slotsE_parts z2).2
  have h1s : 1 ≤ sn := by rw [← hsn]; exact (slotsE_parts z2).1
  have hn3 : nn ≤ 3 := by rw [← hnn]; exact z1
  have hmk := mk_ints sn h40
  have m1 := cells_alloc m0 (.cells (Array.replicate sn (.int .i64 0)) 3)
  have b1 : Below w.heap.size w ((w.alloc (.cells #[.int .i64 gm, .slice ra rn rc, .slice (some ⟨sb, so, none⟩) sn sc, .slice fa fn fc, .slice na nn nc] 44)).alloc (.cells (Array.replicate sn (.int .i64 0)) 3)) := b0.alloc b0.size _
  have l1 : LAt ((w.alloc (.cells #[.int .i64 gm, .slice ra rn rc, .slice (some ⟨sb, so, none⟩) sn sc, .slice fa fn fc, .slice na nn nc] 44)).alloc (.cells (Array.replicate sn (.int .i64 0)) 3)) (w.heap.size + 1) (rl sn (f1 (flatR m) 1)) := by
    have := World.alloc_heap_new (w.alloc (.cells #[.int .i64 gm, .slice ra rn rc, .slice (some ⟨sb, so, none⟩) sn sc, .slice fa fn fc, .slice na nn nc] 44)) (.cells (Array.replicate sn (.int .i64 0)) 3)
    show _ = _
    have e : rl sn (f1 (flatR m) 1) = List.replicate sn 0 := by
      rw [rl_of (l := List.replicate sn 0) (n := sn) (by simp)]
      exact rl_congr fun j hj => by unfold f1; rw [if_neg (by omega)]; simp [List.getD, hj]
    rw [e]
    simpa using this
  have H1 : Hid (m.slots.length = sn ∧ m.snaps.length = nn) := ⟨hsn, hnn⟩
  have H2 : Hid (∀ j, (h : j < m.slots.length) → SlAt w sb (so + j * 3) m.slots[j]) := hcl
  have H3 : Hid (∀ j, (h : j < m.snaps.length) → ∃ b off, na = some ⟨b, off, none⟩ ∧ b < w.heap.size ∧ SnAt w b (off + j * 3) m.snaps[j]) := hna
  have H4 : Hid (slotsE m.slots = 0 ∧ tabFit m.slots = true) := ⟨z2, z6⟩
  have H5 : Hid (∀ s ∈ rootsOf m, s.2.2.length ≤ 4) := roots4 hE
  have H6 : Hid (shapeE m = 0) := hE
  have H7 : Hid (Sl w (.slice ra rn rc) m.root) := hr
  clear z1 z2 z3 z4 z5 z6 z7 hsn hnn hcl hna hE hr
  go_enter Try.func27, Try.ntmps27
  go_wp2_with fail
  obtain ⟨W1, hW1⟩ : ∃ W1, (w.alloc (.cells #[.int .i64 gm, .slice ra rn rc, .slice (some ⟨sb, so, none⟩) sn sc, .slice fa fn fc, .slice na nn nc] 44)).alloc (.cells (Array.replicate sn (.int .i64 0)) 3) = W1 := ⟨_, rfl⟩
  have hg0 : (w.alloc (.cells #[.int .i64 gm, .slice ra rn rc, .slice (some ⟨sb, so, none⟩) sn sc, .slice fa fn fc, .slice na nn nc] 44)).heap.size = w.heap.size + 1 := by simp
  have hzW : W1.heap.size = w.heap.size + 1 + 1 := by rw [← hW1]; simp
  have hz1 : w.heap.size + 1 < W1.heap.size := by omega
  rw [hW1] at m1 b1 l1 ⊢
  clear hmk hzW hW1 m0 b0 hg0
  go_loopw [4, 5, 6] (fun i _ _ wq => ∃ k : Nat, 1 ≤ k ∧ k ≤ sn ∧ i = .int .i64 k ∧ LAt wq (w.heap.size + 1) (rl sn (f1 (flatR m) k)) ∧ Only (w.heap.size + 1) W1 wq) (fun i _ _ _ => sn - (intOf i).toNat)
  case atStart => exact ⟨1, by omega, by omega, rfl, l1, Only.refl _ _⟩
  case round =>
    obtain ⟨k, hk1, hk, rfl, hL, hO⟩ := hrel
    obtain ⟨wa, hrn⟩ : ∃ X, X = wr := ⟨_, rfl⟩
    subst hrn
    have mr := hO.cellsAt (by omega) m1
    obtain ⟨c0, c1, c2, c3, c4⟩ := five mr
    have hbw : Below w.heap.size w wa := b1.trans (hO.below (by omega))
    by_cases hlk : k < sn
    · have hki : (k : Int) < (sn : Int) := by omega
      have hrt := H7.out.below hbw
      have hcall := told_is hrt (by have := H5.out (⟨#[]⟩, m.guest, m.root) List.mem_cons_self; simp at this; omega) (k : Int) (rfl : ((m.root.count (k : Int) : Nat) : Int) = _)
      have hc4 : m.root.count (k : Int) ≤ 4 := by
        have h1 := H5.out (⟨#[]⟩, m.guest, m.root) List.mem_cons_self
        have h2 : m.root.count (k : Int) ≤ m.root.length := List.count_le_length
        simp at h1; omega
      obtain ⟨u0, hu0⟩ : ∃ u, m.root.count (k : Int) = u := ⟨_, rfl⟩
      have HU0 : Hid (m.root.count (k : Int) = u0) := hu0
      rw [hu0] at hcall hc4
      clear hrt hu0
      go_wp2_with (go_at_call 50; refine hcall.mono ?_; rintro e w' ⟨rfl, hw⟩; rw [hw]; clear hw)
      go_loopw [5, 6] (fun c i wq => ∃ q u : Nat, q ≤ nn ∧ u ≤ 4 + 4 * q ∧ i = .int .i64 q ∧ c = .int .i64 u ∧ Hid (u = (m.root ++ (m.snaps.take q).flatMap (fun s => s.2.2)).count (k : Int)) ∧ wq = wa) (fun _ i _ => nn - (intOf i).toNat)
      case atStart => exact ⟨0, u0, Nat.zero_le _, by omega, rfl, rfl, by show _ = _; rw [← HU0.out]; simp, rfl⟩
      case round =>
        obtain ⟨q, u, hq, hu, rfl, rfl, HU, hw⟩ := hrel
        subst hw
        obtain ⟨wb, hrn⟩ : ∃ X, X = wr := ⟨_, rfl⟩
        subst hrn
        by_cases hlq : q < nn
        · have hqm : q < m.snaps.length := by rw [H1.out.2]; exact hlq
          obtain ⟨b, off, rfl, hlt, hS⟩ := H3.out q hqm
          obtain ⟨s, hs⟩ : ∃ s, s = m.snaps[q] := ⟨_, rfl⟩
          obtain ⟨nm, gg, rr⟩ := s
          rw [← hs] at hS
          obtain ⟨rv, s1, s2, s3, hsl⟩ := hS
          have hqi : (q : Int) < (nn : Int) := by omega
          have s3 : wb.cell? ⟨b, off + q * 3 + 2, none⟩ = some rv := (hbw.cell (p := ⟨b, off + q * 3 + 2, none⟩) hlt).trans s3
          obtain ⟨va, vc, rfl⟩ := hsl.form
          have hr4 : rr.length ≤ 4 := H5.out (nm, gg, rr) (List.mem_cons_of_mem _ (by rw [hs]; exact List.getElem_mem hqm))
          have hslr : Sl w (.slice va rr.length vc) rr := hsl
          have hcall2 := told_is (hslr.below hbw) (show rr.length ≤ 1000000 by omega) (k : Int) (rfl : ((rr.count (k : Int) : Nat) : Int) = _)
          have hv4 : rr.count (k : Int) ≤ 4 := Nat.le_trans List.count_le_length hr4
          have HT : Hid ((m.root ++ (m.snaps.take (q + 1)).flatMap (fun s => s.2.2)).count (k : Int) = u + rr.count (k : Int)) := by
            show _ = _
            rw [flatR_take m q hqm, List.count_append, ← HU.out, ← hs]
          obtain ⟨v, hv⟩ : ∃ v, rr.count (k : Int) = v := ⟨_, rfl⟩
          rw [hv] at hcall2 hv4 HT
          clear hs hsl hslr s1 s2 hv hcall
          go_wp2_with (go_at_call 50; refine hcall2.mono ?_; rintro e w' ⟨rfl, hw⟩; rw [hw]; clear hw)
          go_roundw
          case rel => exact ⟨q + 1, u + v, by omega, by omega, by go_num, by go_num, by show _ = _; rw [HT.out], trivial⟩
          case measure => simp [intOf]; omega
        · have HE : Hid (u = (flatR m).count (k : Int)) := by
            show _ = _
            rw [HU.out, ← flatR_all, H1.out.2]
            have e : q = nn := by omega
            rw [e]
          have e5 : q = nn := by omega
          subst e5
          have hcx : wb.cell? ⟨w.heap.size + 1, k, none⟩ = some (.int .i64 ((rl sn (f1 (flatR m) k)).getD k 0)) := hL.cell (by rw [rl_length]; exact hlk)
          have hfx := hL.frozen k
          clear hcall
          go_wp2_with fail
          go_roundw
          case rel => exact ⟨k + 1, by omega, by omega, by go_num, by
            have := hL.set k (u : Int)
            rwa [rl_set (g := f1 (flatR m) (k + 1)) (by unfold f1; rw [if_pos ⟨hk1, by omega⟩, ← HE.out]) (fun j _ hj => by
              unfold f1
              by_cases c : 1 ≤ j ∧ j < k
              · rw [if_pos ⟨c.1, by omega⟩, if_pos c]
              · rw [if_neg (fun d => c ⟨d.1, by omega⟩), if_neg c])] at this, hO.trans (Only.set _ _ _ _)⟩
          case measure => simp [intOf]; omega
    · have e5 : k = sn := by omega
      subst e5
      rw [f12 m.slots] at hL
      go_wp2_with fail
      go_loopw [7, 8] (fun i _ wq => ∃ n : Nat, 1 ≤ n ∧ n ≤ k ∧ i = .int .i64 n ∧ LAt wq (w.heap.size + 1) (rl k (f2 m.slots (flatR m) n)) ∧ Only (w.heap.size + 1) W1 wq) (fun i _ _ => k - (intOf i).toNat)
      case atStart => exact ⟨1, by omega, by omega, rfl, hL, hO⟩
      case round =>
        clear hL hO mr c0 c1 c2 c3 c4 hbw
        obtain ⟨n, hn1, hn, rfl, hL, hO⟩ := hrel
        obtain ⟨wc, hrn⟩ : ∃ X, X = wr := ⟨_, rfl⟩
        subst hrn
        have mr := hO.cellsAt (by omega) m1
        obtain ⟨c0, c1, c2, c3, c4⟩ := five mr
        have hbw : Below w.heap.size w wc := b1.trans (hO.below (by omega))
        by_cases hln : n < k
        · have hni : (n : Int) < (k : Int) := by omega
          have hnm : n < m.slots.length := by rw [H1.out.1]; exact hln
          obtain ⟨tv, s1, _, _, _⟩ := H2.out n hnm
          have ekd : m.slots[n].1 = kd m.slots n := by unfold kd; simp [List.getD, hnm]
          rw [ekd] at s1
          obtain ⟨K, hK⟩ : ∃ K, kd m.slots n = K := ⟨_, rfl⟩
          rw [hK] at s1
          have s1 : wc.cell? ⟨sb, so + n * 3, none⟩ = some (.int .i64 K) := (hbw.cell (p := ⟨sb, so + n * 3, none⟩) hsb).trans s1
          have HK : Hid (kd m.slots n = K) := hK
          clear hK ekd
          by_cases hK1 : K = 1
          · have hKb : (K != 1) = false := by simp [hK1]
            have HK1 : Hid (K = 1) := hK1
            clear hK1
            rw [f23 H4.out.1 _ _ _ hn1] at hL
            go_wp2_with fail
            go_loopw [8] (fun i wq => ∃ q : Nat, 1 ≤ q ∧ q ≤ k ∧ i = .int .i64 q ∧ LAt wq (w.heap.size + 1) (rl k (f3 m.slots (flatR m) n q)) ∧ Only (w.heap.size + 1) W1 wq) (fun i _ => k - (intOf i).toNat)
            case atStart => exact ⟨1, by omega, by omega, rfl, hL, hO⟩
            case round =>
              clear hL hO mr c0 c1 c2 c3 c4 hbw
              obtain ⟨q, hq1, hq, rfl, hL, hO⟩ := hrel
              obtain ⟨wd, hrn⟩ : ∃ X, X = wr := ⟨_, rfl⟩
              subst hrn
              have mr := hO.cellsAt (by omega) m1
              obtain ⟨c0, c1, c2, c3, c4⟩ := five mr
              have hbw : Below w.heap.size w wd := b1.trans (hO.below (by omega))
              clear s1
              by_cases hlq : q < k
              · have hqi : (q : Int) < (k : Int) := by omega
                have hqm : q < m.slots.length := by rw [H1.out.1]; exact hlq
                obtain ⟨tv, t1, _, t3, hsl⟩ := H2.out q hqm
                have ekd : m.slots[q].1 = kd m.slots q := by unfold kd; simp [List.getD, hqm]
                rw [ekd] at t1
                obtain ⟨Q, hQ⟩ : ∃ Q, kd m.slots q = Q := ⟨_, rfl⟩
                rw [hQ] at t1
                have t1 : wd.cell? ⟨sb, so + q * 3, none⟩ = some (.int .i64 Q) := (hbw.cell (p := ⟨sb, so + q * 3, none⟩) hsb).trans t1
                have t3 : wd.cell? ⟨sb, so + q * 3 + 2, none⟩ = some tv := (hbw.cell (p := ⟨sb, so + q * 3 + 2, none⟩) hsb).trans t3
                have HQ : Hid (kd m.slots q = Q) := hQ
                clear hQ ekd
                by_cases hQ2 : Q = 2
                · have hQb : (Q == 2) = true := by simp [hQ2]
                  have hnq : q ≠ n := fun e => by
                    subst e
                    have := HQ.out; rw [HK.out, HK1.out, hQ2] at this; cases this
                  have hcq : wd.cell? ⟨w.heap.size + 1, q, none⟩ = some (.int .i64 (((flatR m).count (q : Int) : Nat) : Int)) := by
                    rw [hL.cell (by rw [rl_length]; exact hlq), rl_get hlq]
                    unfold f3 f2
                    rw [if_neg hnq, g1_pos hq1, g2_no (fun d => by have := d.2.2; rw [HQ.out, hQ2] at this; cases this)]; simp
                  obtain ⟨cq, hcq'⟩ : ∃ c, (flatR m).count (q : Int) = c := ⟨_, rfl⟩
                  rw [hcq'] at hcq
                  have HCQ : Hid ((flatR m).count (q : Int) = cq) := hcq'
                  have HQ2 : Hid (Q = 2) := hQ2
                  clear hcq' hQ2
                  by_cases hpos : 0 < cq
                  · have hposi : (0 : Int) < (cq : Int) := by omega
                    have etab : m.slots[q].2.2 = tabOf m.slots q := by unfold tabOf; simp [List.getD, hqm]
                    rw [etab] at hsl
                    have ht4 := tab4 H4.out.1 (q : Int)
                    obtain ⟨va, vc, rfl⟩ := hsl.form
                    obtain ⟨tl, htl⟩ : ∃ tl, tabOf m.slots q = tl := ⟨_, rfl⟩
                    have HTL : Hid (tabOf m.slots q = tl) := htl
                    rw [htl] at t3 hsl ht4
                    have hcall := fun W (hW : Below w.heap.size w W) => told_is (hsl.below hW) (by omega) (n : Int) (rfl : ((tl.count (n : Int) : Nat) : Int) = _)
                    have hv4 : tl.count (n : Int) ≤ 4 := Nat.le_trans List.count_le_length ht4
                    obtain ⟨v, hv⟩ : ∃ v, tl.count (n : Int) = v := ⟨_, rfl⟩
                    rw [hv] at hcall hv4
                    have HT : Hid (sT m.slots (flatR m) n (q + 1) = sT m.slots (flatR m) n q + v) := by
                      show _ = _
                      rw [sT_succ]
                      unfold toldT
                      rw [if_pos ⟨by rw [HQ.out, HQ2.out], by rw [← List.count_pos_iff, HCQ.out]; exact hpos⟩, HTL.out, hv]
                    have hcn : wd.cell? ⟨w.heap.size + 1, n, none⟩ = some (.int .i64 (((flatR m).count (n : Int) + sT m.slots (flatR m) n q : Nat) : Int)) := by
                      rw [hL.cell (by rw [rl_length]; exact hln), rl_get hln]
                      unfold f3
                      rw [if_pos rfl]
                    have hle : (flatR m).count (n : Int) + sT m.slots (flatR m) n q ≤ 0 + 160 := by
                      rw [root_no (flatR_root H6.out) hn1 (by rw [HK.out, HK1.out]; decide)]
                      have := sT_le H4.out.1 (flatR m) n q
                      omega
                    obtain ⟨x, hx⟩ : ∃ x, (flatR m).count (n : Int) + sT m.slots (flatR m) n q = x := ⟨_, rfl⟩
                    rw [hx] at hcn hle
                    have HX : Hid ((flatR m).count (n : Int) + sT m.slots (flatR m) n q = x) := hx
                    have hfx := hL.frozen n
                    clear hsl htl hv hx etab
                    go_wp2_with fail
                    go_region_with (go_at_call 50; refine (hcall _ (to_drew hbw)).mono ?_; rintro e w' ⟨rfl, hw⟩; rw [hw]; clear hw)
                    all_goals
                      go_wp2_with fail
                      go_roundw
                      case rel => exact ⟨q + 1, by omega, by omega, by go_num, by
                        have hL' : LAt wd.drew (w.heap.size + 1) (rl k (f3 m.slots (flatR m) n q)) := hL
                        have := hL'.set n ((x : Int) + (v : Int))
                        rwa [rl_set (g := f3 m.slots (flatR m) n (q + 1)) (by unfold f3; rw [if_pos rfl, HT.out, ← Nat.add_assoc, HX.out]; omega) (fun j _ hj => by unfold f3; rw [if_neg hj, if_neg hj])] at this, (only_drew hO).trans (Only.set _ _ _ _)⟩
                      case measure => simp [intOf]; omega
                  · have hposi : ¬ (0 : Int) < (cq : Int) := by omega
                    have HZ : Hid (toldT m.slots (flatR m) n q = 0) := by
                      show _ = _
                      unfold toldT
                      rw [if_neg]
                      intro d
                      have := List.count_pos_iff.2 d.2
                      rw [HCQ.out] at this
                      exact hpos this
                    go_wp2_with fail
                    go_roundw
                    case rel => exact ⟨q + 1, by omega, by omega, by go_num, by rw [← f3_same _ HZ.out]; exact hL, hO⟩
                    case measure => simp [intOf]; omega
                · have hQb : (Q == 2) = false := by simp [hQ2]
                  have HZ : Hid (toldT m.slots (flatR m) n q = 0) := by
                    show _ = _
                    unfold toldT
                    rw [if_neg]
                    intro d
                    exact hQ2 (by rw [← HQ.out]; exact d.1)
                  clear hQ2
                  go_wp2_with fail
                  go_roundw
                  case rel => exact ⟨q + 1, by omega, by omega, by go_num, by rw [← f3_same _ HZ.out]; exact hL, hO⟩
                  case measure => simp [intOf]; omega
              · have e6 : q = k := by omega
                subst e6
                have hL2 : LAt wd (w.heap.size + 1) (rl q (f2 m.slots (flatR m) (n + 1))) := by
                  have := f32 (flatR m) n hn1 (by rw [HK.out, HK1.out])
                  rw [H1.out.1] at this
                  rw [← this]; exact hL
                go_wp2_with fail
                go_roundw
                case rel => exact ⟨n + 1, by omega, by omega, by go_num, hL2, hO⟩
                case measure => simp [intOf]; omega
          · have hKb : (K != 1) = true := by simp [hK1]
            have HK1 : Hid (kd m.slots n ≠ 1) := by show _ ≠ _; rw [HK.out]; exact hK1
            clear hK1
            go_wp2_with fail
            go_roundw
            case rel => exact ⟨n + 1, by omega, by omega, by go_num, by rw [← f22 _ _ _ HK1.out]; exact hL, hO⟩
            case measure => simp [intOf]; omega
        · have e6 : n = k := by omega
          subst e6
          have hL2 : LAt wc (w.heap.size + 1) (cntL m) := by
            rw [← f2_end H6.out, H1.out.1]; exact hL
          go_wp2_with fail
          go_ret
          exact ⟨⟨rfl, hL2⟩, hbw⟩

theorem countsOf_is {w : World} {v : Value} {m : ImgD} (h : Img w v m) (hE : shapeE m = 0) :
    Calls Try.prog 27 #[v] w fun r w' => (r = .returned (.slice (some ⟨w.heap.size + 1, 0, none⟩) m.slots.length m.slots.length) ∧ LAt w' (w.heap.size + 1) (cntL m)) ∧ Below w.heap.size w w' := by
  obtain ⟨ra, rc, sa, sc, fa, fc, na, nc, rfl, h1, h2, _, h4⟩ := h.parts
  have hp := slotsE_parts (shapeE_zero hE).2.1
  obtain ⟨sb, so, sc', e, hcp, hlt, hcell⟩ := h2.open hp.1
  simp at e
  obtain ⟨rfl, rfl⟩ := e
  exact countsOf_at m.guest ra _ rc sb so _ sc fa _ fc na _ nc m w rfl rfl hlt hcell h1 h4.at hE
end Go.Proofs.Ytehleeibgkpjmab
