/- Texts joined: WrE, WrZ, WrRz, WrB, SkW, Pair, FrI. -/
import Derived.Test.YtehleeibgkpjmafGreatStackCommitsJ8
import Derived.Test.YtehleeibgkpjmafGreatStackCommitsJ9
import Derived.Test.YtehleeibgkpjmafGreatStackCommitsJ4
import Derived.BigQuiet
import Derived.Laws.CopyRow
import Derived.Laws.IdiomCopy
import Derived.Test.YtehleeibgkpjmafGreatStackCommitsJ6
import Derived.Test.YtehleeibgkpjmafGreatStackCommitsJ5
import Derived.Deep.RegionHeld
/- Contracts of writing: slices.Equal at entries, Cut with its row, cut. -/
namespace Go.Proofs.YtehleeibgkpjmafGreat
open Go.RowKit Go.Shelf
set_option maxRecDepth 20000

set_option maxHeartbeats 400000 in
theorem cut_own (v : Value) (xs : List Int) (k : Nat) (w : World) (h : Sl w v xs) (h0 : ckE xs = 0) (hk4 : k ≤ 4) : Calls Tryz.prog 102 #[v, .int .i64 k] w fun r w' => ∃ v', r = .returned (.tuple #[v', .int .i64 0]) ∧ w'.ownsRow w.heap.size 3 1 v' (cutR xs k).length (ints (cutR xs k)) ∧ Below w.heap.size w w' := by
  have H4 : Hid (xs.length = 4) := ckE_len h0
  have hk4' : (k : Int) ≤ 4 := by omega
  have hk0' : ¬ (k : Int) < 0 := by omega
  go_enter Tryz.func102, Tryz.ntmps102
  go_wp2_with (first | (go_at_call 113; refine (check_any _ xs _ h).mono ?_; rintro e w' ⟨rfl, rfl⟩) | (go_at_call 115; refine (first_any _ xs _ _ h H4.out (by omega) (by omega)).mono ?_; rintro e w1 ⟨g, cap', rfl, hown, hbel⟩; have HO : Hid (w1.ownsRow _ 3 1 (.slice (some ⟨g, 0, none⟩) 4 cap') 4 ((cutR xs (Int.toNat (k : Int))).map (.int .i64))) := hown; clear hown))
  go_ret2
  have hO := HO.out
  rw [Int.toNat_natCast] at hO
  have hl : (cutR xs k).length = 4 := by unfold cutR; simp [H4.out]; omega
  rw [hl]
  exact ⟨_, rfl, hO, hbel⟩

theorem row_belowW {W W' : World} {B n size : Nat} {e : TypeId} {v : Value} {xs : List Value} (h : W.ownsRow B e size v n xs) (hb : Below W.heap.size W W') : W'.ownsRow B e size v n xs := row_blk h (fun g e => hb.block g (h.lt g e).2)
theorem cutR_len {xs : List Int} (h : xs.length = 4) {k : Nat} (hk : k ≤ 4) : (cutR xs k).length = 4 := by unfold cutR; simp [h]; omega
theorem cutR_ck {xs : List Int} (h : ckE xs = 0) {k : Nat} (hk : k ≤ 4) : ckE (cutR xs k) = 0 := by
  have h4 := ckE_len h
  refine ckE_yes (cutR_len h4 hk) ?_
  have ha : xs.all isE = true := by
    unfold ckE at h
    split at h
    · rename_i h1; exact h1.2
    · cases h
  rw [List.all_eq_true] at ha ⊢
  intro x hx
  unfold cutR at hx
  rcases List.mem_append.1 hx with h1 | h1
  · exact ha x (List.mem_of_mem_take h1)
  · rw [List.eq_of_mem_replicate h1]; decide

set_option maxHeartbeats 2000000 in
theorem wcut_is {m : ImgD} {g B D : Nat} {val : Nm → Value} {w : World} (hK : DK w B D val m) (hB : B ≤ w.heap.size) (h16 : g ≤ 16) (hs : shapeE m = 0) :
    Calls Tryz.prog 83 #[.pointer (some ⟨D, 0, none⟩), .int .i64 (g : Int)] w (Tells w B D m val nilV (cutP m g)) := by
  obtain ⟨ra, rc, e0, _⟩ := hK.own.forms .root (Live.root m)
  have d1 : w.cell? ⟨D, 1, none⟩ = some (.slice ra m.root.length rc) := hK.root5 e0
  have e4 : ((g / 4 : Nat) : Int) = (g : Int) / 4 := by omega
  have e5 : ((g % 4 : Nat) : Int) = (g : Int) % 4 := by omega
  have hrl := (shapeE_zero hs).2.2.1
  unfold cutP
  by_cases hr : g / 4 < m.root.length
  · obtain ⟨t, ht, htl⟩ := root_nat hs hr
    have hck := (tableO_ok hs hr).1
    have hent := entries_is hK hr ht htl
    rw [e4] at hent
    have hg1 : ¬ (m.root.length : Int) ≤ (g : Int) / 4 := by omega
    have hg2 : decide ((m.root.length : Int) ≤ (g : Int) / 4) = false := by simp; omega
    have HC : Hid (∀ v w1, Sl w1 v (tableO m (g / 4)) → Calls Tryz.prog 102 #[v, .int .i64 ((g : Int) % 4)] w1 fun r w' => ∃ v', r = .returned (.tuple #[v', .int .i64 0]) ∧ w'.ownsRow w1.heap.size 3 1 v' (cutR (tableO m (g / 4)) (g % 4)).length (ints (cutR (tableO m (g / 4)) (g % 4))) ∧ Below w1.heap.size w1 w') := fun v w1 h1 => by
      have := cut_own v _ (g % 4) w1 h1 hck (by omega)
      rw [e5] at this
      exact this
    by_cases hne : cutR (tableO m (g / 4)) (g % 4) = tableO m (g / 4)
    · rw [if_neg (fun x => x.2 hne)]
      have HQ : Hid (∀ u v W, W.ownsRow w.heap.size 3 1 u (cutR (tableO m (g / 4)) (g % 4)).length (ints (cutR (tableO m (g / 4)) (g % 4))) → Sl W v (tableO m (g / 4)) → Calls Tryz.prog 70 #[u, v] W fun r w' => r = .returned (.bool true) ∧ Below W.heap.size W w') := fun u v W h1 h2 => equal_is (row_sl h1) h2 (by rw [hne]) (by rw [hne]; simp)
      have HF : Hid (∀ W, Below w.heap.size w W → DTo w W B D m val nilV m val) := fun W hb => (DTo.refl hK nilV).below hB hb
      clear hK e0 e4 e5 hrl hr ht htl hck hne hs
      go_enter Tryz.func83, Tryz.ntmps83
      go_wp2_with (first | (go_at_call 70; refine (HQ.out _ _ _ (row_mono ho2 b1.size) (hs1.below b2)).mono ?_; rintro e w3 ⟨rfl, b3⟩) | (go_at_call 102; refine (HC.out _ _ hs1).mono ?_; rintro e w2 ⟨v2, rfl, ho2, b2⟩) | (go_at_call 92; refine hent.mono ?_; rintro e w1 ⟨v1, rfl, hs1, b1⟩))
      go_end0
      exact ⟨rfl, val, HF.out _ (Below.on' b1 b2 b3)⟩
    · rw [if_pos ⟨hr, hne⟩]
      have hl4 := ckE_len hck
      have HQ : Hid (∀ u v W, W.ownsRow w.heap.size 3 1 u (cutR (tableO m (g / 4)) (g % 4)).length (ints (cutR (tableO m (g / 4)) (g % 4))) → Sl W v (tableO m (g / 4)) → Calls Tryz.prog 70 #[u, v] W fun r w' => r = .returned (.bool false) ∧ Below W.heap.size W w') := fun u v W h1 h2 => equal_is (row_sl h1) h2 (by rw [hl4]; exact cutR_len hl4 (by omega)) (by simpa using hne)
      cases ho : layP m (g / 4) (cutR (tableO m (g / 4)) (g % 4)) with
      | none =>
        have HL : Hid (∀ ev W, Below w.heap.size w W → W.ownsRow w.heap.size 3 1 ev (cutR (tableO m (g / 4)) (g % 4)).length (ints (cutR (tableO m (g / 4)) (g % 4))) → Calls Tryz.prog 93 #[.pointer (some ⟨D, 0, none⟩), .int .i64 ((g : Int) / 4), ev] W (Tells w B D m val nilV none)) := fun ev W h1 h3 => by
          have := wlay_new hK hB hr ht htl (.inr (shapeE_zero hs).2.1) hrl h1 (Nat.le_refl _) h3 (cutR_ck hck (by omega)) ho
          rw [e4] at this
          exact this
        clear hK e0 e4 e5 hrl hr ht htl hck hne hs hl4 ho
        go_enter Tryz.func83, Tryz.ntmps83
        go_wp2_with (first | (go_at_call 93; refine (HL.out _ _ (Below.on' b1 b2 b3) (row_belowW (row_mono ho2 b1.size) b3)).mono ?_; rintro e w4 ⟨rfl, b4⟩; exact ⟨rfl, rfl, b4⟩) | (go_at_call 70; refine (HQ.out _ _ _ (row_mono ho2 b1.size) (hs1.below b2)).mono ?_; rintro e w3 ⟨rfl, b3⟩) | (go_at_call 102; refine (HC.out _ _ hs1).mono ?_; rintro e w2 ⟨v2, rfl, ho2, b2⟩) | (go_at_call 92; refine hent.mono ?_; rintro e w1 ⟨v1, rfl, hs1, b1⟩))
      | some M =>
        have HL : Hid (∀ ev W, Below w.heap.size w W → W.ownsRow w.heap.size 3 1 ev (cutR (tableO m (g / 4)) (g % 4)).length (ints (cutR (tableO m (g / 4)) (g % 4))) → Calls Tryz.prog 93 #[.pointer (some ⟨D, 0, none⟩), .int .i64 ((g : Int) / 4), ev] W (Tells w B D m val nilV (some M))) := fun ev W h1 h3 => by
          have := wlay_new hK hB hr ht htl (.inr (shapeE_zero hs).2.1) hrl h1 (Nat.le_refl _) h3 (cutR_ck hck (by omega)) ho
          rw [e4] at this
          exact this
        clear hK e0 e4 e5 hrl hr ht htl hck hne hs hl4 ho
        go_enter Tryz.func83, Tryz.ntmps83
        go_wp2_with (first | (go_at_call 93; refine (HL.out _ _ (Below.on' b1 b2 b3) (row_belowW (row_mono ho2 b1.size) b3)).mono ?_; rintro e w4 ⟨rfl, val4, hT⟩) | (go_at_call 70; refine (HQ.out _ _ _ (row_mono ho2 b1.size) (hs1.below b2)).mono ?_; rintro e w3 ⟨rfl, b3⟩) | (go_at_call 102; refine (HC.out _ _ hs1).mono ?_; rintro e w2 ⟨v2, rfl, ho2, b2⟩) | (go_at_call 92; refine hent.mono ?_; rintro e w1 ⟨v1, rfl, hs1, b1⟩))
        go_end0
        exact ⟨rfl, val4, hT⟩
  · rw [if_neg (fun x => hr x.1)]
    have hg1 : (m.root.length : Int) ≤ (g : Int) / 4 := by omega
    have hg2 : decide ((m.root.length : Int) ≤ (g : Int) / 4) = true := by simp; omega
    have HF : Hid (DTo w w B D m val nilV m val) := DTo.refl hK nilV
    clear hK e0 e4 e5 hrl hr hs
    go_enter Tryz.func83, Tryz.ntmps83
    go_wp2_with fail
    refine bodyPost_ret (results_none rfl _ _ _) rfl ?_
    exact ⟨rfl, val, HF.out⟩
end Go.Proofs.YtehleeibgkpjmafGreat
/- Contracts of writing: Resize. -/
namespace Go.Proofs.YtehleeibgkpjmafGreat
open Go.RowKit Go.Shelf
set_option maxRecDepth 20000

def rootTo (xs : List Int) (n : Nat) : List Int := (xs ++ List.replicate (n - xs.length) 0).take n
theorem rootTo_len (xs : List Int) (n : Nat) : (rootTo xs n).length = n := by unfold rootTo; simp; omega
theorem copy_root {w : World} {v : Value} {xs : List Int} (h : Sl w v xs) (n : Nat) :
    ∃ W2 c, (Builtin.copy_ #[23, 23] 3 #[.slice (some ⟨w.heap.size, 0, none⟩) n n, v]).run Tryz.prog (w.alloc (.cells ((List.replicate n (0 : Int)).map (Value.int .i64)).toArray 3)) = .ok c W2 ∧
      W2.heap[w.heap.size]? = some (.cells ((rootTo xs n).map (Value.int .i64)).toArray 3) ∧ Below w.heap.size w W2 := by
  obtain ⟨ao, cap, rfl⟩ := h.form
  obtain ⟨_, _, _, hc⟩ := h.cells
  have hg := heap_alloc_new w (.cells ((List.replicate n (0 : Int)).map (Value.int .i64)).toArray 3)
  by_cases h0 : min xs.length n = 0
  · have hrun := run_copy_none (P := Tryz.prog) (w.alloc (.cells ((List.replicate n (0 : Int)).map (Value.int .i64)).toArray 3)) 23 23 3 3 (some ⟨w.heap.size, 0, none⟩) ao n n xs.length cap Tryz.underlying23 Tryz.size3 h0
    refine ⟨_, _, hrun, ?_, (Below.refl _ _).alloc (Nat.le_refl _) _⟩
    have e : rootTo xs n = List.replicate n 0 := by
      unfold rootTo
      by_cases hn : n = 0
      · subst hn; simp
      · have : xs = [] := List.length_eq_zero_iff.1 (by omega)
        subst this
        simp
    rw [e]
    exact hg
  · obtain ⟨b, off, rfl, hb, _⟩ := hc 0 (by omega)
    have hc : ∀ j, j < xs.length → w.cell? ⟨b, off + j, none⟩ = some (.int .i64 (xs.getD j 0)) := fun j hj => by
      obtain ⟨b', off', e, _, h2⟩ := hc j hj
      simp only [Option.some.injEq, Addr.mk.injEq, and_true] at e
      obtain ⟨rfl, rfl⟩ := e
      exact h2
    obtain ⟨X, hX⟩ : ∃ X, X = (xs.take n).map (Value.int .i64) := ⟨_, rfl⟩
    have hXl : X.length = min xs.length n := by rw [hX]; simp; omega
    have hsrc : ∀ j v, X[j]? = some v → (w.alloc (.cells ((List.replicate n (0 : Int)).map (Value.int .i64)).toArray 3)).cell? ((⟨b, off, none⟩ : Addr).add j) = some v := by
      intro j v hj
      have hjn : j < min xs.length n := by have := (List.getElem?_eq_some_iff.1 hj).1; rw [hXl] at this; exact this
      rw [hX] at hj
      have : v = .int .i64 (xs.getD j 0) := by
        rw [List.getElem?_map, List.getElem?_take, if_pos (by omega)] at hj
        simp [List.getD, show j < xs.length by omega] at hj ⊢
        exact hj.symm
      rw [this]
      rw [addr_add]
      exact (World.cell?_alloc_past _ _ _ hb).trans (hc j (by omega))
    have hrun := run_copy_row (P := Tryz.prog) _ 23 23 3 3 w.heap.size 0 n n ⟨b, off, none⟩ xs.length cap _ 3 X Tryz.underlying23 Tryz.size3 hg hXl hsrc (by rw [hXl]; simp; omega) (by rw [hX]; exact ints_oneCell _ _)
    refine ⟨_, _, hrun, ?_, below_setRow ((Below.refl _ _).alloc (Nat.le_refl _) _) (Nat.le_refl _) _⟩
    rw [setRow_heap _ _ _ _ _ _ hg, hX]
    have e : (rootTo xs n).map (Value.int .i64) = (xs.take n).map (Value.int .i64) ++ ((List.replicate n (0 : Int)).map (Value.int .i64)).drop (min xs.length n) := by
      rw [← List.map_drop, ← List.map_append]
      congr 1
      unfold rootTo
      rw [List.take_append, List.take_replicate, List.drop_replicate]
      congr 2
      omega
    rw [e]
    simp [Nat.min_comm]

theorem row_whole {W : World} {B g : Nat} {xs : List Int} (hB : B ≤ g) (h : W.heap[g]? = some (.cells (xs.map (Value.int .i64)).toArray 3)) (hm : xs.length ≤ 40) : W.ownsRow B 3 1 (.slice (some ⟨g, 0, none⟩) xs.length xs.length) xs.length (ints xs) := by
  have hx : (40 : Nat) ≤ maxLen := by decide
  exact ⟨by simp [ints], .inr ⟨g, xs.length, _, rfl, hB, h, Nat.le_refl _, Nat.le_trans hm hx, by simp, by simp [ints, List.take_of_length_le]⟩⟩

set_option maxHeartbeats 2000000 in
theorem rz_turn {w : World} {m : ImgD} {g bg : Nat} (cg : w.cell? ⟨bg, 0, none⟩ = some (.int .i64 (g : Int))) (lg : bg < w.heap.size) (h16 : g ≤ 16) (hs : shapeE m = 0) :
    Turns w 82 #[.pointer (some ⟨bg, 0, none⟩)] m (rzP m g) := by
  intro W D B val hb h1 h2 hK
  have cg := (hb.cell (p := ⟨bg, 0, none⟩) lg).trans cg
  have hcut := wcut_is hK h2 h16 hs
  show Calls Tryz.prog 82 #[.pointer (some ⟨D, 0, none⟩), .pointer (some ⟨bg, 0, none⟩)] W _
  unfold rzP
  cases hc : cutP m g with
  | none =>
    rw [hc] at hcut
    clear hc hK hs
    go_enter Tryz.func82, Tryz.ntmps82
    go_wp2_with (go_at_call 83; refine hcut.mono ?_; rintro e w3 ⟨rfl, b3⟩; exact ⟨rfl, rfl, b3⟩)
  | some M =>
    rw [hc] at hcut
    show Calls Tryz.prog 82 #[.pointer (some ⟨D, 0, none⟩), .pointer (some ⟨bg, 0, none⟩)] W (fun r W' => ∃ val', r = .returned (.tuple #[]) ∧ DTo W W' B D m val nilV (rerootD M g) val')
    obtain ⟨N, hN⟩ : ∃ N, (g + 3) / 4 = N := ⟨_, rfl⟩
    have hN4 : N ≤ 4 := by omega
    have e4 : (N : Int) = ((g : Int) + 4 - 1) / 4 := by omega
    have HE : Hid (rerootD M g = { M with guest := (g : Int), root := rootTo M.root N }) := by unfold rerootD rootTo; rw [hN]; exact rfl
    have hmk0 := mk_ints N (by omega)
    obtain ⟨Z, hZ⟩ : ∃ Z, ((List.replicate N (0 : Int)).map (Value.int .i64)).toArray = Z := ⟨_, rfl⟩
    rw [hZ, e4] at hmk0
    have HZ : Hid (((List.replicate N (0 : Int)).map (Value.int .i64)).toArray = Z) := hZ
    have HN : Hid (N ≤ 4) := hN4
    have hlg : bg < B := Nat.lt_of_lt_of_le lg h1
    have HH : Hid (B ≤ W.heap.size ∧ bg < B) := ⟨h2, hlg⟩
    clear hc hK hs hN hN4 e4 hZ hb lg h1 h2
    go_enter Tryz.func82, Tryz.ntmps82
    go_wp2_with (go_at_call 83; refine hcut.mono ?_; rintro e w1 ⟨rfl, val1, hT1⟩; have cg1 := (hT1.bel.cell (p := ⟨bg, 0, none⟩) HH.out.2).trans cg; obtain ⟨ra, rc, e0, hS0⟩ := hT1.dk.own.forms .root (Live.root M); obtain ⟨W2, cc, hcp, hg2, hB2⟩ := copy_root (row_sl (hT1.dk.own.row .root (Live.root M))) N; rw [HZ.out, e0] at hcp; have hcp : (Builtin.copy_ #[23, 23] 3 #[.slice (some ⟨w1.heap.size, 0, none⟩) N N, .slice ra M.root.length rc]).run Tryz.prog (w1.alloc (.cells Z 3)) = .ok cc W2 := hcp; have d1 : (w1.alloc (.cells Z 3)).cell? ⟨D, 1, none⟩ = some (.slice ra M.root.length rc) := (hT1.dk.alloc _).root5 e0; have hT2 := hT1.below HH.out.1 hB2; have cg2 := (hT2.bel.cell (p := ⟨bg, 0, none⟩) HH.out.2).trans cg; obtain ⟨p0, p1, _, _, _⟩ := hT2.dk.five; have f0 := hT2.dk.frozen 0; have f1 := hT2.dk.frozen 1; have HT := Hid_mkW (And.intro hT2 (And.intro hg2 hT1.bel.size)); have HD := Hid_mkW hT1; clear hT2 hT1 hg2 hS0 e0)
    go_end0
    have hT2 := HT.out.1
    have hDw := HD.out.dk.lt
    have hBw : B ≤ w1.heap.size := Nat.le_trans HH.out.1 HT.out.2.2
    have k1 := hT2.setDesk (hT2.dk.setGuest (g : Int)) (fun q _ hs _ b hb => hs b hb)
    have hrow : (W2.setCell ⟨D, 0, none⟩ (.int .i64 (g : Int))).ownsRow B 3 1 (.slice (some ⟨w1.heap.size, 0, none⟩) N N) (rootTo M.root N).length (ints (rootTo M.root N)) := by
      have h0 : (W2.setCell ⟨D, 0, none⟩ (.int .i64 (g : Int))).heap[w1.heap.size]? = some (.cells ((rootTo M.root N).map (Value.int .i64)).toArray 3) := cells_other HT.out.2.1 (by omega) 0 _
      have := row_whole hBw h0 (by rw [rootTo_len]; have := HN.out; omega)
      rw [rootTo_len] at this ⊢
      exact this
    have hnew : ∀ b, Live M b → (val1 b).ownBlock ≠ some w1.heap.size := HD.out.dk.own.lt (Nat.le_refl _)
    have hv : (Value.slice (some ⟨w1.heap.size, 0, none⟩) N N).ownBlock = some w1.heap.size := rfl
    have k2 := k1.setDesk (k1.dk.swapRoot hrow (fun b hb _ q hq x => by cases hq; exact hnew b hb x) (fun x => by rw [hv] at x; injection x with x; omega)) (fun q _ hs hq b hb => by
      by_cases e : b = .root
      · subst e
        rw [upd_same]
        intro x
        rw [hv] at x
        injection x with x
        have := HT.out.2.2
        omega
      · rw [upd_other _ _ e]
        exact hs b hb)
    rw [HE.out]
    exact ⟨_, rfl, k2⟩
end Go.Proofs.YtehleeibgkpjmafGreat
/- Contracts of writing: Resize. -/
namespace Go.Proofs.YtehleeibgkpjmafGreat
open Go.RowKit Go.Shelf
set_option maxRecDepth 20000
set_option linter.unusedVariables false

set_option maxHeartbeats 4000000 in
theorem resize_bad_at (m : ImgD) (ra : Option Addr) (rn rc : Nat) (sa : Option Addr) (sn sc : Nat) (fa : Option Addr) (fn fc : Nat) (na : Option Addr) (nn nc : Nat) (g : Int) (E : Int) (w : World) (h : Img w (.agg #[.int .i64 m.guest, .slice ra rn rc, .slice sa sn sc, .slice fa fn fc, .slice na nn nc]) m) (hE : checkE m = E) (hne : (E != 0) = true) :
    Calls Tryz.prog 48 #[.agg #[.int .i64 m.guest, .slice ra rn rc, .slice sa sn sc, .slice fa fn fc, .slice na nn nc], .int .i64 g] w (AnsI w w.heap.size imgZ E) := by
  have b0 : Below w.heap.size w (((w.alloc (.cells #[.int .i64 m.guest, .slice ra rn rc, .slice sa sn sc, .slice fa fn fc, .slice na nn nc] 27)).alloc (.cells #[.int .i64 g] 3)).alloc (.cells #[.int .i64 0, .slice none 0 0, .slice none 0 0, .slice none 0 0, .slice none 0 0] 27)) := (((Below.refl _ _).alloc (by simp; try omega) _).alloc (by simp; try omega) _).alloc (by simp; try omega) _
  have q0 : (w.alloc (.cells #[.int .i64 m.guest, .slice ra rn rc, .slice sa sn sc, .slice fa fn fc, .slice na nn nc] 27)).heap[w.heap.size]? = some (.cells #[.int .i64 m.guest, .slice ra rn rc, .slice sa sn sc, .slice fa fn fc, .slice na nn nc] 27) := by have := World.alloc_heap_new w (.cells #[.int .i64 m.guest, .slice ra rn rc, .slice sa sn sc, .slice fa fn fc, .slice na nn nc] 27); simpa using this
  have m0 : (((w.alloc (.cells #[.int .i64 m.guest, .slice ra rn rc, .slice sa sn sc, .slice fa fn fc, .slice na nn nc] 27)).alloc (.cells #[.int .i64 g] 3)).alloc (.cells #[.int .i64 0, .slice none 0 0, .slice none 0 0, .slice none 0 0, .slice none 0 0] 27)).heap[w.heap.size]? = some (.cells #[.int .i64 m.guest, .slice ra rn rc, .slice sa sn sc, .slice fa fn fc, .slice na nn nc] 27) := (cells_alloc (cells_alloc q0 _) _)
  have q1 : ((w.alloc (.cells #[.int .i64 m.guest, .slice ra rn rc, .slice sa sn sc, .slice fa fn fc, .slice na nn nc] 27)).alloc (.cells #[.int .i64 g] 3)).heap[w.heap.size + 1]? = some (.cells #[.int .i64 g] 3) := by have := World.alloc_heap_new (w.alloc (.cells #[.int .i64 m.guest, .slice ra rn rc, .slice sa sn sc, .slice fa fn fc, .slice na nn nc] 27)) (.cells #[.int .i64 g] 3); simpa using this
  have m1 : (((w.alloc (.cells #[.int .i64 m.guest, .slice ra rn rc, .slice sa sn sc, .slice fa fn fc, .slice na nn nc] 27)).alloc (.cells #[.int .i64 g] 3)).alloc (.cells #[.int .i64 0, .slice none 0 0, .slice none 0 0, .slice none 0 0, .slice none 0 0] 27)).heap[w.heap.size + 1]? = some (.cells #[.int .i64 g] 3) := (cells_alloc q1 _)
  have q2 : (((w.alloc (.cells #[.int .i64 m.guest, .slice ra rn rc, .slice sa sn sc, .slice fa fn fc, .slice na nn nc] 27)).alloc (.cells #[.int .i64 g] 3)).alloc (.cells #[.int .i64 0, .slice none 0 0, .slice none 0 0, .slice none 0 0, .slice none 0 0] 27)).heap[w.heap.size + 1 + 1]? = some (.cells #[.int .i64 0, .slice none 0 0, .slice none 0 0, .slice none 0 0, .slice none 0 0] 27) := by have := World.alloc_heap_new ((w.alloc (.cells #[.int .i64 m.guest, .slice ra rn rc, .slice sa sn sc, .slice fa fn fc, .slice na nn nc] 27)).alloc (.cells #[.int .i64 g] 3)) (.cells #[.int .i64 0, .slice none 0 0, .slice none 0 0, .slice none 0 0, .slice none 0 0] 27); simpa using this
  have m2 : (((w.alloc (.cells #[.int .i64 m.guest, .slice ra rn rc, .slice sa sn sc, .slice fa fn fc, .slice na nn nc] 27)).alloc (.cells #[.int .i64 g] 3)).alloc (.cells #[.int .i64 0, .slice none 0 0, .slice none 0 0, .slice none 0 0, .slice none 0 0] 27)).heap[w.heap.size + 1 + 1]? = some (.cells #[.int .i64 0, .slice none 0 0, .slice none 0 0, .slice none 0 0, .slice none 0 0] 27) := q2
  have hz : (((w.alloc (.cells #[.int .i64 m.guest, .slice ra rn rc, .slice sa sn sc, .slice fa fn fc, .slice na nn nc] 27)).alloc (.cells #[.int .i64 g] 3)).alloc (.cells #[.int .i64 0, .slice none 0 0, .slice none 0 0, .slice none 0 0, .slice none 0 0] 27)).heap.size = w.heap.size + 1 + 1 + 1 := by simp
  clear q0 q1 q2
  have hchk := tcheck_is (h.below b0) hE
  obtain ⟨c0, c1, c2, c3, c4⟩ := five m0
  have HM : Hid ((((w.alloc (.cells #[.int .i64 m.guest, .slice ra rn rc, .slice sa sn sc, .slice fa fn fc, .slice na nn nc] 27)).alloc (.cells #[.int .i64 g] 3)).alloc (.cells #[.int .i64 0, .slice none 0 0, .slice none 0 0, .slice none 0 0, .slice none 0 0] 27)).heap[w.heap.size + 1 + 1]? = some (.cells #[.int .i64 0, .slice none 0 0, .slice none 0 0, .slice none 0 0, .slice none 0 0] 27) ∧ Below w.heap.size w (((w.alloc (.cells #[.int .i64 m.guest, .slice ra rn rc, .slice sa sn sc, .slice fa fn fc, .slice na nn nc] 27)).alloc (.cells #[.int .i64 g] 3)).alloc (.cells #[.int .i64 0, .slice none 0 0, .slice none 0 0, .slice none 0 0, .slice none 0 0] 27)) ∧ (((w.alloc (.cells #[.int .i64 m.guest, .slice ra rn rc, .slice sa sn sc, .slice fa fn fc, .slice na nn nc] 27)).alloc (.cells #[.int .i64 g] 3)).alloc (.cells #[.int .i64 0, .slice none 0 0, .slice none 0 0, .slice none 0 0, .slice none 0 0] 27)).heap.size = w.heap.size + 1 + 1 + 1 ∧ (((w.alloc (.cells #[.int .i64 m.guest, .slice ra rn rc, .slice sa sn sc, .slice fa fn fc, .slice na nn nc] 27)).alloc (.cells #[.int .i64 g] 3)).alloc (.cells #[.int .i64 0, .slice none 0 0, .slice none 0 0, .slice none 0 0, .slice none 0 0] 27)).heap[w.heap.size + 1]? = some (.cells #[.int .i64 g] 3)) := ⟨m2, b0, hz, m1⟩
  clear h m0 m1 m2 hz b0 hE
  go_enter Tryz.func48, Tryz.ntmps48
  go_wp2_with (go_at_call 38; refine hchk.mono ?_; rintro e w1 ⟨rfl, b1⟩; have k3 := cells_below HM.out.1 b1 (by rw [HM.out.2.2.1]; omega); obtain ⟨z0, z1, z2, z3, z4⟩ := five k3; have y0 := cells_frozen k3 0; have y1 := cells_frozen k3 1; have y2 := cells_frozen k3 2; have y3 := cells_frozen k3 3; have y4 := cells_frozen k3 4; have cn := one (cells_below HM.out.2.2.2 b1 (by rw [HM.out.2.2.1]; omega)); have HB : Hid (Below w.heap.size w w1) := Below.on HM.out.2.1 b1; clear b1 k3)
  have i1 : w.heap.size ≤ w.heap.size + 1 + 1 := by omega
  refine bodyPost_ret (v := .tuple #[.agg #[.int .i64 0, .slice none 0 0, .slice none 0 0, .slice none 0 0, .slice none 0 0], .int .i64 E]) (by simp [results, Tryz.results48, go_sem, z0, z1, z2, z3, z4]) rfl (AnsI.bad E (((((HB.out.setCell i1 _).setCell i1 _).setCell i1 _).setCell i1 _).setCell i1 _))

set_option maxHeartbeats 4000000 in
theorem resize_neg_at (m : ImgD) (ra : Option Addr) (rn rc : Nat) (sa : Option Addr) (sn sc : Nat) (fa : Option Addr) (fn fc : Nat) (na : Option Addr) (nn nc : Nat) (g : Int)  (w : World) (h : Img w (.agg #[.int .i64 m.guest, .slice ra rn rc, .slice sa sn sc, .slice fa fn fc, .slice na nn nc]) m) (hE : checkE m = 0) (hg : g < 0) :
    Calls Tryz.prog 48 #[.agg #[.int .i64 m.guest, .slice ra rn rc, .slice sa sn sc, .slice fa fn fc, .slice na nn nc], .int .i64 g] w (AnsI w w.heap.size imgZ 3) := by
  have b0 : Below w.heap.size w (((w.alloc (.cells #[.int .i64 m.guest, .slice ra rn rc, .slice sa sn sc, .slice fa fn fc, .slice na nn nc] 27)).alloc (.cells #[.int .i64 g] 3)).alloc (.cells #[.int .i64 0, .slice none 0 0, .slice none 0 0, .slice none 0 0, .slice none 0 0] 27)) := (((Below.refl _ _).alloc (by simp; try omega) _).alloc (by simp; try omega) _).alloc (by simp; try omega) _
  have q0 : (w.alloc (.cells #[.int .i64 m.guest, .slice ra rn rc, .slice sa sn sc, .slice fa fn fc, .slice na nn nc] 27)).heap[w.heap.size]? = some (.cells #[.int .i64 m.guest, .slice ra rn rc, .slice sa sn sc, .slice fa fn fc, .slice na nn nc] 27) := by have := World.alloc_heap_new w (.cells #[.int .i64 m.guest, .slice ra rn rc, .slice sa sn sc, .slice fa fn fc, .slice na nn nc] 27); simpa using this
  have m0 : (((w.alloc (.cells #[.int .i64 m.guest, .slice ra rn rc, .slice sa sn sc, .slice fa fn fc, .slice na nn nc] 27)).alloc (.cells #[.int .i64 g] 3)).alloc (.cells #[.int .i64 0, .slice none 0 0, .slice none 0 0, .slice none 0 0, .slice none 0 0] 27)).heap[w.heap.size]? = some (.cells #[.int .i64 m.guest, .slice ra rn rc, .slice sa sn sc, .slice fa fn fc, .slice na nn nc] 27) := (cells_alloc (cells_alloc q0 _) _)
  have q1 : ((w.alloc (.cells #[.int .i64 m.guest, .slice ra rn rc, .slice sa sn sc, .slice fa fn fc, .slice na nn nc] 27)).alloc (.cells #[.int .i64 g] 3)).heap[w.heap.size + 1]? = some (.cells #[.int .i64 g] 3) := by have := World.alloc_heap_new (w.alloc (.cells #[.int .i64 m.guest, .slice ra rn rc, .slice sa sn sc, .slice fa fn fc, .slice na nn nc] 27)) (.cells #[.int .i64 g] 3); simpa using this
  have m1 : (((w.alloc (.cells #[.int .i64 m.guest, .slice ra rn rc, .slice sa sn sc, .slice fa fn fc, .slice na nn nc] 27)).alloc (.cells #[.int .i64 g] 3)).alloc (.cells #[.int .i64 0, .slice none 0 0, .slice none 0 0, .slice none 0 0, .slice none 0 0] 27)).heap[w.heap.size + 1]? = some (.cells #[.int .i64 g] 3) := (cells_alloc q1 _)
  have q2 : (((w.alloc (.cells #[.int .i64 m.guest, .slice ra rn rc, .slice sa sn sc, .slice fa fn fc, .slice na nn nc] 27)).alloc (.cells #[.int .i64 g] 3)).alloc (.cells #[.int .i64 0, .slice none 0 0, .slice none 0 0, .slice none 0 0, .slice none 0 0] 27)).heap[w.heap.size + 1 + 1]? = some (.cells #[.int .i64 0, .slice none 0 0, .slice none 0 0, .slice none 0 0, .slice none 0 0] 27) := by have := World.alloc_heap_new ((w.alloc (.cells #[.int .i64 m.guest, .slice ra rn rc, .slice sa sn sc, .slice fa fn fc, .slice na nn nc] 27)).alloc (.cells #[.int .i64 g] 3)) (.cells #[.int .i64 0, .slice none 0 0, .slice none 0 0, .slice none 0 0, .slice none 0 0] 27); simpa using this
  have m2 : (((w.alloc (.cells #[.int .i64 m.guest, .slice ra rn rc, .slice sa sn sc, .slice fa fn fc, .slice na nn nc] 27)).alloc (.cells #[.int .i64 g] 3)).alloc (.cells #[.int .i64 0, .slice none 0 0, .slice none 0 0, .slice none 0 0, .slice none 0 0] 27)).heap[w.heap.size + 1 + 1]? = some (.cells #[.int .i64 0, .slice none 0 0, .slice none 0 0, .slice none 0 0, .slice none 0 0] 27) := q2
  have hz : (((w.alloc (.cells #[.int .i64 m.guest, .slice ra rn rc, .slice sa sn sc, .slice fa fn fc, .slice na nn nc] 27)).alloc (.cells #[.int .i64 g] 3)).alloc (.cells #[.int .i64 0, .slice none 0 0, .slice none 0 0, .slice none 0 0, .slice none 0 0] 27)).heap.size = w.heap.size + 1 + 1 + 1 := by simp
  clear q0 q1 q2
  have g1 : decide (g < 0) = true := by simp [hg]
  have hchk := tcheck_is (h.below b0) hE
  obtain ⟨c0, c1, c2, c3, c4⟩ := five m0
  have HM : Hid ((((w.alloc (.cells #[.int .i64 m.guest, .slice ra rn rc, .slice sa sn sc, .slice fa fn fc, .slice na nn nc] 27)).alloc (.cells #[.int .i64 g] 3)).alloc (.cells #[.int .i64 0, .slice none 0 0, .slice none 0 0, .slice none 0 0, .slice none 0 0] 27)).heap[w.heap.size + 1 + 1]? = some (.cells #[.int .i64 0, .slice none 0 0, .slice none 0 0, .slice none 0 0, .slice none 0 0] 27) ∧ Below w.heap.size w (((w.alloc (.cells #[.int .i64 m.guest, .slice ra rn rc, .slice sa sn sc, .slice fa fn fc, .slice na nn nc] 27)).alloc (.cells #[.int .i64 g] 3)).alloc (.cells #[.int .i64 0, .slice none 0 0, .slice none 0 0, .slice none 0 0, .slice none 0 0] 27)) ∧ (((w.alloc (.cells #[.int .i64 m.guest, .slice ra rn rc, .slice sa sn sc, .slice fa fn fc, .slice na nn nc] 27)).alloc (.cells #[.int .i64 g] 3)).alloc (.cells #[.int .i64 0, .slice none 0 0, .slice none 0 0, .slice none 0 0, .slice none 0 0] 27)).heap.size = w.heap.size + 1 + 1 + 1 ∧ (((w.alloc (.cells #[.int .i64 m.guest, .slice ra rn rc, .slice sa sn sc, .slice fa fn fc, .slice na nn nc] 27)).alloc (.cells #[.int .i64 g] 3)).alloc (.cells #[.int .i64 0, .slice none 0 0, .slice none 0 0, .slice none 0 0, .slice none 0 0] 27)).heap[w.heap.size + 1]? = some (.cells #[.int .i64 g] 3)) := ⟨m2, b0, hz, m1⟩
  clear h m0 m1 m2 hz b0 hE
  go_enter Tryz.func48, Tryz.ntmps48
  go_wp2_with (go_at_call 38; refine hchk.mono ?_; rintro e w1 ⟨rfl, b1⟩; have k3 := cells_below HM.out.1 b1 (by rw [HM.out.2.2.1]; omega); obtain ⟨z0, z1, z2, z3, z4⟩ := five k3; have y0 := cells_frozen k3 0; have y1 := cells_frozen k3 1; have y2 := cells_frozen k3 2; have y3 := cells_frozen k3 3; have y4 := cells_frozen k3 4; have cn := one (cells_below HM.out.2.2.2 b1 (by rw [HM.out.2.2.1]; omega)); have HB : Hid (Below w.heap.size w w1) := Below.on HM.out.2.1 b1; clear b1 k3)
  have i1 : w.heap.size ≤ w.heap.size + 1 + 1 := by omega
  refine bodyPost_ret (v := .tuple #[.agg #[.int .i64 0, .slice none 0 0, .slice none 0 0, .slice none 0 0, .slice none 0 0], .int .i64 3]) (by simp [results, Tryz.results48, go_sem, z0, z1, z2, z3, z4]) rfl (AnsI.bad 3 (((((HB.out.setCell i1 _).setCell i1 _).setCell i1 _).setCell i1 _).setCell i1 _))

set_option maxHeartbeats 4000000 in
theorem resize_far_at (m : ImgD) (ra : Option Addr) (rn rc : Nat) (sa : Option Addr) (sn sc : Nat) (fa : Option Addr) (fn fc : Nat) (na : Option Addr) (nn nc : Nat) (g : Int)  (w : World) (h : Img w (.agg #[.int .i64 m.guest, .slice ra rn rc, .slice sa sn sc, .slice fa fn fc, .slice na nn nc]) m) (hE : checkE m = 0) (hg : 16 < g) :
    Calls Tryz.prog 48 #[.agg #[.int .i64 m.guest, .slice ra rn rc, .slice sa sn sc, .slice fa fn fc, .slice na nn nc], .int .i64 g] w (AnsI w w.heap.size imgZ 3) := by
  have b0 : Below w.heap.size w (((w.alloc (.cells #[.int .i64 m.guest, .slice ra rn rc, .slice sa sn sc, .slice fa fn fc, .slice na nn nc] 27)).alloc (.cells #[.int .i64 g] 3)).alloc (.cells #[.int .i64 0, .slice none 0 0, .slice none 0 0, .slice none 0 0, .slice none 0 0] 27)) := (((Below.refl _ _).alloc (by simp; try omega) _).alloc (by simp; try omega) _).alloc (by simp; try omega) _
  have q0 : (w.alloc (.cells #[.int .i64 m.guest, .slice ra rn rc, .slice sa sn sc, .slice fa fn fc, .slice na nn nc] 27)).heap[w.heap.size]? = some (.cells #[.int .i64 m.guest, .slice ra rn rc, .slice sa sn sc, .slice fa fn fc, .slice na nn nc] 27) := by have := World.alloc_heap_new w (.cells #[.int .i64 m.guest, .slice ra rn rc, .slice sa sn sc, .slice fa fn fc, .slice na nn nc] 27); simpa using this
  have m0 : (((w.alloc (.cells #[.int .i64 m.guest, .slice ra rn rc, .slice sa sn sc, .slice fa fn fc, .slice na nn nc] 27)).alloc (.cells #[.int .i64 g] 3)).alloc (.cells #[.int .i64 0, .slice none 0 0, .slice none 0 0, .slice none 0 0, .slice none 0 0] 27)).heap[w.heap.size]? = some (.cells #[.int .i64 m.guest, .slice ra rn rc, .slice sa sn sc, .slice fa fn fc, .slice na nn nc] 27) := (cells_alloc (cells_alloc q0 _) _)
  have q1 : ((w.alloc (.cells #[.int .i64 m.guest, .slice ra rn rc, .slice sa sn sc, .slice fa fn fc, .slice na nn nc] 27)).alloc (.cells #[.int .i64 g] 3)).heap[w.heap.size + 1]? = some (.cells #[.int .i64 g] 3) := by have := World.alloc_heap_new (w.alloc (.cells #[.int .i64 m.guest, .slice ra rn rc, .slice sa sn sc, .slice fa fn fc, .slice na nn nc] 27)) (.cells #[.int .i64 g] 3); simpa using this
  have m1 : (((w.alloc (.cells #[.int .i64 m.guest, .slice ra rn rc, .slice sa sn sc, .slice fa fn fc, .slice na nn nc] 27)).alloc (.cells #[.int .i64 g] 3)).alloc (.cells #[.int .i64 0, .slice none 0 0, .slice none 0 0, .slice none 0 0, .slice none 0 0] 27)).heap[w.heap.size + 1]? = some (.cells #[.int .i64 g] 3) := (cells_alloc q1 _)
  have q2 : (((w.alloc (.cells #[.int .i64 m.guest, .slice ra rn rc, .slice sa sn sc, .slice fa fn fc, .slice na nn nc] 27)).alloc (.cells #[.int .i64 g] 3)).alloc (.cells #[.int .i64 0, .slice none 0 0, .slice none 0 0, .slice none 0 0, .slice none 0 0] 27)).heap[w.heap.size + 1 + 1]? = some (.cells #[.int .i64 0, .slice none 0 0, .slice none 0 0, .slice none 0 0, .slice none 0 0] 27) := by have := World.alloc_heap_new ((w.alloc (.cells #[.int .i64 m.guest, .slice ra rn rc, .slice sa sn sc, .slice fa fn fc, .slice na nn nc] 27)).alloc (.cells #[.int .i64 g] 3)) (.cells #[.int .i64 0, .slice none 0 0, .slice none 0 0, .slice none 0 0, .slice none 0 0] 27); simpa using this
  have m2 : (((w.alloc (.cells #[.int .i64 m.guest, .slice ra rn rc, .slice sa sn sc, .slice fa fn fc, .slice na nn nc] 27)).alloc (.cells #[.int .i64 g] 3)).alloc (.cells #[.int .i64 0, .slice none 0 0, .slice none 0 0, .slice none 0 0, .slice none 0 0] 27)).heap[w.heap.size + 1 + 1]? = some (.cells #[.int .i64 0, .slice none 0 0, .slice none 0 0, .slice none 0 0, .slice none 0 0] 27) := q2
  have hz : (((w.alloc (.cells #[.int .i64 m.guest, .slice ra rn rc, .slice sa sn sc, .slice fa fn fc, .slice na nn nc] 27)).alloc (.cells #[.int .i64 g] 3)).alloc (.cells #[.int .i64 0, .slice none 0 0, .slice none 0 0, .slice none 0 0, .slice none 0 0] 27)).heap.size = w.heap.size + 1 + 1 + 1 := by simp
  clear q0 q1 q2
  have g1 : decide (g < 0) = false := by simp; omega
  have g2 : ¬ g < 0 := by omega
  have g3 : decide (16 < g) = true := by simp [hg]
  have hchk := tcheck_is (h.below b0) hE
  obtain ⟨c0, c1, c2, c3, c4⟩ := five m0
  have HM : Hid ((((w.alloc (.cells #[.int .i64 m.guest, .slice ra rn rc, .slice sa sn sc, .slice fa fn fc, .slice na nn nc] 27)).alloc (.cells #[.int .i64 g] 3)).alloc (.cells #[.int .i64 0, .slice none 0 0, .slice none 0 0, .slice none 0 0, .slice none 0 0] 27)).heap[w.heap.size + 1 + 1]? = some (.cells #[.int .i64 0, .slice none 0 0, .slice none 0 0, .slice none 0 0, .slice none 0 0] 27) ∧ Below w.heap.size w (((w.alloc (.cells #[.int .i64 m.guest, .slice ra rn rc, .slice sa sn sc, .slice fa fn fc, .slice na nn nc] 27)).alloc (.cells #[.int .i64 g] 3)).alloc (.cells #[.int .i64 0, .slice none 0 0, .slice none 0 0, .slice none 0 0, .slice none 0 0] 27)) ∧ (((w.alloc (.cells #[.int .i64 m.guest, .slice ra rn rc, .slice sa sn sc, .slice fa fn fc, .slice na nn nc] 27)).alloc (.cells #[.int .i64 g] 3)).alloc (.cells #[.int .i64 0, .slice none 0 0, .slice none 0 0, .slice none 0 0, .slice none 0 0] 27)).heap.size = w.heap.size + 1 + 1 + 1 ∧ (((w.alloc (.cells #[.int .i64 m.guest, .slice ra rn rc, .slice sa sn sc, .slice fa fn fc, .slice na nn nc] 27)).alloc (.cells #[.int .i64 g] 3)).alloc (.cells #[.int .i64 0, .slice none 0 0, .slice none 0 0, .slice none 0 0, .slice none 0 0] 27)).heap[w.heap.size + 1]? = some (.cells #[.int .i64 g] 3)) := ⟨m2, b0, hz, m1⟩
  clear h m0 m1 m2 hz b0 hE
  go_enter Tryz.func48, Tryz.ntmps48
  go_wp2_with (go_at_call 38; refine hchk.mono ?_; rintro e w1 ⟨rfl, b1⟩; have k3 := cells_below HM.out.1 b1 (by rw [HM.out.2.2.1]; omega); obtain ⟨z0, z1, z2, z3, z4⟩ := five k3; have y0 := cells_frozen k3 0; have y1 := cells_frozen k3 1; have y2 := cells_frozen k3 2; have y3 := cells_frozen k3 3; have y4 := cells_frozen k3 4; have cn := one (cells_below HM.out.2.2.2 b1 (by rw [HM.out.2.2.1]; omega)); have HB : Hid (Below w.heap.size w w1) := Below.on HM.out.2.1 b1; clear b1 k3)
  have i1 : w.heap.size ≤ w.heap.size + 1 + 1 := by omega
  refine bodyPost_ret (v := .tuple #[.agg #[.int .i64 0, .slice none 0 0, .slice none 0 0, .slice none 0 0, .slice none 0 0], .int .i64 3]) (by simp [results, Tryz.results48, go_sem, z0, z1, z2, z3, z4]) rfl (AnsI.bad 3 (((((HB.out.setCell i1 _).setCell i1 _).setCell i1 _).setCell i1 _).setCell i1 _))

set_option maxHeartbeats 4000000 in
theorem resize_ok_at (m : ImgD) (ra : Option Addr) (rn rc : Nat) (sa : Option Addr) (sn sc : Nat) (fa : Option Addr) (fn fc : Nat) (na : Option Addr) (nn nc : Nat) (g : Nat) (w : World) (h : Img w (.agg #[.int .i64 m.guest, .slice ra rn rc, .slice sa sn sc, .slice fa fn fc, .slice na nn nc]) m) (hF : Fits m) (hE : checkE m = 0) (h16 : g ≤ 16) (M : ImgD) (hM : ofM (rzP m g) = M) (er : Int) (her : ofE (rzP m g) = er) :
    Calls Tryz.prog 48 #[.agg #[.int .i64 m.guest, .slice ra rn rc, .slice sa sn sc, .slice fa fn fc, .slice na nn nc], .int .i64 (g : Int)] w (AnsI w w.heap.size M er) := by
  have b0 : Below w.heap.size w (((w.alloc (.cells #[.int .i64 m.guest, .slice ra rn rc, .slice sa sn sc, .slice fa fn fc, .slice na nn nc] 27)).alloc (.cells #[.int .i64 (g : Int)] 3)).alloc (.cells #[.int .i64 0, .slice none 0 0, .slice none 0 0, .slice none 0 0, .slice none 0 0] 27)) := (((Below.refl _ _).alloc (by simp; try omega) _).alloc (by simp; try omega) _).alloc (by simp; try omega) _
  have q0 : (w.alloc (.cells #[.int .i64 m.guest, .slice ra rn rc, .slice sa sn sc, .slice fa fn fc, .slice na nn nc] 27)).heap[w.heap.size]? = some (.cells #[.int .i64 m.guest, .slice ra rn rc, .slice sa sn sc, .slice fa fn fc, .slice na nn nc] 27) := by have := World.alloc_heap_new w (.cells #[.int .i64 m.guest, .slice ra rn rc, .slice sa sn sc, .slice fa fn fc, .slice na nn nc] 27); simpa using this
  have m0 : (((w.alloc (.cells #[.int .i64 m.guest, .slice ra rn rc, .slice sa sn sc, .slice fa fn fc, .slice na nn nc] 27)).alloc (.cells #[.int .i64 (g : Int)] 3)).alloc (.cells #[.int .i64 0, .slice none 0 0, .slice none 0 0, .slice none 0 0, .slice none 0 0] 27)).heap[w.heap.size]? = some (.cells #[.int .i64 m.guest, .slice ra rn rc, .slice sa sn sc, .slice fa fn fc, .slice na nn nc] 27) := (cells_alloc (cells_alloc q0 _) _)
  have q1 : ((w.alloc (.cells #[.int .i64 m.guest, .slice ra rn rc, .slice sa sn sc, .slice fa fn fc, .slice na nn nc] 27)).alloc (.cells #[.int .i64 (g : Int)] 3)).heap[w.heap.size + 1]? = some (.cells #[.int .i64 (g : Int)] 3) := by have := World.alloc_heap_new (w.alloc (.cells #[.int .i64 m.guest, .slice ra rn rc, .slice sa sn sc, .slice fa fn fc, .slice na nn nc] 27)) (.cells #[.int .i64 (g : Int)] 3); simpa using this
  have m1 : (((w.alloc (.cells #[.int .i64 m.guest, .slice ra rn rc, .slice sa sn sc, .slice fa fn fc, .slice na nn nc] 27)).alloc (.cells #[.int .i64 (g : Int)] 3)).alloc (.cells #[.int .i64 0, .slice none 0 0, .slice none 0 0, .slice none 0 0, .slice none 0 0] 27)).heap[w.heap.size + 1]? = some (.cells #[.int .i64 (g : Int)] 3) := (cells_alloc q1 _)
  have q2 : (((w.alloc (.cells #[.int .i64 m.guest, .slice ra rn rc, .slice sa sn sc, .slice fa fn fc, .slice na nn nc] 27)).alloc (.cells #[.int .i64 (g : Int)] 3)).alloc (.cells #[.int .i64 0, .slice none 0 0, .slice none 0 0, .slice none 0 0, .slice none 0 0] 27)).heap[w.heap.size + 1 + 1]? = some (.cells #[.int .i64 0, .slice none 0 0, .slice none 0 0, .slice none 0 0, .slice none 0 0] 27) := by have := World.alloc_heap_new ((w.alloc (.cells #[.int .i64 m.guest, .slice ra rn rc, .slice sa sn sc, .slice fa fn fc, .slice na nn nc] 27)).alloc (.cells #[.int .i64 (g : Int)] 3)) (.cells #[.int .i64 0, .slice none 0 0, .slice none 0 0, .slice none 0 0, .slice none 0 0] 27); simpa using this
  have m2 : (((w.alloc (.cells #[.int .i64 m.guest, .slice ra rn rc, .slice sa sn sc, .slice fa fn fc, .slice na nn nc] 27)).alloc (.cells #[.int .i64 (g : Int)] 3)).alloc (.cells #[.int .i64 0, .slice none 0 0, .slice none 0 0, .slice none 0 0, .slice none 0 0] 27)).heap[w.heap.size + 1 + 1]? = some (.cells #[.int .i64 0, .slice none 0 0, .slice none 0 0, .slice none 0 0, .slice none 0 0] 27) := q2
  have hz : (((w.alloc (.cells #[.int .i64 m.guest, .slice ra rn rc, .slice sa sn sc, .slice fa fn fc, .slice na nn nc] 27)).alloc (.cells #[.int .i64 (g : Int)] 3)).alloc (.cells #[.int .i64 0, .slice none 0 0, .slice none 0 0, .slice none 0 0, .slice none 0 0] 27)).heap.size = w.heap.size + 1 + 1 + 1 := by simp
  clear q0 q1 q2
  have hs := checkE_shape hE
  have hchk := tcheck_is (h.below b0) hE
  obtain ⟨c0, c1, c2, c3, c4⟩ := five m0
  have g1 : decide ((g : Int) < 0) = false := by simp
  have g3 : decide ((16 : Int) < (g : Int)) = false := by simp; omega
  have g4 : ¬ (16 : Int) < (g : Int) := by omega
  have HO : Hid (∀ w1, Below (((w.alloc (.cells #[.int .i64 m.guest, .slice ra rn rc, .slice sa sn sc, .slice fa fn fc, .slice na nn nc] 27)).alloc (.cells #[.int .i64 (g : Int)] 3)).alloc (.cells #[.int .i64 0, .slice none 0 0, .slice none 0 0, .slice none 0 0, .slice none 0 0] 27)).heap.size (((w.alloc (.cells #[.int .i64 m.guest, .slice ra rn rc, .slice sa sn sc, .slice fa fn fc, .slice na nn nc] 27)).alloc (.cells #[.int .i64 (g : Int)] 3)).alloc (.cells #[.int .i64 0, .slice none 0 0, .slice none 0 0, .slice none 0 0, .slice none 0 0] 27)) w1 → Calls Tryz.prog 39 #[.agg #[.int .i64 m.guest, .slice ra rn rc, .slice sa sn sc, .slice fa fn fc, .slice na nn nc], .func (.func 82) #[] #[.pointer (some ⟨w.heap.size + 1, 0, none⟩)]] w1 (AnsI w1 w1.heap.size M er)) := fun w1 b1 => by
    have hsz : w.heap.size + 1 + 1 + 1 ≤ w1.heap.size := (by have := b1.size; rw [hz] at this; exact this)
    rw [← hM, ← her]
    exact of_is (h.below (Below.on b0 b1)) hF (enters_of Tryz.func82 (by kernel_rfl) rfl) (rz_turn (one (cells_below m1 b1 (by rw [hz]; omega))) (by omega) h16 hs)
  have HM : Hid ((((w.alloc (.cells #[.int .i64 m.guest, .slice ra rn rc, .slice sa sn sc, .slice fa fn fc, .slice na nn nc] 27)).alloc (.cells #[.int .i64 (g : Int)] 3)).alloc (.cells #[.int .i64 0, .slice none 0 0, .slice none 0 0, .slice none 0 0, .slice none 0 0] 27)).heap[w.heap.size]? = some (.cells #[.int .i64 m.guest, .slice ra rn rc, .slice sa sn sc, .slice fa fn fc, .slice na nn nc] 27) ∧ (((w.alloc (.cells #[.int .i64 m.guest, .slice ra rn rc, .slice sa sn sc, .slice fa fn fc, .slice na nn nc] 27)).alloc (.cells #[.int .i64 (g : Int)] 3)).alloc (.cells #[.int .i64 0, .slice none 0 0, .slice none 0 0, .slice none 0 0, .slice none 0 0] 27)).heap[w.heap.size + 1 + 1]? = some (.cells #[.int .i64 0, .slice none 0 0, .slice none 0 0, .slice none 0 0, .slice none 0 0] 27) ∧ Below w.heap.size w (((w.alloc (.cells #[.int .i64 m.guest, .slice ra rn rc, .slice sa sn sc, .slice fa fn fc, .slice na nn nc] 27)).alloc (.cells #[.int .i64 (g : Int)] 3)).alloc (.cells #[.int .i64 0, .slice none 0 0, .slice none 0 0, .slice none 0 0, .slice none 0 0] 27)) ∧ (((w.alloc (.cells #[.int .i64 m.guest, .slice ra rn rc, .slice sa sn sc, .slice fa fn fc, .slice na nn nc] 27)).alloc (.cells #[.int .i64 (g : Int)] 3)).alloc (.cells #[.int .i64 0, .slice none 0 0, .slice none 0 0, .slice none 0 0, .slice none 0 0] 27)).heap.size = w.heap.size + 1 + 1 + 1 ∧ (((w.alloc (.cells #[.int .i64 m.guest, .slice ra rn rc, .slice sa sn sc, .slice fa fn fc, .slice na nn nc] 27)).alloc (.cells #[.int .i64 (g : Int)] 3)).alloc (.cells #[.int .i64 0, .slice none 0 0, .slice none 0 0, .slice none 0 0, .slice none 0 0] 27)).heap[w.heap.size + 1]? = some (.cells #[.int .i64 (g : Int)] 3)) := ⟨m0, m2, b0, hz, m1⟩
  clear h m0 m1 m2 hz b0 hE hs hM her hF h16
  go_enter Tryz.func48, Tryz.ntmps48
  go_wp2_with (go_at_call 38; refine hchk.mono ?_; rintro e w1 ⟨rfl, b1⟩; have d0 := cells_below HM.out.1 b1 (by rw [HM.out.2.2.2.1]; omega); obtain ⟨d1, d2, d3, d4, d5⟩ := five d0; have cn := one (cells_below HM.out.2.2.2.2 b1 (by rw [HM.out.2.2.2.1]; omega)); have hof := HO.out w1 b1; have HV : Hid (Below w.heap.size w w1 ∧ w1.heap[w.heap.size + 1 + 1]? = some (.cells #[.int .i64 0, .slice none 0 0, .slice none 0 0, .slice none 0 0, .slice none 0 0] 27) ∧ w.heap.size + 1 + 1 < w1.heap.size) := (⟨Below.on HM.out.2.2.1 b1, cells_below HM.out.2.1 b1 (by rw [HM.out.2.2.2.1]; omega), by have := b1.size; rw [HM.out.2.2.2.1] at this; omega⟩); clear b1 d0)
  refine hof.mono ?_
  intro e w3 hA
  obtain ⟨val, ga, gc, la, lc, oa, oc, ta, tc, rfl, hO, b1, hI⟩ := hA.open
  dsimp only
  have k3 := cells_below HV.out.2.1 b1 HV.out.2.2
  obtain ⟨z0, z1, z2, z3, z4⟩ := five k3
  have y0 := cells_frozen k3 0
  have y1 := cells_frozen k3 1
  have y2 := cells_frozen k3 2
  have y3 := cells_frozen k3 3
  have y4 := cells_frozen k3 4
  have HP : Hid (OI w3 w1.heap.size val M) := hO
  have HB : Hid (Below w.heap.size w w3) := Below.on HV.out.1 b1
  have HI : Hid (imgV M.guest val = .agg #[.int .i64 M.guest, .slice ga M.root.length gc, .slice la M.slots.length lc, .slice oa M.refs.length oc, .slice ta M.snaps.length tc]) := hI
  clear hO b1 hI hof hA
  go_wp2_with fail
  have i1 : w.heap.size ≤ w.heap.size + 1 + 1 := by omega
  have hf1 : ∀ a, Live M a → (val a).ownBlock ≠ some (w.heap.size + 1 + 1) := fun a ha e => by have := ((HP.out.row a ha).lt _ e).1; have := HV.out.2.2; omega
  refine bodyPost_ret (v := .tuple #[.agg #[.int .i64 M.guest, .slice ga M.root.length gc, .slice la M.slots.length lc, .slice oa M.refs.length oc, .slice ta M.snaps.length tc], .int .i64 er]) (by simp [results, Tryz.results48, go_sem, z0, z1, z2, z3, z4]) rfl ⟨val, by rw [HI.out], OI.mono (((((HP.out.far hf1).far hf1).far hf1).far hf1).far hf1) (by have := HV.out.2.2; omega), ((((HB.out.setCell i1 _).setCell i1 _).setCell i1 _).setCell i1 _).setCell i1 _⟩

def rzE (m : ImgD) (g : Int) : Int := if checkE m ≠ 0 then checkE m else if 0 ≤ g ∧ g ≤ 16 then errO (resizeD m g.toNat) else 3
def rzM (m : ImgD) (g : Int) : ImgD := if checkE m ≠ 0 then imgZ else if 0 ≤ g ∧ g ≤ 16 then (resizeD m g.toNat).getD imgZ else imgZ
theorem resize_is {w : World} {v : Value} {m : ImgD} (h : Img w v m) (g : Int) :
    Calls Tryz.prog 48 #[v, .int .i64 g] w (AnsI w w.heap.size (rzM m g) (rzE m g)) := by
  have h' := h
  obtain ⟨ra, rc, sa, sc, fa, fc, na, nc, rfl, _⟩ := h.parts
  unfold rzM rzE
  by_cases hl : checkE m = 0
  · have hl0 : ¬ checkE m ≠ 0 := fun x => x hl
    rw [if_neg hl0, if_neg hl0]
    by_cases hg : 0 ≤ g ∧ g ≤ 16
    · rw [if_pos hg, if_pos hg]
      obtain ⟨j, rfl⟩ := Int.eq_ofNat_of_zero_le hg.1
      rw [Int.toNat_natCast]
      have h16 : j ≤ 16 := by omega
      have hM := rzP_meets hl h16
      exact resize_ok_at m ra _ rc sa _ sc fa _ fc na _ nc j w h' (fits_of_shape (checkE_shape hl)) hl h16 _ hM.m _ hM.e
    · rw [if_neg hg, if_neg hg]
      by_cases h0 : g < 0
      · exact resize_neg_at m ra _ rc sa _ sc fa _ fc na _ nc g w h' hl h0
      · exact resize_far_at m ra _ rc sa _ sc fa _ fc na _ nc g w h' hl (by omega)
  · rw [if_pos hl, if_pos hl]
    exact resize_bad_at m ra _ rc sa _ sc fa _ fc na _ nc g _ w h' rfl (by simp [hl])
end Go.Proofs.YtehleeibgkpjmafGreat
/- What Write, Wipe, Punch and Resize answer, errors too, and what it is to the image that was handed in. -/
namespace Go.Proofs.YtehleeibgkpjmafGreat
open Go.RowKit Go.Shelf
theorem write_to {w : World} {v : Value} {m : ImgD} (h : Img w v m) (n : Int) (page : ByteArray) {M : ImgD} {E : Int} (hM : wrM m n page = M) (hE : wrE m n page = E) :
    Calls Tryz.prog 31 #[v, .int .i64 n, .string page] w (AnsI w w.heap.size M E) := by
  subst hM hE; exact write_is h n page
theorem resize_to {w : World} {v : Value} {m : ImgD} (h : Img w v m) (g : Int) {M : ImgD} {E : Int} (hM : rzM m g = M) (hE : rzE m g = E) :
    Calls Tryz.prog 48 #[v, .int .i64 g] w (AnsI w w.heap.size M E) := by
  subst hM hE; exact resize_is h g
theorem wr_bad {m : ImgD} {n : Int} {page : ByteArray} (he : wrE m n page ≠ 0) : wrM m n page = imgZ := by
  unfold wrE at he
  unfold wrM
  by_cases hl : lookE m n = 0
  · rw [if_neg (by simpa using hl)] at he ⊢
    by_cases hp : page.size = 4
    · rw [if_pos hp] at he ⊢
      cases h : writeD m n.toNat page with
      | none => rfl
      | some M => rw [h] at he; exact absurd rfl he
    · rw [if_neg hp]
  · rw [if_pos hl]
end Go.Proofs.YtehleeibgkpjmafGreat
/- Contracts of stack: Write. -/
namespace Go.Proofs.YtehleeibgkpjmafGreat
open Go.RowKit Go.Shelf
set_option maxRecDepth 20000
set_option linter.unusedVariables false
set_option linter.unusedSimpArgs false

def AnsK (w : World) (b : List ByteArray) (m : ImgD) (err : Int) (r : Ending) (w' : World) : Prop := ∃ v, r = .returned (.tuple #[v, .int .i64 err]) ∧ Stk w' v b m ∧ Below w.heap.size w w'
theorem Stk.zero (W : World) : Stk W (.agg #[.slice none 0 0, .int .i64 0, .slice none 0 0, .slice none 0 0, .slice none 0 0, .slice none 0 0]) [] imgZ :=
  ⟨_, _, _, _, _, rfl, ⟨none, 0, rfl, Nat.zero_le _, Nat.le_refl _, fun x => absurd rfl x⟩, (OI.zero W 0).img⟩
theorem six_below {w W : World} (h : Below w.heap.size w W) (a0 a1 a2 a3 a4 a5 : Value) : Below w.heap.size w ((((((W.setCell ⟨w.heap.size + 1, 0, none⟩ a0).setCell ⟨w.heap.size + 1, 1, none⟩ a1).setCell ⟨w.heap.size + 1, 2, none⟩ a2).setCell ⟨w.heap.size + 1, 3, none⟩ a3).setCell ⟨w.heap.size + 1, 4, none⟩ a4).setCell ⟨w.heap.size + 1, 5, none⟩ a5) := by
  have i1 : w.heap.size ≤ w.heap.size + 1 := Nat.le_succ _
  exact (((((h.setCell (p := ⟨w.heap.size + 1, 0, none⟩) i1 _).setCell (p := ⟨w.heap.size + 1, 1, none⟩) i1 _).setCell (p := ⟨w.heap.size + 1, 2, none⟩) i1 _).setCell (p := ⟨w.heap.size + 1, 3, none⟩) i1 _).setCell (p := ⟨w.heap.size + 1, 4, none⟩) i1 _).setCell (p := ⟨w.heap.size + 1, 5, none⟩) i1 _
theorem Stk.stored {w W : World} {v : Value} {b : List ByteArray} {m : ImgD} (h : Stk W v b m) (a0 a1 a2 a3 a4 a5 : Value) (hk : ∀ W', (∀ q, q ≠ w.heap.size + 1 → W'.heap[q]? = W.heap[q]?) → Stk W' v b m) : Stk ((((((W.setCell ⟨w.heap.size + 1, 0, none⟩ a0).setCell ⟨w.heap.size + 1, 1, none⟩ a1).setCell ⟨w.heap.size + 1, 2, none⟩ a2).setCell ⟨w.heap.size + 1, 3, none⟩ a3).setCell ⟨w.heap.size + 1, 4, none⟩ a4).setCell ⟨w.heap.size + 1, 5, none⟩ a5) v b m :=
  hk _ fun q hq => by
    rw [Below.heap_setCell _ _ _ q hq, Below.heap_setCell _ _ _ q hq, Below.heap_setCell _ _ _ q hq, Below.heap_setCell _ _ _ q hq, Below.heap_setCell _ _ _ q hq, Below.heap_setCell _ _ _ q hq]
def skM (b : List ByteArray) (m : ImgD) (n : Int) (page : ByteArray) : ImgD := if scE b m ≠ 0 then imgZ else wrM m n page
def skE (b : List ByteArray) (m : ImgD) (n : Int) (page : ByteArray) : Int := if scE b m ≠ 0 then scE b m else wrE m n page
def skB (b : List ByteArray) (m : ImgD) (n : Int) (page : ByteArray) : List ByteArray := if skE b m n page ≠ 0 then [] else b

set_option maxHeartbeats 4000000 in
theorem sk_write_bad (ba : Option Addr) (bc : Nat) (ra : Option Addr) (rc : Nat) (sa : Option Addr) (sc : Nat) (fa : Option Addr) (fc : Nat) (na : Option Addr) (nc : Nat) (b : List ByteArray) (m : ImgD) (n : Int) (page : ByteArray) (w : World) (hS : Ss w (.slice ba b.length bc) b) (hI : Img w (.agg #[.int .i64 m.guest, .slice ra m.root.length rc, .slice sa m.slots.length sc, .slice fa m.refs.length fc, .slice na m.snaps.length nc]) m) (E : Int) (hE : scE b m = E) (hne : (E != 0) = true) :
    Calls Tryz.prog 28 #[.agg #[.slice ba b.length bc, .int .i64 m.guest, .slice ra m.root.length rc, .slice sa m.slots.length sc, .slice fa m.refs.length fc, .slice na m.snaps.length nc], .int .i64 n, .string page] w (AnsK w [] imgZ E) := by
  have b0 : Below w.heap.size w ((w.alloc (.cells #[.slice ba b.length bc, .int .i64 m.guest, .slice ra m.root.length rc, .slice sa m.slots.length sc, .slice fa m.refs.length fc, .slice na m.snaps.length nc] 29)).alloc (.cells #[.slice none 0 0, .int .i64 0, .slice none 0 0, .slice none 0 0, .slice none 0 0, .slice none 0 0] 29)) := ((Below.refl _ _).alloc (Nat.le_refl _) _).alloc (by simp) _
  have q0 : ((w.alloc (.cells #[.slice ba b.length bc, .int .i64 m.guest, .slice ra m.root.length rc, .slice sa m.slots.length sc, .slice fa m.refs.length fc, .slice na m.snaps.length nc] 29)).alloc (.cells #[.slice none 0 0, .int .i64 0, .slice none 0 0, .slice none 0 0, .slice none 0 0, .slice none 0 0] 29)).heap[w.heap.size]? = some (.cells #[.slice ba b.length bc, .int .i64 m.guest, .slice ra m.root.length rc, .slice sa m.slots.length sc, .slice fa m.refs.length fc, .slice na m.snaps.length nc] 29) := cells_alloc (World.alloc_heap_new _ _) _
  have r0 : ((w.alloc (.cells #[.slice ba b.length bc, .int .i64 m.guest, .slice ra m.root.length rc, .slice sa m.slots.length sc, .slice fa m.refs.length fc, .slice na m.snaps.length nc] 29)).alloc (.cells #[.slice none 0 0, .int .i64 0, .slice none 0 0, .slice none 0 0, .slice none 0 0, .slice none 0 0] 29)).heap[w.heap.size + 1]? = some (.cells #[.slice none 0 0, .int .i64 0, .slice none 0 0, .slice none 0 0, .slice none 0 0, .slice none 0 0] 29) := by have := World.alloc_heap_new (w.alloc (.cells #[.slice ba b.length bc, .int .i64 m.guest, .slice ra m.root.length rc, .slice sa m.slots.length sc, .slice fa m.refs.length fc, .slice na m.snaps.length nc] 29)) (.cells #[.slice none 0 0, .int .i64 0, .slice none 0 0, .slice none 0 0, .slice none 0 0, .slice none 0 0] 29); simpa using this
  have hz : w.heap.size + 1 < ((w.alloc (.cells #[.slice ba b.length bc, .int .i64 m.guest, .slice ra m.root.length rc, .slice sa m.slots.length sc, .slice fa m.refs.length fc, .slice na m.snaps.length nc] 29)).alloc (.cells #[.slice none 0 0, .int .i64 0, .slice none 0 0, .slice none 0 0, .slice none 0 0, .slice none 0 0] 29)).heap.size := by simp
  have hS1 := hS.below b0
  have hI1 := hI.below b0
  obtain ⟨c0, c1, c2, c3, c4, c5⟩ := six q0
  have hck := sk_check (w := ((w.alloc (.cells #[.slice ba b.length bc, .int .i64 m.guest, .slice ra m.root.length rc, .slice sa m.slots.length sc, .slice fa m.refs.length fc, .slice na m.snaps.length nc] 29)).alloc (.cells #[.slice none 0 0, .int .i64 0, .slice none 0 0, .slice none 0 0, .slice none 0 0, .slice none 0 0] 29))) (v := .agg #[.slice ba b.length bc, .int .i64 m.guest, .slice ra m.root.length rc, .slice sa m.slots.length sc, .slice fa m.refs.length fc, .slice na m.snaps.length nc]) ⟨_, _, _, _, _, rfl, hS1, hI1⟩ hE
  clear hS hI hI1 hS1 hE
  go_enter Tryz.func28, Tryz.ntmps28
  go_wp2_with (go_at_call 20; refine hck.mono ?_; rintro e w1 ⟨rfl, b1⟩; have q1 := cells_below q0 b1 (by omega); have r1 := cells_below r0 b1 hz; obtain ⟨d0, d1, d2, d3, d4, d5⟩ := six q1; obtain ⟨x0, x1, x2, x3, x4, x5⟩ := six r1; have y0 := cells_frozen r1 0; have y1 := cells_frozen r1 1; have y2 := cells_frozen r1 2; have y3 := cells_frozen r1 3; have y4 := cells_frozen r1 4; have y5 := cells_frozen r1 5)
  refine bodyPost_ret (v := .tuple #[.agg #[.slice none 0 0, .int .i64 0, .slice none 0 0, .slice none 0 0, .slice none 0 0, .slice none 0 0], .int .i64 E]) (by simp [results, Tryz.results28, go_sem, x0, x1, x2, x3, x4, x5]) rfl ⟨_, rfl, Stk.zero _, six_below (Below.on b0 b1) _ _ _ _ _ _⟩

set_option maxHeartbeats 4000000 in
theorem sk_write_err (ba : Option Addr) (bc : Nat) (ra : Option Addr) (rc : Nat) (sa : Option Addr) (sc : Nat) (fa : Option Addr) (fc : Nat) (na : Option Addr) (nc : Nat) (b : List ByteArray) (m : ImgD) (n : Int) (page : ByteArray) (w : World) (hS : Ss w (.slice ba b.length bc) b) (hI : Img w (.agg #[.int .i64 m.guest, .slice ra m.root.length rc, .slice sa m.slots.length sc, .slice fa m.refs.length fc, .slice na m.snaps.length nc]) m) (E : Int) (hC : scE b m = 0) (M : ImgD) (hE : wrE m n page = E) (hM : wrM m n page = M) (hne : (E != 0) = true) :
    Calls Tryz.prog 28 #[.agg #[.slice ba b.length bc, .int .i64 m.guest, .slice ra m.root.length rc, .slice sa m.slots.length sc, .slice fa m.refs.length fc, .slice na m.snaps.length nc], .int .i64 n, .string page] w (AnsK w [] imgZ E) := by
  have b0 : Below w.heap.size w ((w.alloc (.cells #[.slice ba b.length bc, .int .i64 m.guest, .slice ra m.root.length rc, .slice sa m.slots.length sc, .slice fa m.refs.length fc, .slice na m.snaps.length nc] 29)).alloc (.cells #[.slice none 0 0, .int .i64 0, .slice none 0 0, .slice none 0 0, .slice none 0 0, .slice none 0 0] 29)) := ((Below.refl _ _).alloc (Nat.le_refl _) _).alloc (by simp) _
  have q0 : ((w.alloc (.cells #[.slice ba b.length bc, .int .i64 m.guest, .slice ra m.root.length rc, .slice sa m.slots.length sc, .slice fa m.refs.length fc, .slice na m.snaps.length nc] 29)).alloc (.cells #[.slice none 0 0, .int .i64 0, .slice none 0 0, .slice none 0 0, .slice none 0 0, .slice none 0 0] 29)).heap[w.heap.size]? = some (.cells #[.slice ba b.length bc, .int .i64 m.guest, .slice ra m.root.length rc, .slice sa m.slots.length sc, .slice fa m.refs.length fc, .slice na m.snaps.length nc] 29) := cells_alloc (World.alloc_heap_new _ _) _
  have r0 : ((w.alloc (.cells #[.slice ba b.length bc, .int .i64 m.guest, .slice ra m.root.length rc, .slice sa m.slots.length sc, .slice fa m.refs.length fc, .slice na m.snaps.length nc] 29)).alloc (.cells #[.slice none 0 0, .int .i64 0, .slice none 0 0, .slice none 0 0, .slice none 0 0, .slice none 0 0] 29)).heap[w.heap.size + 1]? = some (.cells #[.slice none 0 0, .int .i64 0, .slice none 0 0, .slice none 0 0, .slice none 0 0, .slice none 0 0] 29) := by have := World.alloc_heap_new (w.alloc (.cells #[.slice ba b.length bc, .int .i64 m.guest, .slice ra m.root.length rc, .slice sa m.slots.length sc, .slice fa m.refs.length fc, .slice na m.snaps.length nc] 29)) (.cells #[.slice none 0 0, .int .i64 0, .slice none 0 0, .slice none 0 0, .slice none 0 0, .slice none 0 0] 29); simpa using this
  have hz : w.heap.size + 1 < ((w.alloc (.cells #[.slice ba b.length bc, .int .i64 m.guest, .slice ra m.root.length rc, .slice sa m.slots.length sc, .slice fa m.refs.length fc, .slice na m.snaps.length nc] 29)).alloc (.cells #[.slice none 0 0, .int .i64 0, .slice none 0 0, .slice none 0 0, .slice none 0 0, .slice none 0 0] 29)).heap.size := by simp
  have hS1 := hS.below b0
  have hI1 := hI.below b0
  obtain ⟨c0, c1, c2, c3, c4, c5⟩ := six q0
  have hck := sk_check (w := ((w.alloc (.cells #[.slice ba b.length bc, .int .i64 m.guest, .slice ra m.root.length rc, .slice sa m.slots.length sc, .slice fa m.refs.length fc, .slice na m.snaps.length nc] 29)).alloc (.cells #[.slice none 0 0, .int .i64 0, .slice none 0 0, .slice none 0 0, .slice none 0 0, .slice none 0 0] 29))) (v := .agg #[.slice ba b.length bc, .int .i64 m.guest, .slice ra m.root.length rc, .slice sa m.slots.length sc, .slice fa m.refs.length fc, .slice na m.snaps.length nc]) ⟨_, _, _, _, _, rfl, hS1, hI1⟩ hC
  have HWr : Hid (∀ w1, Below ((w.alloc (.cells #[.slice ba b.length bc, .int .i64 m.guest, .slice ra m.root.length rc, .slice sa m.slots.length sc, .slice fa m.refs.length fc, .slice na m.snaps.length nc] 29)).alloc (.cells #[.slice none 0 0, .int .i64 0, .slice none 0 0, .slice none 0 0, .slice none 0 0, .slice none 0 0] 29)).heap.size ((w.alloc (.cells #[.slice ba b.length bc, .int .i64 m.guest, .slice ra m.root.length rc, .slice sa m.slots.length sc, .slice fa m.refs.length fc, .slice na m.snaps.length nc] 29)).alloc (.cells #[.slice none 0 0, .int .i64 0, .slice none 0 0, .slice none 0 0, .slice none 0 0, .slice none 0 0] 29)) w1 → Calls Tryz.prog 31 #[.agg #[.int .i64 m.guest, .slice ra m.root.length rc, .slice sa m.slots.length sc, .slice fa m.refs.length fc, .slice na m.snaps.length nc], .int .i64 n, .string page] w1 (AnsI w1 w1.heap.size M E)) := fun w1 b1 => write_to (hI1.below b1) n page hM hE
  clear hS hI hI1 hS1 hE hM hC
  go_enter Tryz.func28, Tryz.ntmps28
  go_wp2_with (first | (go_at_call 31; refine (HWr.out w1 b1).mono ?_; intro e w2 hA; obtain ⟨val, g0, k0, g1, k1, g2, k2, g3, k3, rfl, hO, b2, hI⟩ := hA.open; have q3 := cells_alloc (cells_below q1 b2 (by have := b1.size; omega)) (.cells #[.int .i64 M.guest, .slice g0 M.root.length k0, .slice g1 M.slots.length k1, .slice g2 M.refs.length k2, .slice g3 M.snaps.length k3] 27); have r3 := cells_alloc (cells_below r1 b2 (by have := b1.size; omega)) (.cells #[.int .i64 M.guest, .slice g0 M.root.length k0, .slice g1 M.slots.length k1, .slice g2 M.refs.length k2, .slice g3 M.snaps.length k3] 27); have m3 : (w2.alloc (.cells #[.int .i64 M.guest, .slice g0 M.root.length k0, .slice g1 M.slots.length k1, .slice g2 M.refs.length k2, .slice g3 M.snaps.length k3] 27)).heap[w2.heap.size]? = some (.cells #[.int .i64 M.guest, .slice g0 M.root.length k0, .slice g1 M.slots.length k1, .slice g2 M.refs.length k2, .slice g3 M.snaps.length k3] 27) := World.alloc_heap_new _ _; obtain ⟨e0, e1, e2, e3, e4, e5⟩ := six q3; obtain ⟨u0, u1, u2, u3, u4, u5⟩ := six r3; have v0 := cells_frozen r3 0; have v1 := cells_frozen r3 1; have v2 := cells_frozen r3 2; have v3 := cells_frozen r3 3; have v4 := cells_frozen r3 4; have v5 := cells_frozen r3 5; obtain ⟨n0, n1, n2, n3, n4⟩ := five m3) | (go_at_call 20; refine hck.mono ?_; rintro e w1 ⟨rfl, b1⟩; have q1 := cells_below q0 b1 (by omega); have r1 := cells_below r0 b1 hz; obtain ⟨d0, d1, d2, d3, d4, d5⟩ := six q1; obtain ⟨x0, x1, x2, x3, x4, x5⟩ := six r1; have y0 := cells_frozen r1 0; have y1 := cells_frozen r1 1; have y2 := cells_frozen r1 2; have y3 := cells_frozen r1 3; have y4 := cells_frozen r1 4; have y5 := cells_frozen r1 5))
  refine bodyPost_ret (v := .tuple #[.agg #[.slice none 0 0, .int .i64 0, .slice none 0 0, .slice none 0 0, .slice none 0 0, .slice none 0 0], .int .i64 E]) (by simp [results, Tryz.results28, go_sem, u0, u1, u2, u3, u4, u5]) rfl ⟨_, rfl, Stk.zero _, six_below ((Below.on (Below.on b0 b1) b2).alloc (by have := b1.size; have := b2.size; omega) _) _ _ _ _ _ _⟩
theorem heap_six {w W : World} (a0 a1 a2 a3 a4 a5 : Value) (q : Nat) (hq : q ≠ w.heap.size + 1) : ((((((W.setCell ⟨w.heap.size + 1, 0, none⟩ a0).setCell ⟨w.heap.size + 1, 1, none⟩ a1).setCell ⟨w.heap.size + 1, 2, none⟩ a2).setCell ⟨w.heap.size + 1, 3, none⟩ a3).setCell ⟨w.heap.size + 1, 4, none⟩ a4).setCell ⟨w.heap.size + 1, 5, none⟩ a5).heap[q]? = W.heap[q]? := by
  rw [Below.heap_setCell _ _ _ q hq, Below.heap_setCell _ _ _ q hq, Below.heap_setCell _ _ _ q hq, Below.heap_setCell _ _ _ q hq, Below.heap_setCell _ _ _ q hq, Below.heap_setCell _ _ _ q hq]
theorem OI.six {w W : World} {B : Nat} {val : Nm → Value} {M : ImgD} (h : OI W B val M) (hfr : ∀ a, Live M a → (val a).ownBlock ≠ some (w.heap.size + 1)) (a0 a1 a2 a3 a4 a5 : Value) : OI ((((((W.setCell ⟨w.heap.size + 1, 0, none⟩ a0).setCell ⟨w.heap.size + 1, 1, none⟩ a1).setCell ⟨w.heap.size + 1, 2, none⟩ a2).setCell ⟨w.heap.size + 1, 3, none⟩ a3).setCell ⟨w.heap.size + 1, 4, none⟩ a4).setCell ⟨w.heap.size + 1, 5, none⟩ a5) B val M := (((((h.far hfr).far hfr).far hfr).far hfr).far hfr).far hfr
theorem six_far {w W : World} {B T S : Nat} {v : Value} {n : Nat} {xs : List Value} (h : W.ownsRow B T S v n xs) (hb : w.heap.size + 1 < B) (a0 a1 a2 a3 a4 a5 : Value) : ((((((W.setCell ⟨w.heap.size + 1, 0, none⟩ a0).setCell ⟨w.heap.size + 1, 1, none⟩ a1).setCell ⟨w.heap.size + 1, 2, none⟩ a2).setCell ⟨w.heap.size + 1, 3, none⟩ a3).setCell ⟨w.heap.size + 1, 4, none⟩ a4).setCell ⟨w.heap.size + 1, 5, none⟩ a5).ownsRow B T S v n xs := by
  have hne : v.ownBlock ≠ some (w.heap.size + 1) := fun e => by have := (h.lt _ e).1; omega
  exact ownsRow_setCell_other (ownsRow_setCell_other (ownsRow_setCell_other (ownsRow_setCell_other (ownsRow_setCell_other (ownsRow_setCell_other h hne _) hne _) hne _) hne _) hne _) hne _
set_option maxHeartbeats 4000000 in
theorem sk_write_ok (ba : Option Addr) (bc : Nat) (ra : Option Addr) (rc : Nat) (sa : Option Addr) (sc : Nat) (fa : Option Addr) (fc : Nat) (na : Option Addr) (nc : Nat) (b : List ByteArray) (m : ImgD) (n : Int) (page : ByteArray) (w : World) (hS : Ss w (.slice ba b.length bc) b) (hI : Img w (.agg #[.int .i64 m.guest, .slice ra m.root.length rc, .slice sa m.slots.length sc, .slice fa m.refs.length fc, .slice na m.snaps.length nc]) m) (hC : scE b m = 0) (M : ImgD) (hE : wrE m n page = 0) (hM : wrM m n page = M) :
    Calls Tryz.prog 28 #[.agg #[.slice ba b.length bc, .int .i64 m.guest, .slice ra m.root.length rc, .slice sa m.slots.length sc, .slice fa m.refs.length fc, .slice na m.snaps.length nc], .int .i64 n, .string page] w (AnsK w b M 0) := by
  have b0 : Below w.heap.size w ((w.alloc (.cells #[.slice ba b.length bc, .int .i64 m.guest, .slice ra m.root.length rc, .slice sa m.slots.length sc, .slice fa m.refs.length fc, .slice na m.snaps.length nc] 29)).alloc (.cells #[.slice none 0 0, .int .i64 0, .slice none 0 0, .slice none 0 0, .slice none 0 0, .slice none 0 0] 29)) := ((Below.refl _ _).alloc (Nat.le_refl _) _).alloc (by simp) _
  have q0 : ((w.alloc (.cells #[.slice ba b.length bc, .int .i64 m.guest, .slice ra m.root.length rc, .slice sa m.slots.length sc, .slice fa m.refs.length fc, .slice na m.snaps.length nc] 29)).alloc (.cells #[.slice none 0 0, .int .i64 0, .slice none 0 0, .slice none 0 0, .slice none 0 0, .slice none 0 0] 29)).heap[w.heap.size]? = some (.cells #[.slice ba b.length bc, .int .i64 m.guest, .slice ra m.root.length rc, .slice sa m.slots.length sc, .slice fa m.refs.length fc, .slice na m.snaps.length nc] 29) := cells_alloc (World.alloc_heap_new _ _) _
  have r0 : ((w.alloc (.cells #[.slice ba b.length bc, .int .i64 m.guest, .slice ra m.root.length rc, .slice sa m.slots.length sc, .slice fa m.refs.length fc, .slice na m.snaps.length nc] 29)).alloc (.cells #[.slice none 0 0, .int .i64 0, .slice none 0 0, .slice none 0 0, .slice none 0 0, .slice none 0 0] 29)).heap[w.heap.size + 1]? = some (.cells #[.slice none 0 0, .int .i64 0, .slice none 0 0, .slice none 0 0, .slice none 0 0, .slice none 0 0] 29) := by have := World.alloc_heap_new (w.alloc (.cells #[.slice ba b.length bc, .int .i64 m.guest, .slice ra m.root.length rc, .slice sa m.slots.length sc, .slice fa m.refs.length fc, .slice na m.snaps.length nc] 29)) (.cells #[.slice none 0 0, .int .i64 0, .slice none 0 0, .slice none 0 0, .slice none 0 0, .slice none 0 0] 29); simpa using this
  have hz : w.heap.size + 1 < ((w.alloc (.cells #[.slice ba b.length bc, .int .i64 m.guest, .slice ra m.root.length rc, .slice sa m.slots.length sc, .slice fa m.refs.length fc, .slice na m.snaps.length nc] 29)).alloc (.cells #[.slice none 0 0, .int .i64 0, .slice none 0 0, .slice none 0 0, .slice none 0 0, .slice none 0 0] 29)).heap.size := by simp
  have hS1 := hS.below b0
  have hI1 := hI.below b0
  obtain ⟨c0, c1, c2, c3, c4, c5⟩ := six q0
  have hck := sk_check (w := ((w.alloc (.cells #[.slice ba b.length bc, .int .i64 m.guest, .slice ra m.root.length rc, .slice sa m.slots.length sc, .slice fa m.refs.length fc, .slice na m.snaps.length nc] 29)).alloc (.cells #[.slice none 0 0, .int .i64 0, .slice none 0 0, .slice none 0 0, .slice none 0 0, .slice none 0 0] 29))) (v := .agg #[.slice ba b.length bc, .int .i64 m.guest, .slice ra m.root.length rc, .slice sa m.slots.length sc, .slice fa m.refs.length fc, .slice na m.snaps.length nc]) ⟨_, _, _, _, _, rfl, hS1, hI1⟩ hC
  have HWr : Hid (∀ w1, Below ((w.alloc (.cells #[.slice ba b.length bc, .int .i64 m.guest, .slice ra m.root.length rc, .slice sa m.slots.length sc, .slice fa m.refs.length fc, .slice na m.snaps.length nc] 29)).alloc (.cells #[.slice none 0 0, .int .i64 0, .slice none 0 0, .slice none 0 0, .slice none 0 0, .slice none 0 0] 29)).heap.size ((w.alloc (.cells #[.slice ba b.length bc, .int .i64 m.guest, .slice ra m.root.length rc, .slice sa m.slots.length sc, .slice fa m.refs.length fc, .slice na m.snaps.length nc] 29)).alloc (.cells #[.slice none 0 0, .int .i64 0, .slice none 0 0, .slice none 0 0, .slice none 0 0, .slice none 0 0] 29)) w1 → Calls Tryz.prog 31 #[.agg #[.int .i64 m.guest, .slice ra m.root.length rc, .slice sa m.slots.length sc, .slice fa m.refs.length fc, .slice na m.snaps.length nc], .int .i64 n, .string page] w1 (AnsI w1 w1.heap.size M 0)) := fun w1 b1 => write_to (hI1.below b1) n page hM hE
  have hb16 : b.length * 16 ≤ room := by have := (ckP_parts (scE_zero hC).1).1; rw [room_is]; omega
  have HCl : Hid (∀ w1 w2 o, Below ((w.alloc (.cells #[.slice ba b.length bc, .int .i64 m.guest, .slice ra m.root.length rc, .slice sa m.slots.length sc, .slice fa m.refs.length fc, .slice na m.snaps.length nc] 29)).alloc (.cells #[.slice none 0 0, .int .i64 0, .slice none 0 0, .slice none 0 0, .slice none 0 0, .slice none 0 0] 29)).heap.size ((w.alloc (.cells #[.slice ba b.length bc, .int .i64 m.guest, .slice ra m.root.length rc, .slice sa m.slots.length sc, .slice fa m.refs.length fc, .slice na m.snaps.length nc] 29)).alloc (.cells #[.slice none 0 0, .int .i64 0, .slice none 0 0, .slice none 0 0, .slice none 0 0, .slice none 0 0] 29)) w1 → Below w1.heap.size w1 w2 → Calls Tryz.prog 55 #[.slice ba b.length bc] (w2.alloc o).drew fun r w' => ∃ v', r = .returned v' ∧ w'.ownsRow w2.heap.size 9 1 v' b.length (strs b) ∧ Below (w2.alloc o).heap.size (w2.alloc o) w') := fun w1 w2 o b1 b2 => (clone_strs (((hS1.below b1).below b2).below (to_drew ((Below.refl _ _).alloc (Nat.le_refl _) o))) hb16).mono (fun r w' ⟨v', h1, h2, h3⟩ => ⟨v', h1, row_mono h2 (by simp), below_drew h3⟩)
  clear hS hI hI1 hS1 hE hM hC hb16
  go_enter Tryz.func28, Tryz.ntmps28
  go_wp2_with (first | (go_at_call 31; refine (HWr.out w1 b1).mono ?_; intro e w2 hA; obtain ⟨val, g0, k0, g1, k1, g2, k2, g3, k3, rfl, hO, b2, hI⟩ := hA.open; have q3 := cells_alloc (cells_below q1 b2 (by have := b1.size; omega)) (.cells #[.int .i64 M.guest, .slice g0 M.root.length k0, .slice g1 M.slots.length k1, .slice g2 M.refs.length k2, .slice g3 M.snaps.length k3] 27); have r3 := cells_alloc (cells_below r1 b2 (by have := b1.size; omega)) (.cells #[.int .i64 M.guest, .slice g0 M.root.length k0, .slice g1 M.slots.length k1, .slice g2 M.refs.length k2, .slice g3 M.snaps.length k3] 27); have m3 : (w2.alloc (.cells #[.int .i64 M.guest, .slice g0 M.root.length k0, .slice g1 M.slots.length k1, .slice g2 M.refs.length k2, .slice g3 M.snaps.length k3] 27)).heap[w2.heap.size]? = some (.cells #[.int .i64 M.guest, .slice g0 M.root.length k0, .slice g1 M.slots.length k1, .slice g2 M.refs.length k2, .slice g3 M.snaps.length k3] 27) := World.alloc_heap_new _ _; obtain ⟨e0, e1, e2, e3, e4, e5⟩ := six q3; obtain ⟨u0, u1, u2, u3, u4, u5⟩ := six r3; have v0 := cells_frozen r3 0; have v1 := cells_frozen r3 1; have v2 := cells_frozen r3 2; have v3 := cells_frozen r3 3; have v4 := cells_frozen r3 4; have v5 := cells_frozen r3 5; obtain ⟨n0, n1, n2, n3, n4⟩ := five m3) | (go_at_call 20; refine hck.mono ?_; rintro e w1 ⟨rfl, b1⟩; have q1 := cells_below q0 b1 (by omega); have r1 := cells_below r0 b1 hz; obtain ⟨d0, d1, d2, d3, d4, d5⟩ := six q1; obtain ⟨x0, x1, x2, x3, x4, x5⟩ := six r1; have y0 := cells_frozen r1 0; have y1 := cells_frozen r1 1; have y2 := cells_frozen r1 2; have y3 := cells_frozen r1 3; have y4 := cells_frozen r1 4; have y5 := cells_frozen r1 5))
  have HO : Hid (OI w2 w1.heap.size val M ∧ imgV M.guest val = .agg #[.int .i64 M.guest, .slice g0 M.root.length k0, .slice g1 M.slots.length k1, .slice g2 M.refs.length k2, .slice g3 M.snaps.length k3]) := ⟨hO, hI⟩
  clear hO hI hA
  refine wp_region_held_drew (S := (fun X : World => X.heap[w.heap.size]? = some (.cells #[.slice ba b.length bc, .int .i64 m.guest, .slice ra m.root.length rc, .slice sa m.slots.length sc, .slice fa m.refs.length fc, .slice na m.snaps.length nc] 29) ∧ X.heap[w2.heap.size]? = some (.cells #[.int .i64 M.guest, .slice g0 M.root.length k0, .slice g1 M.slots.length k1, .slice g2 M.refs.length k2, .slice g3 M.snaps.length k3] 27))) (by kernel_rfl) ⟨q3, m3⟩ (fun hHeld => ?_)
  refine wpAnyH_take (i := 0) (v := .pointer (some ⟨w.heap.size, 0, none⟩)) rfl (by kernel_rfl) (by kernel_rfl) (by kernel_rfl) (fun _ _ _ h => h) (Or.inl ⟨by rfl, fun w' hSw => by obtain ⟨qa, qb⟩ := hSw; obtain ⟨j0, j1, j2, j3, j4, j5⟩ := six qa; obtain ⟨i0, i1, i2, i3, i4⟩ := five qb; go_simp⟩) hHeld ?_
  simp only [Act.put, List.getElem_toArray, List.getElem_cons_succ, List.getElem_cons_zero, List.setIfInBounds_toArray, List.set_cons_zero, List.set_cons_succ]
  refine wpAnyH_take (i := 1) (v := .slice ba b.length bc) rfl (by kernel_rfl) (by kernel_rfl) (by kernel_rfl) (fun _ _ _ h => h) (Or.inl ⟨by rfl, fun w' hSw => by obtain ⟨qa, qb⟩ := hSw; obtain ⟨j0, j1, j2, j3, j4, j5⟩ := six qa; obtain ⟨i0, i1, i2, i3, i4⟩ := five qb; go_simp⟩) hHeld ?_
  simp only [Act.put, List.getElem_toArray, List.getElem_cons_succ, List.getElem_cons_zero, List.setIfInBounds_toArray, List.set_cons_zero, List.set_cons_succ]
  refine wpAnyH_take (i := 3) (v := .agg #[.int .i64 M.guest, .slice g0 M.root.length k0, .slice g1 M.slots.length k1, .slice g2 M.refs.length k2, .slice g3 M.snaps.length k3]) rfl (by kernel_rfl) (by kernel_rfl) (by kernel_rfl) (fun _ _ _ h => h) (Or.inl ⟨by rfl, fun w' hSw => by obtain ⟨qa, qb⟩ := hSw; obtain ⟨j0, j1, j2, j3, j4, j5⟩ := six qa; obtain ⟨i0, i1, i2, i3, i4⟩ := five qb; go_simp⟩) hHeld ?_
  simp only [Act.put, List.getElem_toArray, List.getElem_cons_succ, List.getElem_cons_zero, List.setIfInBounds_toArray, List.set_cons_zero, List.set_cons_succ]
  refine wpAnyH_ready (rs := [2]) (by kernel_rfl) (by simp) ?_
  refine AllReadyH.cons rfl (fun K hK => ?_) AllReadyH.nil
  clear hHeld
  simp only [Act.put, List.getElem_toArray, List.getElem_cons_succ, List.getElem_cons_zero, List.setIfInBounds_toArray, List.set_cons_zero, List.set_cons_succ]
  rw [if_pos (by rfl)]
  go_wp2_with (go_at_call 55; refine (HCl.out w1 w2 _ b1 b2).mono ?_; rintro e w4 ⟨v', rfl, hr4, b4⟩; obtain ⟨pa, pc, rfl⟩ := row_slice hr4)
  have q4 := cells_below q3 b4 (by have := b1.size; have := b2.size; simp <;> omega)
  have r4 := cells_below r3 b4 (by have := b1.size; have := b2.size; simp <;> omega)
  have m4 := cells_below m3 b4 (by simp)
  refine hK.out _ _ ⟨q4, m4⟩ (fun hHeld => ?_)
  clear hK K
  try simp only [Act.put, List.getElem_toArray, List.getElem_cons_succ, List.getElem_cons_zero, List.setIfInBounds_toArray, List.set_cons_zero, List.set_cons_succ]
  refine wpAnyH_take (i := 4) (v := .agg #[.slice pa b.length pc, .int .i64 M.guest, .slice g0 M.root.length k0, .slice g1 M.slots.length k1, .slice g2 M.refs.length k2, .slice g3 M.snaps.length k3]) rfl (by kernel_rfl) (by kernel_rfl) (by kernel_rfl) (fun _ _ _ h => h) (Or.inl ⟨by rfl, fun w' hSw => by obtain ⟨qa, qb⟩ := hSw; obtain ⟨j0, j1, j2, j3, j4, j5⟩ := six qa; obtain ⟨i0, i1, i2, i3, i4⟩ := five qb; go_simp⟩) hHeld ?_
  simp only [Act.put, List.getElem_toArray, List.getElem_cons_succ, List.getElem_cons_zero, List.setIfInBounds_toArray, List.set_cons_zero, List.set_cons_succ]
  refine wpAnyH_ready (rs := [5]) (by kernel_rfl) (by simp) ?_
  refine AllReadyH.cons rfl (fun K hK => ?_) AllReadyH.nil
  clear hHeld
  simp only [Act.put, List.getElem_toArray, List.getElem_cons_succ, List.getElem_cons_zero, List.setIfInBounds_toArray, List.set_cons_zero, List.set_cons_succ]
  rw [if_pos (by rfl)]
  obtain ⟨x0, x1, x2, x3, x4, x5⟩ := six r4
  have y0 := cells_frozen r4 0; have y1 := cells_frozen r4 1; have y2 := cells_frozen r4 2; have y3 := cells_frozen r4 3; have y4 := cells_frozen r4 4; have y5 := cells_frozen r4 5
  go_simp
  refine hK.out _ _ ⟨(heap_six _ _ _ _ _ _ _ (by omega)).trans q4, (heap_six _ _ _ _ _ _ _ (by have := b1.size; have := b2.size; omega)).trans m4⟩ (fun hHeld => ?_)
  clear hK K
  try simp only [Act.put, List.getElem_toArray, List.getElem_cons_succ, List.getElem_cons_zero, List.setIfInBounds_toArray, List.set_cons_zero, List.set_cons_succ]
  refine wpAnyH_take (i := 6) (v := .int .i64 0) rfl (by kernel_rfl) (by kernel_rfl) (by kernel_rfl) (fun _ _ _ h => h) (Or.inl ⟨by rfl, fun w' hSw => by go_simp⟩) hHeld ?_
  simp only [Act.put, List.getElem_toArray, List.getElem_cons_succ, List.getElem_cons_zero, List.setIfInBounds_toArray, List.set_cons_zero, List.set_cons_succ]
  clear hHeld
  refine wpAnyH_done (by kernel_rfl) ?_ _
  go_wp2_with fail
  have hO4 : OI w4 w1.heap.size val M := (HO.out.1.alloc _).below b4
  have hfr : ∀ a, Live M a → (val a).ownBlock ≠ some (w.heap.size + 1) := fun a ha e => by
    have := ((hO4.row a ha).lt _ e).1
    have := b1.size
    omega
  have hImg := fun a0 a1 a2 a3 a4 a5 => (OI.six (w := w) hO4 hfr a0 a1 a2 a3 a4 a5).img
  have eI := HO.out.2
  refine bodyPost_ret (v := .tuple #[.agg #[.slice pa b.length pc, .int .i64 M.guest, .slice g0 M.root.length k0, .slice g1 M.slots.length k1, .slice g2 M.refs.length k2, .slice g3 M.snaps.length k3], .int .i64 0]) (by simp [results, Tryz.results28, go_sem, x0, x1, x2, x3, x4, x5]) rfl ⟨_, rfl, ⟨_, _, _, _, _, rfl, row_ss (six_far hr4 (by have := b1.size; have := b2.size; omega) _ _ _ _ _ _), (by rw [← eI]; exact hImg _ _ _ _ _ _)⟩, six_below (((Below.on (Below.on b0 b1) b2).alloc (by have := b1.size; have := b2.size; omega) _).trans (b4.mono (by have := b1.size; have := b2.size; simp <;> omega))) _ _ _ _ _ _⟩
theorem sk_write {w : World} {v : Value} {b : List ByteArray} {m : ImgD} (h : Stk w v b m) (n : Int) (page : ByteArray) {B : List ByteArray} {M : ImgD} {E : Int} (hE : skE b m n page = E) (hM : skM b m n page = M) (hB : skB b m n page = B) : Calls Tryz.prog 28 #[v, .int .i64 n, .string page] w (AnsK w B M E) := by
  subst hE hM hB
  obtain ⟨ba, bc, ra, rc, sa, sc, fa, fc, na, nc, rfl, hS, hI⟩ := h.parts
  by_cases hC : scE b m = 0
  · have e1 : skE b m n page = wrE m n page := by unfold skE; rw [if_neg (by simpa using hC)]
    have e2 : skM b m n page = wrM m n page := by unfold skM; rw [if_neg (by simpa using hC)]
    rw [e2]
    unfold skB
    by_cases hW : wrE m n page = 0
    · rw [e1, hW, if_neg (by decide)]
      exact sk_write_ok ba bc ra rc sa sc fa fc na nc b m n page w hS hI hC _ hW rfl
    · rw [e1, if_pos hW, wr_bad hW]
      exact sk_write_err ba bc ra rc sa sc fa fc na nc b m n page w hS hI _ hC _ rfl rfl (by simpa using hW)
  · have e1 : skE b m n page = scE b m := by unfold skE; rw [if_pos hC]
    have e2 : skM b m n page = imgZ := by unfold skM; rw [if_pos hC]
    rw [e2]
    unfold skB
    rw [e1, if_pos hC]
    exact sk_write_bad ba bc ra rc sa sc fa fc na nc b m n page w hS hI _ rfl (by simpa using hC)
end Go.Proofs.YtehleeibgkpjmafGreat
/- Contract of pair: the image that every beginning looks at. -/
namespace Go.Proofs.YtehleeibgkpjmafGreat
open Go.RowKit Go.Shelf
set_option maxRecDepth 20000

def aaaa : ByteArray := ⟨#[97, 97, 97, 97]⟩
def bbbb : ByteArray := ⟨#[98, 98, 98, 98]⟩
def nOld : ByteArray := ⟨#[111, 108, 100]⟩

def pairD (g : Int) (R T : List Int) : ImgD := ⟨g, [2, 4], [(0, ⟨#[]⟩, []), (1, aaaa, []), (2, ⟨#[]⟩, [1, 0, -1, 1]), (1, bbbb, []), (2, ⟨#[]⟩, T)], R, [(nOld, 4, [2])]⟩
structure PairW (n : Nat) (W : World) (R T : List Int) : Prop where
  root : LAt W (n + 1) [2, 4]
  ta : LAt W (n + 2) [1, 0, -1, 1]
  tb : LAt W (n + 3) T
  slots : W.heap[n + 4]? = some (.cells #[.int .i64 0, .string ⟨#[]⟩, .slice none 0 0, .int .i64 1, .string aaaa, .slice none 0 0, .int .i64 2, .string ⟨#[]⟩, .slice (some ⟨n + 2, 0, none⟩) 4 4, .int .i64 1, .string bbbb, .slice none 0 0, .int .i64 2, .string ⟨#[]⟩, .slice (some ⟨n + 3, 0, none⟩) 4 4] 61)
  refs : LAt W (n + 5) R
  sroot : LAt W (n + 6) [2]
  snaps : W.heap[n + 7]? = some (.cells #[.string nOld, .int .i64 4, .slice (some ⟨n + 6, 0, none⟩) 1 1] 64)

theorem alloc_get (W : World) (o : Obj) (i : Nat) : (W.alloc o).heap[i]? = if i = W.heap.size then some o else W.heap[i]? := by
  show (W.heap.push o)[i]? = _
  rw [Array.getElem?_push]

theorem size_alloc (W : World) (o : Obj) : (W.alloc o).heap.size = W.heap.size + 1 := by simp

set_option linter.unusedSimpArgs false in
theorem pair_at (w : World) : Calls Tryz.prog 26 #[] w fun r w' => r = .returned (.agg #[.int .i64 6, .slice (some ⟨w.heap.size + 1, 0, none⟩) 2 2, .slice (some ⟨w.heap.size + 4, 0, none⟩) 5 5, .slice (some ⟨w.heap.size + 5, 0, none⟩) 5 5, .slice (some ⟨w.heap.size + 7, 0, none⟩) 1 1]) ∧ PairW w.heap.size w' [0, 2, 2, 1, 1] [3, 0, 0, 0] ∧ Below w.heap.size w w' := by
  go_enter Tryz.func26, Tryz.ntmps26
  go_wp2
  refine bodyPost_ret (v := .agg #[.int .i64 6, .slice (some ⟨w.heap.size + 1, 0, none⟩) 2 2, .slice (some ⟨w.heap.size + 4, 0, none⟩) 5 5, .slice (some ⟨w.heap.size + 5, 0, none⟩) 5 5, .slice (some ⟨w.heap.size + 7, 0, none⟩) 1 1]) (by simp [results, Tryz.results26, go_sem]) rfl ⟨rfl, ⟨?_, ?_, ?_, ?_, ?_, ?_, ?_⟩, ?_⟩
  · show _ = _; simp only [alloc_get, size_alloc, Nat.add_right_cancel_iff, Nat.add_assoc, Nat.reduceAdd, Nat.add_left_cancel_iff, Nat.reduceEqDiff, ↓reduceIte, List.map, Nat.left_eq_add, reduceCtorEq, Nat.add_eq_left, Nat.succ_ne_self]
  · show _ = _; simp only [alloc_get, size_alloc, Nat.add_right_cancel_iff, Nat.add_assoc, Nat.reduceAdd, Nat.add_left_cancel_iff, Nat.reduceEqDiff, ↓reduceIte, List.map, Nat.left_eq_add, reduceCtorEq, Nat.add_eq_left, Nat.succ_ne_self]
  · show _ = _; simp only [alloc_get, size_alloc, Nat.add_right_cancel_iff, Nat.add_assoc, Nat.reduceAdd, Nat.add_left_cancel_iff, Nat.reduceEqDiff, ↓reduceIte, List.map, Nat.left_eq_add, reduceCtorEq, Nat.add_eq_left, Nat.succ_ne_self]
  · show _ = _; simp only [alloc_get, size_alloc, Nat.add_assoc, Nat.reduceAdd, Nat.add_left_cancel_iff, Nat.reduceEqDiff, ↓reduceIte, aaaa, bbbb]
  · show _ = _; simp only [alloc_get, size_alloc, Nat.add_right_cancel_iff, Nat.add_assoc, Nat.reduceAdd, Nat.add_left_cancel_iff, Nat.reduceEqDiff, ↓reduceIte, List.map, Nat.left_eq_add, reduceCtorEq, Nat.add_eq_left, Nat.succ_ne_self]
  · show _ = _; simp only [alloc_get, size_alloc, Nat.add_right_cancel_iff, Nat.add_assoc, Nat.reduceAdd, Nat.add_left_cancel_iff, Nat.reduceEqDiff, ↓reduceIte, List.map, Nat.left_eq_add, reduceCtorEq, Nat.add_eq_left, Nat.succ_ne_self]
  · show _ = _; simp only [alloc_get, size_alloc, Nat.add_assoc, Nat.reduceAdd, Nat.add_left_cancel_iff, Nat.reduceEqDiff, ↓reduceIte, nOld]
  · exact ((((((((Below.refl _ _).alloc (Nat.le_refl _) _).alloc (by simp) _).alloc (by simp; omega) _).alloc (by simp; omega) _).alloc (by simp; omega) _).alloc (by simp; omega) _).alloc (by simp; omega) _).alloc (by simp; omega) _

theorem PairW.below {n : Nat} {W W' : World} {R T : List Int} (h : PairW n W R T) {k : Nat} (hb : Below k W W') (hk : n + 8 ≤ k) : PairW n W' R T :=
  ⟨(hb.block _ (by omega)).trans h.root, (hb.block _ (by omega)).trans h.ta, (hb.block _ (by omega)).trans h.tb, (hb.block _ (by omega)).trans h.slots, (hb.block _ (by omega)).trans h.refs, (hb.block _ (by omega)).trans h.sroot, (hb.block _ (by omega)).trans h.snaps⟩
theorem PairW.size {n : Nat} {W : World} {R T : List Int} (h : PairW n W R T) : n + 8 ≤ W.heap.size := by
  have := (Array.getElem?_eq_some_iff.1 h.snaps).1; omega
theorem cell_of {W : World} {g : Nat} {A : Array Value} {t : TypeId} {fr : Nat × Nat} (h : W.heap[g]? = some (.cells A t fr)) {j : Nat} {v : Value} (hv : A[j]? = some v) : W.cell? ⟨g, j, none⟩ = some v := by
  simp [World.cell?, h, hv]
theorem PairW.img {n : Nat} {W : World} {R T : List Int} (h : PairW n W R T) (hR : R.length = 5) (hT : T.length = 4) (g : Int) :
    Img W (.agg #[.int .i64 g, .slice (some ⟨n + 1, 0, none⟩) 2 2, .slice (some ⟨n + 4, 0, none⟩) 5 5, .slice (some ⟨n + 5, 0, none⟩) 5 5, .slice (some ⟨n + 7, 0, none⟩) 1 1]) (pairD g R T) := by
  refine ⟨_, _, _, _, rfl, h.root.sl rfl (by decide), ⟨some ⟨n + 4, 0, none⟩, 5, rfl, show (5 : Nat) ≤ maxLen by decide, Nat.le_refl _, fun _ => ⟨n + 4, 0, rfl, (Array.getElem?_eq_some_iff.1 h.slots).1, ?_⟩⟩, h.refs.sl hR (by decide), ⟨some ⟨n + 7, 0, none⟩, 1, rfl, show (1 : Nat) ≤ maxLen by decide, Nat.le_refl _, fun _ => ⟨n + 7, 0, rfl, (Array.getElem?_eq_some_iff.1 h.snaps).1, ?_⟩⟩⟩
  · intro j hj
    have h5 : j < 5 := hj
    match j, h5 with
    | 0, _ => exact ⟨_, cell_of h.slots rfl, cell_of h.slots rfl, cell_of h.slots rfl, Sl.nil W⟩
    | 1, _ => exact ⟨_, cell_of h.slots rfl, cell_of h.slots rfl, cell_of h.slots rfl, Sl.nil W⟩
    | 2, _ => exact ⟨_, cell_of h.slots rfl, cell_of h.slots rfl, cell_of h.slots rfl, h.ta.sl rfl (by decide)⟩
    | 3, _ => exact ⟨_, cell_of h.slots rfl, cell_of h.slots rfl, cell_of h.slots rfl, Sl.nil W⟩
    | 4, _ => exact ⟨_, cell_of h.slots rfl, cell_of h.slots rfl, cell_of h.slots rfl, h.tb.sl hT (by decide)⟩
  · intro j hj
    have h1 : j < 1 := hj
    match j, h1 with
    | 0, _ => exact ⟨_, cell_of h.snaps rfl, cell_of h.snaps rfl, cell_of h.snaps rfl, h.sroot.sl rfl (by decide)⟩
theorem LAt.other {W : World} {g g' : Nat} {l : List Int} (h : LAt W g l) (hne : g ≠ g') (j : Nat) (v : Value) : LAt (W.setCell ⟨g', j, none⟩ v) g l := ((Only.set g' W j v).block g hne).trans h
theorem PairW.setRefs {n : Nat} {W : World} {R T : List Int} (h : PairW n W R T) (j : Nat) (x : Int) : PairW n (W.setCell ⟨n + 5, j, none⟩ (.int .i64 x)) (R.set j x) T :=
  ⟨h.root.other (by omega) _ _, h.ta.other (by omega) _ _, h.tb.other (by omega) _ _, ((Only.set (n + 5) W j _).block _ (by omega)).trans h.slots, h.refs.set j x, h.sroot.other (by omega) _ _, ((Only.set (n + 5) W j _).block _ (by omega)).trans h.snaps⟩
theorem pair_is (w : World) : Calls Tryz.prog 26 #[] w fun r w' => (∃ v, r = .returned v ∧ Img w' v (pairD 6 [0, 2, 2, 1, 1] [3, 0, 0, 0])) ∧ Below w.heap.size w w' :=
  (pair_at w).mono fun _ _ h => ⟨⟨_, h.1, h.2.1.img rfl rfl 6⟩, h.2.2⟩
end Go.Proofs.YtehleeibgkpjmafGreat
/- Contract of fresh.Image: an image to which nothing was written. -/
namespace Go.Proofs.YtehleeibgkpjmafGreat
open Go.RowKit Go.Shelf
set_option maxRecDepth 20000
set_option linter.unusedVariables false

def zD : ImgD := ⟨0, [], [(0, ⟨#[]⟩, [])], [0], []⟩
def freshD (g : Nat) : ImgD := ⟨g, List.replicate ((g + 3) / 4) 0, [(0, ⟨#[]⟩, [])], [0], []⟩
def frsM (g : Int) : ImgD := rzM zD g
def frsE (g : Int) : Int := rzE zD g
theorem frs_is : ∀ k : Nat, k ≤ 16 → frsM k = freshD k ∧ frsE k = 0 ∧ checkE (freshD k) = 0
  | 0, _ => ⟨by kernel_rfl, by decide +kernel, by decide +kernel⟩
  | 1, _ => ⟨by kernel_rfl, by decide +kernel, by decide +kernel⟩
  | 2, _ => ⟨by kernel_rfl, by decide +kernel, by decide +kernel⟩
  | 3, _ => ⟨by kernel_rfl, by decide +kernel, by decide +kernel⟩
  | 4, _ => ⟨by kernel_rfl, by decide +kernel, by decide +kernel⟩
  | 5, _ => ⟨by kernel_rfl, by decide +kernel, by decide +kernel⟩
  | 6, _ => ⟨by kernel_rfl, by decide +kernel, by decide +kernel⟩
  | 7, _ => ⟨by kernel_rfl, by decide +kernel, by decide +kernel⟩
  | 8, _ => ⟨by kernel_rfl, by decide +kernel, by decide +kernel⟩
  | 9, _ => ⟨by kernel_rfl, by decide +kernel, by decide +kernel⟩
  | 10, _ => ⟨by kernel_rfl, by decide +kernel, by decide +kernel⟩
  | 11, _ => ⟨by kernel_rfl, by decide +kernel, by decide +kernel⟩
  | 12, _ => ⟨by kernel_rfl, by decide +kernel, by decide +kernel⟩
  | 13, _ => ⟨by kernel_rfl, by decide +kernel, by decide +kernel⟩
  | 14, _ => ⟨by kernel_rfl, by decide +kernel, by decide +kernel⟩
  | 15, _ => ⟨by kernel_rfl, by decide +kernel, by decide +kernel⟩
  | 16, _ => ⟨by kernel_rfl, by decide +kernel, by decide +kernel⟩
  | k + 17, h => absurd h (by omega)
theorem al2a (W : World) (a b : Obj) : ((W.alloc a).alloc b).heap[W.heap.size]? = some a := (Below.heap_alloc _ _ _ (by simp)).trans (World.alloc_heap_new W a)
theorem al2b (W : World) (a b : Obj) : ((W.alloc a).alloc b).heap[(W.alloc a).heap.size]? = some b := World.alloc_heap_new _ _
theorem zD_img {W : World} {x y : Nat} (hx : W.heap[x]? = some (.cells #[.int .i64 0, .string ⟨#[]⟩, .slice none 0 0] 61)) (hy : W.heap[y]? = some (.cells #[.int .i64 0] 3)) : Img W (.agg #[.int .i64 0, .slice none 0 0, .slice (some ⟨x, 0, none⟩) 1 1, .slice (some ⟨y, 0, none⟩) 1 1, .slice none 0 0]) zD := by
  refine ⟨_, _, _, _, rfl, Sl.nil W, ?_, ?_, ?_⟩
  · refine ⟨some ⟨x, 0, none⟩, 1, rfl, show (1 : Nat) ≤ maxLen by decide, Nat.le_refl _, fun _ => ⟨x, 0, rfl, (Array.getElem?_eq_some_iff.1 hx).1, ?_⟩⟩
    intro j hj
    have h1 : j < 1 := hj
    match j, h1 with
    | 0, _ => exact ⟨_, cell_of hx rfl, cell_of hx rfl, cell_of hx rfl, Sl.nil W⟩
  · refine ⟨some ⟨y, 0, none⟩, 1, rfl, show (1 : Nat) ≤ maxLen by decide, Nat.le_refl _, fun _ => ⟨y, 0, rfl, (Array.getElem?_eq_some_iff.1 hy).1, fun j hj => ?_⟩⟩
    have h1 : j < 1 := hj
    match j, h1 with
    | 0, _ => exact cell_of hy rfl
  · exact ⟨none, 0, rfl, Nat.zero_le _, Nat.le_refl _, fun x => absurd rfl x⟩

set_option maxHeartbeats 4000000 in
theorem fresh_at (g : Int) (w : World) (M : ImgD) (E : Int) (hM : frsM g = M) (hE : frsE g = E) : Calls Tryz.prog 22 #[.int .i64 g] w (AnsI w w.heap.size M E) := by
  have m0 : (w.alloc (.cells #[.int .i64 0, .slice none 0 0, .slice none 0 0, .slice none 0 0, .slice none 0 0] 27)).heap[w.heap.size]? = some (.cells #[.int .i64 0, .slice none 0 0, .slice none 0 0, .slice none 0 0, .slice none 0 0] 27) := World.alloc_heap_new _ _
  have HR : Hid (∀ (W : World) (x y : Nat), W.heap[x]? = some (.cells #[.int .i64 0, .string ⟨#[]⟩, .slice none 0 0] 61) → W.heap[y]? = some (.cells #[.int .i64 0] 3) → Calls Tryz.prog 48 #[.agg #[.int .i64 0, .slice none 0 0, .slice (some ⟨x, 0, none⟩) 1 1, .slice (some ⟨y, 0, none⟩) 1 1, .slice none 0 0], .int .i64 g] W (AnsI W W.heap.size M E)) := fun W x y hx hy => resize_to (zD_img hx hy) g hM hE
  have hb1 : Below w.heap.size w ((w.alloc (.cells #[.int .i64 0, .slice none 0 0, .slice none 0 0, .slice none 0 0, .slice none 0 0] 27)).alloc (.cells #[.int .i64 0, .string ⟨#[]⟩, .slice none 0 0] 61) |>.alloc (.cells #[.int .i64 0] 3)).drew := ((((Below.refl _ _).alloc (Nat.le_refl _) _).alloc (by simp) _).alloc (by simp; omega) _).drew
  have hb2 : Below w.heap.size w ((w.alloc (.cells #[.int .i64 0, .slice none 0 0, .slice none 0 0, .slice none 0 0, .slice none 0 0] 27)).alloc (.cells #[.int .i64 0] 3) |>.alloc (.cells #[.int .i64 0, .string ⟨#[]⟩, .slice none 0 0] 61)).drew := ((((Below.refl _ _).alloc (Nat.le_refl _) _).alloc (by simp) _).alloc (by simp; omega) _).drew
  clear hM hE
  go_enter Tryz.func22, Tryz.ntmps22
  have hm1 : ∀ w, (Instr.makeSlice 24 (.int .i64 1) (.int .i64 1)).run Tryz.prog w = .ok (.slice (some ⟨w.heap.size, 0, none⟩) 1 1) (w.alloc (.cells #[.int .i64 0, .string ⟨#[]⟩, .slice none 0 0] 61)) := fun _ => by kernel_rfl
  have hm2 : ∀ w, (Instr.makeSlice 23 (.int .i64 1) (.int .i64 1)).run Tryz.prog w = .ok (.slice (some ⟨w.heap.size, 0, none⟩) 1 1) (w.alloc (.cells #[.int .i64 0] 3)) := fun _ => by kernel_rfl
  have x1 : (((w.alloc (.cells #[.int .i64 0, .slice none 0 0, .slice none 0 0, .slice none 0 0, .slice none 0 0] 27)).alloc (.cells #[.int .i64 0, .string ⟨#[]⟩, .slice none 0 0] 61)).alloc (.cells #[.int .i64 0] 3)).heap[w.heap.size + 1]? = some (.cells #[.int .i64 0, .string ⟨#[]⟩, .slice none 0 0] 61) := by have := al2a (w.alloc (.cells #[.int .i64 0, .slice none 0 0, .slice none 0 0, .slice none 0 0, .slice none 0 0] 27)) (.cells #[.int .i64 0, .string ⟨#[]⟩, .slice none 0 0] 61) (.cells #[.int .i64 0] 3); simpa using this
  have y1 : (((w.alloc (.cells #[.int .i64 0, .slice none 0 0, .slice none 0 0, .slice none 0 0, .slice none 0 0] 27)).alloc (.cells #[.int .i64 0, .string ⟨#[]⟩, .slice none 0 0] 61)).alloc (.cells #[.int .i64 0] 3)).heap[w.heap.size + 1 + 1]? = some (.cells #[.int .i64 0] 3) := by have := al2b (w.alloc (.cells #[.int .i64 0, .slice none 0 0, .slice none 0 0, .slice none 0 0, .slice none 0 0] 27)) (.cells #[.int .i64 0, .string ⟨#[]⟩, .slice none 0 0] 61) (.cells #[.int .i64 0] 3); simpa using this
  have x2 : (((w.alloc (.cells #[.int .i64 0, .slice none 0 0, .slice none 0 0, .slice none 0 0, .slice none 0 0] 27)).alloc (.cells #[.int .i64 0] 3)).alloc (.cells #[.int .i64 0, .string ⟨#[]⟩, .slice none 0 0] 61)).heap[w.heap.size + 1 + 1]? = some (.cells #[.int .i64 0, .string ⟨#[]⟩, .slice none 0 0] 61) := by have := al2b (w.alloc (.cells #[.int .i64 0, .slice none 0 0, .slice none 0 0, .slice none 0 0, .slice none 0 0] 27)) (.cells #[.int .i64 0] 3) (.cells #[.int .i64 0, .string ⟨#[]⟩, .slice none 0 0] 61); simpa using this
  have y2 : (((w.alloc (.cells #[.int .i64 0, .slice none 0 0, .slice none 0 0, .slice none 0 0, .slice none 0 0] 27)).alloc (.cells #[.int .i64 0] 3)).alloc (.cells #[.int .i64 0, .string ⟨#[]⟩, .slice none 0 0] 61)).heap[w.heap.size + 1]? = some (.cells #[.int .i64 0] 3) := by have := al2a (w.alloc (.cells #[.int .i64 0, .slice none 0 0, .slice none 0 0, .slice none 0 0, .slice none 0 0] 27)) (.cells #[.int .i64 0] 3) (.cells #[.int .i64 0, .string ⟨#[]⟩, .slice none 0 0] 61); simpa using this
  go_upto_region 1 with fail
  go_region_with (go_at_call 48; refine (HR.out _ _ _ (by first | exact x1 | exact x2) (by first | exact y1 | exact y2)).mono ?_; intro e w2 hA; obtain ⟨val, a1, a2, a3, a4, a5, a6, a7, a8, rfl, hO, bb, hI⟩ := hA.open; have zz := (bb.block w.heap.size (by simp <;> omega)).trans (cells_alloc (cells_alloc m0 _) _); obtain ⟨z0, z1, z2, z3, z4⟩ := five zz; have f0 := cells_frozen zz 0; have f1 := cells_frozen zz 1; have f2 := cells_frozen zz 2; have f3 := cells_frozen zz 3; have f4 := cells_frozen zz 4; have HO : Hid (OI w2 _ val M ∧ _ = imgV M.guest val) := ⟨hO, hI.symm⟩; have HB : Hid (Below w.heap.size w w2) := (by first | exact hb1.trans (bb.mono (by simp <;> omega)) | exact hb2.trans (bb.mono (by simp <;> omega))); clear hA hO hI bb)
  all_goals
    go_wp2_with fail
    have i1 : w.heap.size ≤ w.heap.size := Nat.le_refl _
    have hfr : ∀ a, Live M a → (val a).ownBlock ≠ some w.heap.size := fun a ha e => by
      have := ((HO.out.1.row a ha).lt _ e).1
      simp at this
      omega
    refine bodyPost_ret (v := .tuple #[.agg #[.int .i64 M.guest, .slice a1 M.root.length a2, .slice a3 M.slots.length a4, .slice a5 M.refs.length a6, .slice a7 M.snaps.length a8], .int .i64 E]) (by simp [results, Tryz.results22, go_sem, z0, z1, z2, z3, z4]) rfl ⟨val, by rw [← HO.out.2], OI.mono (((((HO.out.1.far hfr).far hfr).far hfr).far hfr).far hfr) (by simp <;> omega), ((((HB.out.setCell i1 _).setCell i1 _).setCell i1 _).setCell i1 _).setCell i1 _⟩
theorem fresh_is (g : Int) (w : World) {M : ImgD} {E : Int} (hM : frsM g = M) (hE : frsE g = E) : Calls Tryz.prog 22 #[.int .i64 g] w (AnsI w w.heap.size M E) := fresh_at g w M E hM hE
end Go.Proofs.YtehleeibgkpjmafGreat
