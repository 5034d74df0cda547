/- Texts joined: SkO, PDec, SameInts, WBegun, SBegun, SameI, SkS, SCom, SlotsIn. -/
import Derived.Test.YtehleeibgkpjmafGreatStackCommitsJ12
import Derived.Test.YtehleeibgkpjmafGreatStackCommitsJ10
import Derived.Test.YtehleeibgkpjmafGreatStackCommitsJ1
import Derived.Deep.QuietTactic
import Derived.BigQuiet
import Derived.Test.YtehleeibgkpjmafGreatStackCommitsJ11
import Derived.Test.YtehleeibgkpjmafGreatStackCommitsJ3
import Derived.Deep.RegionHeld3
import Derived.Deep.Strs
import Derived.Deep.Slices
import Derived.ProofKit
/- Contract of the document's CommitOf. -/
namespace Go.Proofs.YtehleeibgkpjmafGreat
open Go.RowKit Go.Shelf
set_option maxRecDepth 20000
set_option linter.unusedVariables false
set_option linter.unusedSimpArgs false

structure CoS (w2 wr : World) (g wn gr gs gf : Nat) (pg : List ByteArray) (k : Nat) : Prop where
  bel : Below w2.heap.size w2 wr
  ex : ∃ pa pc, wr.ownsRow (w2.heap.size + 1) 9 1 (.slice pa k pc) k (strs (pg.take k)) ∧ wr.heap[w2.heap.size]? = some (.cells #[.slice pa k pc, .int .i64 (g : Int), .slice (some ⟨gr, 0, none⟩) wn wn, .slice (some ⟨gs, 0, none⟩) 1 1, .slice (some ⟨gf, 0, none⟩) 1 1, .slice none 0 0] 29)
theorem one_newS (W : World) (x : Value) : ∀ (j : Nat) (u : Value), [x][j]? = some u → (W.alloc (.cells #[x] 9)).cell? ((⟨W.heap.size, 0, none⟩ : Addr).add j) = some u := by
  intro j u hj
  rw [addr_add, World.cell?_alloc_at _ _ _ _ rfl]
  match j, hj with
  | 0, hj => simpa using hj
theorem wp_addS {W : World} {o : Oper} {a : Act} {K : Act → World → Prop} {Q : Exit → Act → World → Prop} (s x : Operand)
    (ho : o.op = .call { callee := .builtin .append, args := #[s, x], argTypes := #[22, 22] }) {B n : Nat} {v : Value} {xs : List ByteArray} {p : ByteArray}
    (hs : a.eval s = v) {N : Nat} (hx : a.eval x = .slice (some ⟨N, 0, none⟩) 1 1) (hN : N = W.heap.size) (hown : W.ownsRow B 9 1 v n (strs xs)) (hn : n ≤ 1000) (hB : B ≤ W.heap.size)
    (h : ∀ v' w', Hid (w'.ownsRow B 9 1 v' (n + 1) (strs (xs ++ [p]))) → Hid ((W.alloc (.cells #[.string p] 9)).grownBy w' v.ownBlock) → K (a.put o.dst v') w') : o.wp Tryz.prog a (W.alloc (.cells #[.string p] 9)) K Q := by
  subst hN
  obtain ⟨i0, hi, hz0, hz1, hz2⟩ := info_parts info9
  obtain ⟨v', w', hr, g2, g3, _, g5⟩ := run_append_own_at (P := Tryz.prog) (W.alloc (.cells #[.string p] 9)) B 22 o.type 9 i0 (.string ByteArray.empty) 1 16 Tryz.underlying22 hi hz0 hz1 hz2 rfl (by decide) v n (strs xs) (hown.alloc _) ⟨W.heap.size, 0, none⟩ 1 1 [.string p] rfl (one_newS W _) (by intro u hu; simp at hu; subst hu; rfl) (by unfold maxLen; omega) (by omega) (by simp; omega)
  unfold Oper.wp execOp
  simp only [ho, resolve, invoke, builtin, Sem.run_bind, Sem.run_pure, Result.andThen_ok, List.map_toArray, List.map_cons, List.map_nil, hs, hx, hr]
  have e : strs (xs ++ [p]) = strs xs ++ [.string p] := by unfold strs; simp
  exact h v' w' (by rw [e]; exact g2) g3
theorem fresh_img {W : World} {g wn gr gs gf : Nat} (hw : (g + 3) / 4 = wn) (h40 : wn ≤ 40) (hr : W.heap[gr]? = some (.cells (Array.replicate wn (.int .i64 0)) 3)) (hs : W.heap[gs]? = some (.cells #[.int .i64 0, .string ⟨#[]⟩, .slice none 0 0] 61)) (hf : W.heap[gf]? = some (.cells #[.int .i64 0] 3)) : Img W (.agg #[.int .i64 (g : Int), .slice (some ⟨gr, 0, none⟩) wn wn, .slice (some ⟨gs, 0, none⟩) 1 1, .slice (some ⟨gf, 0, none⟩) 1 1, .slice none 0 0]) (freshD g) := by
  refine ⟨_, _, _, _, rfl, ?_, ?_, ?_, ?_⟩
  · show Sl W (.slice (some ⟨gr, 0, none⟩) wn wn) (List.replicate ((g + 3) / 4) 0)
    rw [hw]
    refine ⟨some ⟨gr, 0, none⟩, wn, by simp, by simp; unfold maxLen; omega, by simp, fun _ => ⟨gr, 0, rfl, (Array.getElem?_eq_some_iff.1 hr).1, fun j hj => ?_⟩⟩
    have hj' : j < wn := by simpa using hj
    simp [World.cell?, hr, List.getD, hj']
  · exact (zD_img hs hf).four.2.1
  · exact (zD_img hs hf).four.2.2.1
  · exact (zD_img hs hf).four.2.2.2
theorem row_blkS {W W' : World} {B n size : Nat} {e : TypeId} {v : Value} {xs : List Value} (h : W.ownsRow B e size v n xs) (hb : ∀ g, v.ownBlock = some g → W'.heap[g]? = W.heap[g]?) : W'.ownsRow B e size v n xs := row_blk h hb
set_option maxHeartbeats 4000000 in
theorem co_bad (ba : Option Addr) (bc : Nat) (ra : Option Addr) (rc : Nat) (sa : Option Addr) (sc : Nat) (fa : Option Addr) (fc : Nat) (na : Option Addr) (nc : Nat) (b : List ByteArray) (m : ImgD) (w : World) (hS : Ss w (.slice ba b.length bc) b) (hI : Img w (.agg #[.int .i64 m.guest, .slice ra m.root.length rc, .slice sa m.slots.length sc, .slice fa m.refs.length fc, .slice na m.snaps.length nc]) m) (E : Int) (hE : scE b m = E) (hne : (E != 0) = true) :
    Calls Tryz.prog 7 #[.agg #[.slice ba b.length bc, .int .i64 m.guest, .slice ra m.root.length rc, .slice sa m.slots.length sc, .slice fa m.refs.length fc, .slice na m.snaps.length nc]] w (AnsK w [] imgZ E) := by
  have b0 : Below w.heap.size w ((w.alloc (.cells #[.slice ba b.length bc, .int .i64 m.guest, .slice ra m.root.length rc, .slice sa m.slots.length sc, .slice fa m.refs.length fc, .slice na m.snaps.length nc] 29)).alloc (.cells #[.slice none 0 0, .int .i64 0, .slice none 0 0, .slice none 0 0, .slice none 0 0, .slice none 0 0] 29)) := ((Below.refl _ _).alloc (Nat.le_refl _) _).alloc (by simp) _
  have q0 : ((w.alloc (.cells #[.slice ba b.length bc, .int .i64 m.guest, .slice ra m.root.length rc, .slice sa m.slots.length sc, .slice fa m.refs.length fc, .slice na m.snaps.length nc] 29)).alloc (.cells #[.slice none 0 0, .int .i64 0, .slice none 0 0, .slice none 0 0, .slice none 0 0, .slice none 0 0] 29)).heap[w.heap.size]? = some (.cells #[.slice ba b.length bc, .int .i64 m.guest, .slice ra m.root.length rc, .slice sa m.slots.length sc, .slice fa m.refs.length fc, .slice na m.snaps.length nc] 29) := cells_alloc (World.alloc_heap_new _ _) _
  have r0 : ((w.alloc (.cells #[.slice ba b.length bc, .int .i64 m.guest, .slice ra m.root.length rc, .slice sa m.slots.length sc, .slice fa m.refs.length fc, .slice na m.snaps.length nc] 29)).alloc (.cells #[.slice none 0 0, .int .i64 0, .slice none 0 0, .slice none 0 0, .slice none 0 0, .slice none 0 0] 29)).heap[w.heap.size + 1]? = some (.cells #[.slice none 0 0, .int .i64 0, .slice none 0 0, .slice none 0 0, .slice none 0 0, .slice none 0 0] 29) := by have := World.alloc_heap_new (w.alloc (.cells #[.slice ba b.length bc, .int .i64 m.guest, .slice ra m.root.length rc, .slice sa m.slots.length sc, .slice fa m.refs.length fc, .slice na m.snaps.length nc] 29)) (.cells #[.slice none 0 0, .int .i64 0, .slice none 0 0, .slice none 0 0, .slice none 0 0, .slice none 0 0] 29); simpa using this
  have hsz : w.heap.size + 1 < ((w.alloc (.cells #[.slice ba b.length bc, .int .i64 m.guest, .slice ra m.root.length rc, .slice sa m.slots.length sc, .slice fa m.refs.length fc, .slice na m.snaps.length nc] 29)).alloc (.cells #[.slice none 0 0, .int .i64 0, .slice none 0 0, .slice none 0 0, .slice none 0 0, .slice none 0 0] 29)).heap.size := by simp
  obtain ⟨c0, c1, c2, c3, c4, c5⟩ := six q0
  have hS1 := hS.below b0
  have hI1 := hI.below b0
  have hck := ckStk_is (w := ((w.alloc (.cells #[.slice ba b.length bc, .int .i64 m.guest, .slice ra m.root.length rc, .slice sa m.slots.length sc, .slice fa m.refs.length fc, .slice na m.snaps.length nc] 29)).alloc (.cells #[.slice none 0 0, .int .i64 0, .slice none 0 0, .slice none 0 0, .slice none 0 0, .slice none 0 0] 29))) (v := .agg #[.slice ba b.length bc, .int .i64 m.guest, .slice ra m.root.length rc, .slice sa m.slots.length sc, .slice fa m.refs.length fc, .slice na m.snaps.length nc]) ⟨_, _, _, _, _, rfl, hS1, hI1⟩ hE
  clear hS hI hI1 hS1 hE
  go_enter Tryz.func7, Tryz.ntmps7
  go_wp2_with (go_at_call 23; refine hck.mono ?_; rintro e w1 ⟨rfl, b1⟩; have q1 := cells_below q0 b1 (by omega); have r1 := cells_below r0 b1 hsz; obtain ⟨d0, d1, d2, d3, d4, d5⟩ := six q1; obtain ⟨x0, x1, x2, x3, x4, x5⟩ := six r1; have y0 := cells_frozen r1 0; have y1 := cells_frozen r1 1; have y2 := cells_frozen r1 2; have y3 := cells_frozen r1 3; have y4 := cells_frozen r1 4; have y5 := cells_frozen r1 5)
  refine bodyPost_ret (v := .tuple #[.agg #[.slice none 0 0, .int .i64 0, .slice none 0 0, .slice none 0 0, .slice none 0 0, .slice none 0 0], .int .i64 E]) (by simp [results, Tryz.results7, go_sem, x0, x1, x2, x3, x4, x5]) rfl ⟨_, rfl, Stk.zero _, six_below (Below.on b0 b1) _ _ _ _ _ _⟩
set_option maxHeartbeats 4000000 in
theorem co_busy (ba : Option Addr) (bc : Nat) (ra : Option Addr) (rc : Nat) (sa : Option Addr) (sc : Nat) (fa : Option Addr) (fc : Nat) (na : Option Addr) (nc : Nat) (b : List ByteArray) (m : ImgD) (w : World) (hS : Ss w (.slice ba b.length bc) b) (hI : Img w (.agg #[.int .i64 m.guest, .slice ra m.root.length rc, .slice sa m.slots.length sc, .slice fa m.refs.length fc, .slice na m.snaps.length nc]) m) (hE : scE b m = 0) (hne : decide (0 < m.snaps.length) = true) :
    Calls Tryz.prog 7 #[.agg #[.slice ba b.length bc, .int .i64 m.guest, .slice ra m.root.length rc, .slice sa m.slots.length sc, .slice fa m.refs.length fc, .slice na m.snaps.length nc]] w (AnsK w [] imgZ 8) := by
  have b0 : Below w.heap.size w ((w.alloc (.cells #[.slice ba b.length bc, .int .i64 m.guest, .slice ra m.root.length rc, .slice sa m.slots.length sc, .slice fa m.refs.length fc, .slice na m.snaps.length nc] 29)).alloc (.cells #[.slice none 0 0, .int .i64 0, .slice none 0 0, .slice none 0 0, .slice none 0 0, .slice none 0 0] 29)) := ((Below.refl _ _).alloc (Nat.le_refl _) _).alloc (by simp) _
  have q0 : ((w.alloc (.cells #[.slice ba b.length bc, .int .i64 m.guest, .slice ra m.root.length rc, .slice sa m.slots.length sc, .slice fa m.refs.length fc, .slice na m.snaps.length nc] 29)).alloc (.cells #[.slice none 0 0, .int .i64 0, .slice none 0 0, .slice none 0 0, .slice none 0 0, .slice none 0 0] 29)).heap[w.heap.size]? = some (.cells #[.slice ba b.length bc, .int .i64 m.guest, .slice ra m.root.length rc, .slice sa m.slots.length sc, .slice fa m.refs.length fc, .slice na m.snaps.length nc] 29) := cells_alloc (World.alloc_heap_new _ _) _
  have r0 : ((w.alloc (.cells #[.slice ba b.length bc, .int .i64 m.guest, .slice ra m.root.length rc, .slice sa m.slots.length sc, .slice fa m.refs.length fc, .slice na m.snaps.length nc] 29)).alloc (.cells #[.slice none 0 0, .int .i64 0, .slice none 0 0, .slice none 0 0, .slice none 0 0, .slice none 0 0] 29)).heap[w.heap.size + 1]? = some (.cells #[.slice none 0 0, .int .i64 0, .slice none 0 0, .slice none 0 0, .slice none 0 0, .slice none 0 0] 29) := by have := World.alloc_heap_new (w.alloc (.cells #[.slice ba b.length bc, .int .i64 m.guest, .slice ra m.root.length rc, .slice sa m.slots.length sc, .slice fa m.refs.length fc, .slice na m.snaps.length nc] 29)) (.cells #[.slice none 0 0, .int .i64 0, .slice none 0 0, .slice none 0 0, .slice none 0 0, .slice none 0 0] 29); simpa using this
  have hsz : w.heap.size + 1 < ((w.alloc (.cells #[.slice ba b.length bc, .int .i64 m.guest, .slice ra m.root.length rc, .slice sa m.slots.length sc, .slice fa m.refs.length fc, .slice na m.snaps.length nc] 29)).alloc (.cells #[.slice none 0 0, .int .i64 0, .slice none 0 0, .slice none 0 0, .slice none 0 0, .slice none 0 0] 29)).heap.size := by simp
  obtain ⟨c0, c1, c2, c3, c4, c5⟩ := six q0
  have hS1 := hS.below b0
  have hI1 := hI.below b0
  have hck := ckStk_is (w := ((w.alloc (.cells #[.slice ba b.length bc, .int .i64 m.guest, .slice ra m.root.length rc, .slice sa m.slots.length sc, .slice fa m.refs.length fc, .slice na m.snaps.length nc] 29)).alloc (.cells #[.slice none 0 0, .int .i64 0, .slice none 0 0, .slice none 0 0, .slice none 0 0, .slice none 0 0] 29))) (v := .agg #[.slice ba b.length bc, .int .i64 m.guest, .slice ra m.root.length rc, .slice sa m.slots.length sc, .slice fa m.refs.length fc, .slice na m.snaps.length nc]) ⟨_, _, _, _, _, rfl, hS1, hI1⟩ hE
  clear hS hI hI1 hS1 hE
  go_enter Tryz.func7, Tryz.ntmps7
  go_wp2_with (go_at_call 23; refine hck.mono ?_; rintro e w1 ⟨rfl, b1⟩; have q1 := cells_below q0 b1 (by omega); have r1 := cells_below r0 b1 hsz; obtain ⟨d0, d1, d2, d3, d4, d5⟩ := six q1; obtain ⟨x0, x1, x2, x3, x4, x5⟩ := six r1; have y0 := cells_frozen r1 0; have y1 := cells_frozen r1 1; have y2 := cells_frozen r1 2; have y3 := cells_frozen r1 3; have y4 := cells_frozen r1 4; have y5 := cells_frozen r1 5)
  refine bodyPost_ret (v := .tuple #[.agg #[.slice none 0 0, .int .i64 0, .slice none 0 0, .slice none 0 0, .slice none 0 0, .slice none 0 0], .int .i64 8]) (by simp [results, Tryz.results7, go_sem, x0, x1, x2, x3, x4, x5]) rfl ⟨_, rfl, Stk.zero _, six_below (Below.on b0 b1) _ _ _ _ _ _⟩
set_option maxHeartbeats 16000000 in
theorem co_ok (ba : Option Addr) (bc : Nat) (ra : Option Addr) (rc : Nat) (sa : Option Addr) (sc : Nat) (fa : Option Addr) (fc : Nat) (na : Option Addr) (nc : Nat) (b : List ByteArray) (m : ImgD) (g wn : Nat) (w : World) (hS : Ss w (.slice ba b.length bc) b) (hI : Img w (.agg #[.int .i64 (g : Int), .slice ra m.root.length rc, .slice sa m.slots.length sc, .slice fa m.refs.length fc, .slice na m.snaps.length nc]) m) (hC : scE b m = 0) (hsn : decide (0 < m.snaps.length) = false) (hg : m.guest = (g : Int)) (hg16 : g ≤ 16) (hwn : (g + 3) / 4 = wn) :
    Calls Tryz.prog 7 #[.agg #[.slice ba b.length bc, .int .i64 (g : Int), .slice ra m.root.length rc, .slice sa m.slots.length sc, .slice fa m.refs.length fc, .slice na m.snaps.length nc]] w (AnsK w ((List.range g).map (fun n : Nat => srV b m (n : Int))) (freshD g) 0) := by
  have b0 : Below w.heap.size w ((w.alloc (.cells #[.slice ba b.length bc, .int .i64 (g : Int), .slice ra m.root.length rc, .slice sa m.slots.length sc, .slice fa m.refs.length fc, .slice na m.snaps.length nc] 29)).alloc (.cells #[.slice none 0 0, .int .i64 0, .slice none 0 0, .slice none 0 0, .slice none 0 0, .slice none 0 0] 29)) := ((Below.refl _ _).alloc (Nat.le_refl _) _).alloc (by simp) _
  have q0 : ((w.alloc (.cells #[.slice ba b.length bc, .int .i64 (g : Int), .slice ra m.root.length rc, .slice sa m.slots.length sc, .slice fa m.refs.length fc, .slice na m.snaps.length nc] 29)).alloc (.cells #[.slice none 0 0, .int .i64 0, .slice none 0 0, .slice none 0 0, .slice none 0 0, .slice none 0 0] 29)).heap[w.heap.size]? = some (.cells #[.slice ba b.length bc, .int .i64 (g : Int), .slice ra m.root.length rc, .slice sa m.slots.length sc, .slice fa m.refs.length fc, .slice na m.snaps.length nc] 29) := cells_alloc (World.alloc_heap_new _ _) _
  have r0 : ((w.alloc (.cells #[.slice ba b.length bc, .int .i64 (g : Int), .slice ra m.root.length rc, .slice sa m.slots.length sc, .slice fa m.refs.length fc, .slice na m.snaps.length nc] 29)).alloc (.cells #[.slice none 0 0, .int .i64 0, .slice none 0 0, .slice none 0 0, .slice none 0 0, .slice none 0 0] 29)).heap[w.heap.size + 1]? = some (.cells #[.slice none 0 0, .int .i64 0, .slice none 0 0, .slice none 0 0, .slice none 0 0, .slice none 0 0] 29) := by have := World.alloc_heap_new (w.alloc (.cells #[.slice ba b.length bc, .int .i64 (g : Int), .slice ra m.root.length rc, .slice sa m.slots.length sc, .slice fa m.refs.length fc, .slice na m.snaps.length nc] 29)) (.cells #[.slice none 0 0, .int .i64 0, .slice none 0 0, .slice none 0 0, .slice none 0 0, .slice none 0 0] 29); simpa using this
  have hsz : w.heap.size + 1 < ((w.alloc (.cells #[.slice ba b.length bc, .int .i64 (g : Int), .slice ra m.root.length rc, .slice sa m.slots.length sc, .slice fa m.refs.length fc, .slice na m.snaps.length nc] 29)).alloc (.cells #[.slice none 0 0, .int .i64 0, .slice none 0 0, .slice none 0 0, .slice none 0 0, .slice none 0 0] 29)).heap.size := by simp
  obtain ⟨c0, c1, c2, c3, c4, c5⟩ := six q0
  have hS1 := hS.below b0
  have hI1 := hI.below b0
  have hK0 : Stk ((w.alloc (.cells #[.slice ba b.length bc, .int .i64 (g : Int), .slice ra m.root.length rc, .slice sa m.slots.length sc, .slice fa m.refs.length fc, .slice na m.snaps.length nc] 29)).alloc (.cells #[.slice none 0 0, .int .i64 0, .slice none 0 0, .slice none 0 0, .slice none 0 0, .slice none 0 0] 29)) (.agg #[.slice ba b.length bc, .int .i64 (g : Int), .slice ra m.root.length rc, .slice sa m.slots.length sc, .slice fa m.refs.length fc, .slice na m.snaps.length nc]) b m := ⟨_, _, _, _, _, by rw [hg], hS1, by rw [hg]; exact hI1⟩
  have hck := ckStk_is hK0 hC
  have HWn : Hid ((g + 3) / 4 = wn ∧ wn ≤ 40) := ⟨hwn, by omega⟩
  have HFr : Hid (∀ W : World, Calls Tryz.prog 24 #[.int .i64 (g : Int)] W (fun r w' => ∃ gr gs gf, r = .returned (.agg #[.int .i64 (g : Int), .slice (some ⟨gr, 0, none⟩) wn wn, .slice (some ⟨gs, 0, none⟩) 1 1, .slice (some ⟨gf, 0, none⟩) 1 1, .slice none 0 0]) ∧ w'.heap[gr]? = some (.cells (Array.replicate wn (.int .i64 0)) 3) ∧ w'.heap[gs]? = some (.cells #[.int .i64 0, .string ⟨#[]⟩, .slice none 0 0] 61) ∧ w'.heap[gf]? = some (.cells #[.int .i64 0] 3) ∧ W.heap.size ≤ gr ∧ W.heap.size ≤ gs ∧ W.heap.size ≤ gf ∧ Below W.heap.size W w')) := fun W => freshOf_at g wn W HWn.out.2 (fun W' => by
    have := wants_any (g : Int) W' (by omega)
    rw [show ((g : Int) + 3) / 4 = (wn : Int) by omega] at this
    exact this)
  have HRd0 : Hid (∀ W, Below ((w.alloc (.cells #[.slice ba b.length bc, .int .i64 (g : Int), .slice ra m.root.length rc, .slice sa m.slots.length sc, .slice fa m.refs.length fc, .slice na m.snaps.length nc] 29)).alloc (.cells #[.slice none 0 0, .int .i64 0, .slice none 0 0, .slice none 0 0, .slice none 0 0, .slice none 0 0] 29)).heap.size ((w.alloc (.cells #[.slice ba b.length bc, .int .i64 (g : Int), .slice ra m.root.length rc, .slice sa m.slots.length sc, .slice fa m.refs.length fc, .slice na m.snaps.length nc] 29)).alloc (.cells #[.slice none 0 0, .int .i64 0, .slice none 0 0, .slice none 0 0, .slice none 0 0, .slice none 0 0] 29)) W → ∀ k : Nat, k < g → Calls Tryz.prog 25 #[.agg #[.slice ba b.length bc, .int .i64 (g : Int), .slice ra m.root.length rc, .slice sa m.slots.length sc, .slice fa m.refs.length fc, .slice na m.snaps.length nc], .int .i64 (k : Int)] W fun r w' => r = .returned (.string (srV b m (k : Int))) ∧ Below W.heap.size W w') := fun W hW k hk => stkRead_is (hK0.below hW) (k : Int) (sr_in hC (by rw [hg]; omega)) rfl
  clear hS hI hI1 hS1 hK0 hC hg hwn
  go_enter Tryz.func7, Tryz.ntmps7
  go_wp2_with (first | (go_at_call 24; refine (HFr.out w1).mono ?_; rintro e w2 ⟨gr, gs, gf, rfl, hgr, hgs, hgf, lr, ls, lf, b2⟩) | (go_at_call 23; refine hck.mono ?_; rintro e w1 ⟨rfl, b1⟩; have q1 := cells_below q0 b1 (by omega); have r1 := cells_below r0 b1 hsz; obtain ⟨d0, d1, d2, d3, d4, d5⟩ := six q1; obtain ⟨x0, x1, x2, x3, x4, x5⟩ := six r1; have y0 := cells_frozen r1 0; have y1 := cells_frozen r1 1; have y2 := cells_frozen r1 2; have y3 := cells_frozen r1 3; have y4 := cells_frozen r1 4; have y5 := cells_frozen r1 5))
  have s1 := b1.size
  have s2 := b2.size
  have HQ : Hid (w2.heap[w.heap.size]? = some (.cells #[.slice ba b.length bc, .int .i64 (g : Int), .slice ra m.root.length rc, .slice sa m.slots.length sc, .slice fa m.refs.length fc, .slice na m.snaps.length nc] 29) ∧ w2.heap[w.heap.size + 1]? = some (.cells #[.slice none 0 0, .int .i64 0, .slice none 0 0, .slice none 0 0, .slice none 0 0, .slice none 0 0] 29)) := ⟨cells_below q1 b2 (by omega), cells_below r1 b2 (by omega)⟩
  have HL : Hid (w2.heap[gr]? = some (.cells (Array.replicate wn (.int .i64 0)) 3) ∧ w2.heap[gs]? = some (.cells #[.int .i64 0, .string ⟨#[]⟩, .slice none 0 0] 61) ∧ w2.heap[gf]? = some (.cells #[.int .i64 0] 3)) := ⟨hgr, hgs, hgf⟩
  have HB : Hid (Below ((w.alloc (.cells #[.slice ba b.length bc, .int .i64 (g : Int), .slice ra m.root.length rc, .slice sa m.slots.length sc, .slice fa m.refs.length fc, .slice na m.snaps.length nc] 29)).alloc (.cells #[.slice none 0 0, .int .i64 0, .slice none 0 0, .slice none 0 0, .slice none 0 0, .slice none 0 0] 29)).heap.size ((w.alloc (.cells #[.slice ba b.length bc, .int .i64 (g : Int), .slice ra m.root.length rc, .slice sa m.slots.length sc, .slice fa m.refs.length fc, .slice na m.snaps.length nc] 29)).alloc (.cells #[.slice none 0 0, .int .i64 0, .slice none 0 0, .slice none 0 0, .slice none 0 0, .slice none 0 0] 29)) w2 ∧ Below w.heap.size w w2) := ⟨b1.trans (b2.mono s1), Below.on (Below.on b0 b1) b2⟩
  have hzw : w.heap.size + 1 < w2.heap.size := by omega
  have hz1 : w.heap.size + 1 < w1.heap.size := by omega
  have HS0 : Hid (CoS w2 (w2.alloc (.cells #[.slice none 0 0, .int .i64 (g : Int), .slice (some ⟨gr, 0, none⟩) wn wn, .slice (some ⟨gs, 0, none⟩) 1 1, .slice (some ⟨gf, 0, none⟩) 1 1, .slice none 0 0] 29)) g wn gr gs gf ((List.range g).map (fun n : Nat => srV b m (n : Int))) 0) := ⟨(Below.refl _ _).alloc (Nat.le_refl _) _, none, 0, World.ownsRow_nil _ _ _ _, World.alloc_heap_new _ _⟩
  clear hgr hgs hgf b1 b2 q1 r1 q0 r0 b0 hck HFr c0 c1 c2 c3 c4 c5 d0 d1 d2 d3 d4 d5 x0 x1 x2 x3 x4 x5 y0 y1 y2 y3 y4 y5 hsz
  obtain ⟨WS, hWS⟩ : ∃ X, (w2.alloc (.cells #[.slice none 0 0, .int .i64 (g : Int), .slice (some ⟨gr, 0, none⟩) wn wn, .slice (some ⟨gs, 0, none⟩) 1 1, .slice (some ⟨gf, 0, none⟩) 1 1, .slice none 0 0] 29)) = X := ⟨_, rfl⟩
  rw [hWS] at HS0 ⊢
  clear hWS
  go_loopw [6] (fun i wr => ∃ k : Nat, k ≤ g ∧ i = .int .i64 k ∧ Hid (CoS w2 wr g wn gr gs gf ((List.range g).map (fun n : Nat => srV b m (n : Int))) k)) (fun i _ => g - (intOf i).toNat)
  case atStart => exact ⟨0, Nat.zero_le _, rfl, HS0⟩
  case round =>
    obtain ⟨k, hk, rfl, HC⟩ := hrel
    obtain ⟨pa, pc, hrow, hbx⟩ := HC.out.ex
    have hbr := HC.out.bel
    have hsr := hbr.size
    have hDl : w2.heap.size < wr.heap.size := (Array.getElem?_eq_some_iff.1 hbx).1
    have qr := cells_below HQ.out.1 hbr (by omega)
    obtain ⟨c0, c1, c2, c3, c4, c5⟩ := six qr
    by_cases hlt : k < g
    · have hki : (k : Int) < (g : Int) := by omega
      obtain ⟨p, hp⟩ : ∃ p, srV b m (k : Int) = p := ⟨_, rfl⟩
      have hpk : Hid (((List.range g).map (fun n : Nat => srV b m (n : Int))).take (k + 1) = ((List.range g).map (fun n : Nat => srV b m (n : Int))).take k ++ [p]) := by
        show _ = _
        rw [← hp, List.take_add_one]
        simp [hlt]
      have hbw : Below ((w.alloc (.cells #[.slice ba b.length bc, .int .i64 (g : Int), .slice ra m.root.length rc, .slice sa m.slots.length sc, .slice fa m.refs.length fc, .slice na m.snaps.length nc] 29)).alloc (.cells #[.slice none 0 0, .int .i64 0, .slice none 0 0, .slice none 0 0, .slice none 0 0, .slice none 0 0] 29)).heap.size ((w.alloc (.cells #[.slice ba b.length bc, .int .i64 (g : Int), .slice ra m.root.length rc, .slice sa m.slots.length sc, .slice fa m.refs.length fc, .slice na m.snaps.length nc] 29)).alloc (.cells #[.slice none 0 0, .int .i64 0, .slice none 0 0, .slice none 0 0, .slice none 0 0, .slice none 0 0] 29)) wr := HB.out.1.trans (hbr.mono HB.out.1.size)
      have HRd : Hid (∀ W, Below ((w.alloc (.cells #[.slice ba b.length bc, .int .i64 (g : Int), .slice ra m.root.length rc, .slice sa m.slots.length sc, .slice fa m.refs.length fc, .slice na m.snaps.length nc] 29)).alloc (.cells #[.slice none 0 0, .int .i64 0, .slice none 0 0, .slice none 0 0, .slice none 0 0, .slice none 0 0] 29)).heap.size ((w.alloc (.cells #[.slice ba b.length bc, .int .i64 (g : Int), .slice ra m.root.length rc, .slice sa m.slots.length sc, .slice fa m.refs.length fc, .slice na m.snaps.length nc] 29)).alloc (.cells #[.slice none 0 0, .int .i64 0, .slice none 0 0, .slice none 0 0, .slice none 0 0, .slice none 0 0] 29)) W → Calls Tryz.prog 25 #[.agg #[.slice ba b.length bc, .int .i64 (g : Int), .slice ra m.root.length rc, .slice sa m.slots.length sc, .slice fa m.refs.length fc, .slice na m.snaps.length nc], .int .i64 (k : Int)] W fun r w' => r = .returned (.string p) ∧ Below W.heap.size W w') := fun W hW => by rw [← hp]; exact HRd0.out W hW k hlt
      clear hp
      go_wp2_with fail
      refine wp_region_held_drew (S := (fun X : World => X.heap[w.heap.size]? = some (.cells #[.slice ba b.length bc, .int .i64 (g : Int), .slice ra m.root.length rc, .slice sa m.slots.length sc, .slice fa m.refs.length fc, .slice na m.snaps.length nc] 29))) (by kernel_rfl) qr (fun hHeld => ?_)
      refine wpAnyH_take (i := 0) (v := .pointer (some ⟨w2.heap.size, 0, none⟩)) rfl (by kernel_rfl) (by kernel_rfl) (by kernel_rfl) (fun _ _ _ h => h) (Or.inl ⟨by rfl, fun w' hSw => by go_simp⟩) hHeld ?_
      simp only [Act.put, List.getElem_toArray, List.getElem_cons_succ, List.getElem_cons_zero, List.setIfInBounds_toArray, List.set_cons_zero, List.set_cons_succ]
      refine wpAnyH_take (i := 2) (v := .agg #[.slice ba b.length bc, .int .i64 (g : Int), .slice ra m.root.length rc, .slice sa m.slots.length sc, .slice fa m.refs.length fc, .slice na m.snaps.length nc]) rfl (by kernel_rfl) (by kernel_rfl) (by kernel_rfl) (fun _ _ _ h => h) (Or.inl ⟨by rfl, fun w' hSw => by obtain ⟨j0, j1, j2, j3, j4, j5⟩ := six hSw; go_simp⟩) hHeld ?_
      simp only [Act.put, List.getElem_toArray, List.getElem_cons_succ, List.getElem_cons_zero, List.setIfInBounds_toArray, List.set_cons_zero, List.set_cons_succ]
      refine wpAnyH_take (i := 3) (v := .int .i64 (k : Int)) rfl (by kernel_rfl) (by kernel_rfl) (by kernel_rfl) (fun _ _ _ h => h) (Or.inl ⟨by rfl, fun w' hSw => by go_simp⟩) hHeld ?_
      simp only [Act.put, List.getElem_toArray, List.getElem_cons_succ, List.getElem_cons_zero, List.setIfInBounds_toArray, List.set_cons_zero, List.set_cons_succ]
      refine wpAnyH_ready (rs := [1, 4]) (by kernel_rfl) (by simp) ?_
      refine AllReadyH.cons rfl (fun K hK => ?_) (AllReadyH.cons rfl (fun K hK => ?_) AllReadyH.nil)
      · clear hHeld
        simp only [Act.put, List.getElem_toArray, List.getElem_cons_succ, List.getElem_cons_zero, List.setIfInBounds_toArray, List.set_cons_zero, List.set_cons_succ]
        rw [if_pos (by rfl)]
        have hbd : wr.drew.heap[w2.heap.size]? = some (.cells #[.slice pa k pc, .int .i64 (g : Int), .slice (some ⟨gr, 0, none⟩) wn wn, .slice (some ⟨gs, 0, none⟩) 1 1, .slice (some ⟨gf, 0, none⟩) 1 1, .slice none 0 0] 29) := hbx
        obtain ⟨l0, l1, l2, l3, l4, l5⟩ := six hbd
        go_simp
        refine hK.out _ _ qr (fun hHeld => ?_)
        clear hK K
        try simp only [Act.put, List.getElem_toArray, List.getElem_cons_succ, List.getElem_cons_zero, List.setIfInBounds_toArray, List.set_cons_zero, List.set_cons_succ]
        refine wpAnyH_ready (rs := [4]) (by kernel_rfl) (by simp) ?_
        refine AllReadyH.cons rfl (fun K hK => ?_) AllReadyH.nil
        clear hHeld
        simp only [Act.put, List.getElem_toArray, List.getElem_cons_succ, List.getElem_cons_zero, List.setIfInBounds_toArray, List.set_cons_zero, List.set_cons_succ]
        rw [if_pos (by rfl)]
        go_wp2_with (go_at_call 25; refine (HRd.out _ (to_drew hbw)).mono ?_; rintro e4 w4 ⟨rfl, b4⟩)
        have b4 : Below wr.heap.size wr w4 := below_drew b4
        have s4 := b4.size
        have q4 := cells_below qr b4 (by omega)
        have k4 := cells_below hbx b4 (by omega)
        have r4 : w4.ownsRow (w2.heap.size + 1) 9 1 (.slice pa k pc) k (strs (((List.range g).map (fun n : Nat => srV b m (n : Int))).take k)) := row_blkS hrow (fun q e => b4.block q (hrow.lt q e).2)
        refine hK.out _ _ q4 (fun hHeld => ?_)
        clear hK K
        try simp only [Act.put, List.getElem_toArray, List.getElem_cons_succ, List.getElem_cons_zero, List.setIfInBounds_toArray, List.set_cons_zero, List.set_cons_succ]
        refine wpAnyH_ready (rs := [5]) (by kernel_rfl) (by simp) ?_
        refine AllReadyH.cons rfl (fun K hK => ?_) AllReadyH.nil
        clear hHeld
        simp only [Act.put, List.getElem_toArray, List.getElem_cons_succ, List.getElem_cons_zero, List.setIfInBounds_toArray, List.set_cons_zero, List.set_cons_succ]
        rw [if_pos (by rfl)]
        go_simp
        have q5 := cells_alloc q4 (.cells #[.string p] 9)
        have k5 := cells_alloc k4 (.cells #[.string p] 9)
        refine hK.out _ _ q5 (fun hHeld => ?_)
        clear hK K
        try simp only [Act.put, List.getElem_toArray, List.getElem_cons_succ, List.getElem_cons_zero, List.setIfInBounds_toArray, List.set_cons_zero, List.set_cons_succ]
        refine wpAnyH_ready (rs := [6]) (by kernel_rfl) (by simp) ?_
        refine AllReadyH.cons rfl (fun K hK => ?_) AllReadyH.nil
        clear hHeld
        simp only [Act.put, List.getElem_toArray, List.getElem_cons_succ, List.getElem_cons_zero, List.setIfInBounds_toArray, List.set_cons_zero, List.set_cons_succ]
        rw [if_pos (by rfl)]
        refine wp_addS (B := w2.heap.size + 1) (n := k) (v := .slice pa k pc) (xs := ((List.range g).map (fun n : Nat => srV b m (n : Int))).take k) (p := p) _ _ (by rfl) (by rfl) (N := w4.heap.size) (by rfl) rfl r4 (by omega) (by omega) ?_
        intro v' w6 t1 t2
        obtain ⟨pa', pc', rfl⟩ := row_slice t1.out
        have hk6 : ∀ q, q < w2.heap.size + 1 → w6.heap[q]? = (w4.alloc (.cells #[.string p] 9)).heap[q]? := fun q hq => t2.out.block q (by simp; omega) (fun e => by have := (r4.lt q e.symm).1; omega)
        have q6 := (hk6 w.heap.size (by omega)).trans q5
        have k6 := (hk6 w2.heap.size (by omega)).trans k5
        refine hK.out _ _ q6 (fun hHeld => ?_)
        clear hK K
        try simp only [Act.put, List.getElem_toArray, List.getElem_cons_succ, List.getElem_cons_zero, List.setIfInBounds_toArray, List.set_cons_zero, List.set_cons_succ]
        refine wpAnyH_take (i := 7) (v := .pointer (some ⟨w2.heap.size, 0, none⟩)) rfl (by kernel_rfl) (by kernel_rfl) (by kernel_rfl) (fun _ _ _ h => h) (Or.inl ⟨by rfl, fun w' hSw => by go_simp⟩) hHeld ?_
        simp only [Act.put, List.getElem_toArray, List.getElem_cons_succ, List.getElem_cons_zero, List.setIfInBounds_toArray, List.set_cons_zero, List.set_cons_succ]
        refine wpAnyH_ready (rs := [8]) (by kernel_rfl) (by simp) ?_
        refine AllReadyH.cons rfl (fun K hK => ?_) AllReadyH.nil
        clear hHeld
        simp only [Act.put, List.getElem_toArray, List.getElem_cons_succ, List.getElem_cons_zero, List.setIfInBounds_toArray, List.set_cons_zero, List.set_cons_succ]
        rw [if_pos (by rfl)]
        obtain ⟨l0, l1, l2, l3, l4, l5⟩ := six k6
        have lf0 := cells_frozen k6 0; have lf1 := cells_frozen k6 1; have lf2 := cells_frozen k6 2; have lf3 := cells_frozen k6 3; have lf4 := cells_frozen k6 4; have lf5 := cells_frozen k6 5
        go_simp
        refine hK.out _ _ ((Below.heap_setCell _ _ _ _ (by show w.heap.size ≠ w2.heap.size; omega)).trans q6) (fun hHeld => ?_)
        clear hK K hHeld
        try simp only [Act.put, List.getElem_toArray, List.getElem_cons_succ, List.getElem_cons_zero, List.setIfInBounds_toArray, List.set_cons_zero, List.set_cons_succ]
        refine wpAnyH_done (by kernel_rfl) ?_ _
        have HN : Hid (CoS w2 (w6.setCell ⟨w2.heap.size, 0, none⟩ (.slice pa' (k + 1) pc')) g wn gr gs gf ((List.range g).map (fun n : Nat => srV b m (n : Int))) (k + 1)) := by
          refine ⟨?_, pa', pc', ?_, cells_set k6 0 _⟩
          · have b5 : Below w2.heap.size w2 (w4.alloc (.cells #[.string p] 9)) := (HC.out.bel.trans (b4.mono (by omega))).alloc (by omega) _
            have b6 : Below w2.heap.size w2 w6 := b5.grown t2.out (by simp; omega) (fun q e => by have := (r4.lt q e).1; omega)
            exact b6.setCell (p := ⟨w2.heap.size, 0, none⟩) (Nat.le_refl _) _
          · rw [hpk.out]
            exact ownsRow_setCell_other t1.out (fun e => by have := (t1.out.lt w2.heap.size e).1; omega) _
        clear t1 t2 hk6 q6 k6 q5 k5 q4 k4 r4 b4 l0 l1 l2 l3 l4 l5 lf0 lf1 lf2 lf3 lf4 lf5
        go_wp2_with fail
        go_roundw
        case rel => exact ⟨k + 1, by omega, by go_num, HN⟩
        case measure => simp [intOf]; omega
      · clear hHeld
        simp only [Act.put, List.getElem_toArray, List.getElem_cons_succ, List.getElem_cons_zero, List.setIfInBounds_toArray, List.set_cons_zero, List.set_cons_succ]
        rw [if_pos (by rfl)]
        go_wp2_with (go_at_call 25; refine (HRd.out _ (to_drew hbw)).mono ?_; rintro e4 w4 ⟨rfl, b4⟩)
        have b4 : Below wr.heap.size wr w4 := below_drew b4
        have s4 := b4.size
        have q4 := cells_below qr b4 (by omega)
        have k4 := cells_below hbx b4 (by omega)
        have r4 : w4.ownsRow (w2.heap.size + 1) 9 1 (.slice pa k pc) k (strs (((List.range g).map (fun n : Nat => srV b m (n : Int))).take k)) := row_blkS hrow (fun q e => b4.block q (hrow.lt q e).2)
        refine hK.out _ _ q4 (fun hHeld => ?_)
        clear hK K
        try simp only [Act.put, List.getElem_toArray, List.getElem_cons_succ, List.getElem_cons_zero, List.setIfInBounds_toArray, List.set_cons_zero, List.set_cons_succ]
        refine wpAnyH_ready (rs := [1, 5]) (by kernel_rfl) (by simp) ?_
        refine AllReadyH.cons rfl (fun K hK => ?_) (AllReadyH.cons rfl (fun K hK => ?_) AllReadyH.nil)
        · clear hHeld
          simp only [Act.put, List.getElem_toArray, List.getElem_cons_succ, List.getElem_cons_zero, List.setIfInBounds_toArray, List.set_cons_zero, List.set_cons_succ]
          rw [if_pos (by rfl)]
          obtain ⟨l0, l1, l2, l3, l4, l5⟩ := six k4
          go_simp
          refine hK.out _ _ q4 (fun hHeld => ?_)
          clear hK K
          try simp only [Act.put, List.getElem_toArray, List.getElem_cons_succ, List.getElem_cons_zero, List.setIfInBounds_toArray, List.set_cons_zero, List.set_cons_succ]
          refine wpAnyH_ready (rs := [5]) (by kernel_rfl) (by simp) ?_
          refine AllReadyH.cons rfl (fun K hK => ?_) AllReadyH.nil
          clear hHeld
          simp only [Act.put, List.getElem_toArray, List.getElem_cons_succ, List.getElem_cons_zero, List.setIfInBounds_toArray, List.set_cons_zero, List.set_cons_succ]
          rw [if_pos (by rfl)]
          go_simp
          have q5 := cells_alloc q4 (.cells #[.string p] 9)
          have k5 := cells_alloc k4 (.cells #[.string p] 9)
          refine hK.out _ _ q5 (fun hHeld => ?_)
          clear hK K
          try simp only [Act.put, List.getElem_toArray, List.getElem_cons_succ, List.getElem_cons_zero, List.setIfInBounds_toArray, List.set_cons_zero, List.set_cons_succ]
          refine wpAnyH_ready (rs := [6]) (by kernel_rfl) (by simp) ?_
          refine AllReadyH.cons rfl (fun K hK => ?_) AllReadyH.nil
          clear hHeld
          simp only [Act.put, List.getElem_toArray, List.getElem_cons_succ, List.getElem_cons_zero, List.setIfInBounds_toArray, List.set_cons_zero, List.set_cons_succ]
          rw [if_pos (by rfl)]
          refine wp_addS (B := w2.heap.size + 1) (n := k) (v := .slice pa k pc) (xs := ((List.range g).map (fun n : Nat => srV b m (n : Int))).take k) (p := p) _ _ (by rfl) (by rfl) (N := w4.heap.size) (by rfl) rfl r4 (by omega) (by omega) ?_
          intro v' w6 t1 t2
          obtain ⟨pa', pc', rfl⟩ := row_slice t1.out
          have hk6 : ∀ q, q < w2.heap.size + 1 → w6.heap[q]? = (w4.alloc (.cells #[.string p] 9)).heap[q]? := fun q hq => t2.out.block q (by simp; omega) (fun e => by have := (r4.lt q e.symm).1; omega)
          have q6 := (hk6 w.heap.size (by omega)).trans q5
          have k6 := (hk6 w2.heap.size (by omega)).trans k5
          refine hK.out _ _ q6 (fun hHeld => ?_)
          clear hK K
          try simp only [Act.put, List.getElem_toArray, List.getElem_cons_succ, List.getElem_cons_zero, List.setIfInBounds_toArray, List.set_cons_zero, List.set_cons_succ]
          refine wpAnyH_take (i := 7) (v := .pointer (some ⟨w2.heap.size, 0, none⟩)) rfl (by kernel_rfl) (by kernel_rfl) (by kernel_rfl) (fun _ _ _ h => h) (Or.inl ⟨by rfl, fun w' hSw => by go_simp⟩) hHeld ?_
          simp only [Act.put, List.getElem_toArray, List.getElem_cons_succ, List.getElem_cons_zero, List.setIfInBounds_toArray, List.set_cons_zero, List.set_cons_succ]
          refine wpAnyH_ready (rs := [8]) (by kernel_rfl) (by simp) ?_
          refine AllReadyH.cons rfl (fun K hK => ?_) AllReadyH.nil
          clear hHeld
          simp only [Act.put, List.getElem_toArray, List.getElem_cons_succ, List.getElem_cons_zero, List.setIfInBounds_toArray, List.set_cons_zero, List.set_cons_succ]
          rw [if_pos (by rfl)]
          obtain ⟨l0, l1, l2, l3, l4, l5⟩ := six k6
          have lf0 := cells_frozen k6 0; have lf1 := cells_frozen k6 1; have lf2 := cells_frozen k6 2; have lf3 := cells_frozen k6 3; have lf4 := cells_frozen k6 4; have lf5 := cells_frozen k6 5
          go_simp
          refine hK.out _ _ ((Below.heap_setCell _ _ _ _ (by show w.heap.size ≠ w2.heap.size; omega)).trans q6) (fun hHeld => ?_)
          clear hK K hHeld
          try simp only [Act.put, List.getElem_toArray, List.getElem_cons_succ, List.getElem_cons_zero, List.setIfInBounds_toArray, List.set_cons_zero, List.set_cons_succ]
          refine wpAnyH_done (by kernel_rfl) ?_ _
          have HN : Hid (CoS w2 (w6.setCell ⟨w2.heap.size, 0, none⟩ (.slice pa' (k + 1) pc')) g wn gr gs gf ((List.range g).map (fun n : Nat => srV b m (n : Int))) (k + 1)) := by
            refine ⟨?_, pa', pc', ?_, cells_set k6 0 _⟩
            · have b5 : Below w2.heap.size w2 (w4.alloc (.cells #[.string p] 9)) := (HC.out.bel.trans (b4.mono (by omega))).alloc (by omega) _
              have b6 : Below w2.heap.size w2 w6 := b5.grown t2.out (by simp; omega) (fun q e => by have := (r4.lt q e).1; omega)
              exact b6.setCell (p := ⟨w2.heap.size, 0, none⟩) (Nat.le_refl _) _
            · rw [hpk.out]
              exact ownsRow_setCell_other t1.out (fun e => by have := (t1.out.lt w2.heap.size e).1; omega) _
          clear t1 t2 hk6 q6 k6 q5 k5 q4 k4 r4 b4 l0 l1 l2 l3 l4 l5 lf0 lf1 lf2 lf3 lf4 lf5
          go_wp2_with fail
          go_roundw
          case rel => exact ⟨k + 1, by omega, by go_num, HN⟩
          case measure => simp [intOf]; omega
        · clear hHeld
          simp only [Act.put, List.getElem_toArray, List.getElem_cons_succ, List.getElem_cons_zero, List.setIfInBounds_toArray, List.set_cons_zero, List.set_cons_succ]
          rw [if_pos (by rfl)]
          go_simp
          have q5 := cells_alloc q4 (.cells #[.string p] 9)
          have k5 := cells_alloc k4 (.cells #[.string p] 9)
          refine hK.out _ _ q5 (fun hHeld => ?_)
          clear hK K
          try simp only [Act.put, List.getElem_toArray, List.getElem_cons_succ, List.getElem_cons_zero, List.setIfInBounds_toArray, List.set_cons_zero, List.set_cons_succ]
          refine wpAnyH_ready (rs := [1]) (by kernel_rfl) (by simp) ?_
          refine AllReadyH.cons rfl (fun K hK => ?_) AllReadyH.nil
          clear hHeld
          simp only [Act.put, List.getElem_toArray, List.getElem_cons_succ, List.getElem_cons_zero, List.setIfInBounds_toArray, List.set_cons_zero, List.set_cons_succ]
          rw [if_pos (by rfl)]
          obtain ⟨l0, l1, l2, l3, l4, l5⟩ := six k5
          go_simp
          refine hK.out _ _ q5 (fun hHeld => ?_)
          clear hK K
          try simp only [Act.put, List.getElem_toArray, List.getElem_cons_succ, List.getElem_cons_zero, List.setIfInBounds_toArray, List.set_cons_zero, List.set_cons_succ]
          refine wpAnyH_ready (rs := [6]) (by kernel_rfl) (by simp) ?_
          refine AllReadyH.cons rfl (fun K hK => ?_) AllReadyH.nil
          clear hHeld
          simp only [Act.put, List.getElem_toArray, List.getElem_cons_succ, List.getElem_cons_zero, List.setIfInBounds_toArray, List.set_cons_zero, List.set_cons_succ]
          rw [if_pos (by rfl)]
          refine wp_addS (B := w2.heap.size + 1) (n := k) (v := .slice pa k pc) (xs := ((List.range g).map (fun n : Nat => srV b m (n : Int))).take k) (p := p) _ _ (by rfl) (by rfl) (N := w4.heap.size) (by rfl) rfl r4 (by omega) (by omega) ?_
          intro v' w6 t1 t2
          obtain ⟨pa', pc', rfl⟩ := row_slice t1.out
          have hk6 : ∀ q, q < w2.heap.size + 1 → w6.heap[q]? = (w4.alloc (.cells #[.string p] 9)).heap[q]? := fun q hq => t2.out.block q (by simp; omega) (fun e => by have := (r4.lt q e.symm).1; omega)
          have q6 := (hk6 w.heap.size (by omega)).trans q5
          have k6 := (hk6 w2.heap.size (by omega)).trans k5
          refine hK.out _ _ q6 (fun hHeld => ?_)
          clear hK K
          try simp only [Act.put, List.getElem_toArray, List.getElem_cons_succ, List.getElem_cons_zero, List.setIfInBounds_toArray, List.set_cons_zero, List.set_cons_succ]
          refine wpAnyH_take (i := 7) (v := .pointer (some ⟨w2.heap.size, 0, none⟩)) rfl (by kernel_rfl) (by kernel_rfl) (by kernel_rfl) (fun _ _ _ h => h) (Or.inl ⟨by rfl, fun w' hSw => by go_simp⟩) hHeld ?_
          simp only [Act.put, List.getElem_toArray, List.getElem_cons_succ, List.getElem_cons_zero, List.setIfInBounds_toArray, List.set_cons_zero, List.set_cons_succ]
          refine wpAnyH_ready (rs := [8]) (by kernel_rfl) (by simp) ?_
          refine AllReadyH.cons rfl (fun K hK => ?_) AllReadyH.nil
          clear hHeld
          simp only [Act.put, List.getElem_toArray, List.getElem_cons_succ, List.getElem_cons_zero, List.setIfInBounds_toArray, List.set_cons_zero, List.set_cons_succ]
          rw [if_pos (by rfl)]
          obtain ⟨l0, l1, l2, l3, l4, l5⟩ := six k6
          have lf0 := cells_frozen k6 0; have lf1 := cells_frozen k6 1; have lf2 := cells_frozen k6 2; have lf3 := cells_frozen k6 3; have lf4 := cells_frozen k6 4; have lf5 := cells_frozen k6 5
          go_simp
          refine hK.out _ _ ((Below.heap_setCell _ _ _ _ (by show w.heap.size ≠ w2.heap.size; omega)).trans q6) (fun hHeld => ?_)
          clear hK K hHeld
          try simp only [Act.put, List.getElem_toArray, List.getElem_cons_succ, List.getElem_cons_zero, List.setIfInBounds_toArray, List.set_cons_zero, List.set_cons_succ]
          refine wpAnyH_done (by kernel_rfl) ?_ _
          have HN : Hid (CoS w2 (w6.setCell ⟨w2.heap.size, 0, none⟩ (.slice pa' (k + 1) pc')) g wn gr gs gf ((List.range g).map (fun n : Nat => srV b m (n : Int))) (k + 1)) := by
            refine ⟨?_, pa', pc', ?_, cells_set k6 0 _⟩
            · have b5 : Below w2.heap.size w2 (w4.alloc (.cells #[.string p] 9)) := (HC.out.bel.trans (b4.mono (by omega))).alloc (by omega) _
              have b6 : Below w2.heap.size w2 w6 := b5.grown t2.out (by simp; omega) (fun q e => by have := (r4.lt q e).1; omega)
              exact b6.setCell (p := ⟨w2.heap.size, 0, none⟩) (Nat.le_refl _) _
            · rw [hpk.out]
              exact ownsRow_setCell_other t1.out (fun e => by have := (t1.out.lt w2.heap.size e).1; omega) _
          clear t1 t2 hk6 q6 k6 q5 k5 q4 k4 r4 b4 l0 l1 l2 l3 l4 l5 lf0 lf1 lf2 lf3 lf4 lf5
          go_wp2_with fail
          go_roundw
          case rel => exact ⟨k + 1, by omega, by go_num, HN⟩
          case measure => simp [intOf]; omega
    · have e4 : k = g := by omega
      subst e4
      have rr := cells_below HQ.out.2 hbr (by omega)
      obtain ⟨x0, x1, x2, x3, x4, x5⟩ := six rr
      have y0 := cells_frozen rr 0; have y1 := cells_frozen rr 1; have y2 := cells_frozen rr 2; have y3 := cells_frozen rr 3; have y4 := cells_frozen rr 4; have y5 := cells_frozen rr 5
      obtain ⟨d0, d1, d2, d3, d4, d5⟩ := six hbx
      have nD1 : ¬ w2.heap.size = w.heap.size + 1 := by omega
      have nD2 : ¬ w.heap.size + 1 = w2.heap.size := by omega
      go_wp2_with fail
      have hpg : ((List.range k).map (fun n : Nat => srV b m (n : Int))).take k = ((List.range k).map (fun n : Nat => srV b m (n : Int))) := List.take_of_length_le (by simp)
      rw [hpg] at hrow
      have hlp : ((List.range k).map (fun n : Nat => srV b m (n : Int))).length = k := by simp
      have hrow6 := fun a0 a1 a2 a3 a4 a5 => six_far (w := w) hrow (by omega) a0 a1 a2 a3 a4 a5
      have hImg := fun a0 a1 a2 a3 a4 a5 => fresh_img (W := ((((((wr.setCell ⟨w.heap.size + 1, 0, none⟩ a0).setCell ⟨w.heap.size + 1, 1, none⟩ a1).setCell ⟨w.heap.size + 1, 2, none⟩ a2).setCell ⟨w.heap.size + 1, 3, none⟩ a3).setCell ⟨w.heap.size + 1, 4, none⟩ a4).setCell ⟨w.heap.size + 1, 5, none⟩ a5)) HWn.out.1 HWn.out.2 ((heap_six (w := w) a0 a1 a2 a3 a4 a5 gr (by omega)).trans (cells_below HL.out.1 hbr (Array.getElem?_eq_some_iff.1 HL.out.1).1)) ((heap_six (w := w) a0 a1 a2 a3 a4 a5 gs (by omega)).trans (cells_below HL.out.2.1 hbr (Array.getElem?_eq_some_iff.1 HL.out.2.1).1)) ((heap_six (w := w) a0 a1 a2 a3 a4 a5 gf (by omega)).trans (cells_below HL.out.2.2 hbr (Array.getElem?_eq_some_iff.1 HL.out.2.2).1))
      refine bodyPost_ret (v := .tuple #[.agg #[.slice pa k pc, .int .i64 (k : Int), .slice (some ⟨gr, 0, none⟩) wn wn, .slice (some ⟨gs, 0, none⟩) 1 1, .slice (some ⟨gf, 0, none⟩) 1 1, .slice none 0 0], .int .i64 0]) (by simp [results, Tryz.results7, go_sem, x0, x1, x2, x3, x4, x5]) rfl ⟨_, rfl, ⟨_, _, _, _, _, rfl, row_ss (by rw [hlp]; exact hrow6 _ _ _ _ _ _), hImg _ _ _ _ _ _⟩, six_below (HB.out.2.trans (hbr.mono (by omega))) _ _ _ _ _ _⟩
theorem commitOf_is {w : World} {v : Value} {b : List ByteArray} {m : ImgD} (h : Stk w v b m) {B : List ByteArray} {M : ImgD} {E : Int} (hE : ccE b m = E) (hB : (if ccE b m = 0 then pgs b m else []) = B) (hM : (if ccE b m = 0 then freshD m.guest.toNat else imgZ) = M) : Calls Tryz.prog 7 #[v] w (AnsK w B M E) := by
  subst hE hB hM
  obtain ⟨ba, bc, ra, rc, sa, sc, fa, fc, na, nc, rfl, hS, hI⟩ := h.parts
  by_cases hC : scE b m = 0
  · by_cases hn : m.snaps = []
    · have e1 : ccE b m = 0 := by unfold ccE; rw [if_neg (by simpa using hC), if_pos hn]
      have hg := guest_ok (checkE_shape (scE_zero hC).2)
      obtain ⟨g, hgg⟩ : ∃ g : Nat, m.guest = (g : Int) := ⟨m.guest.toNat, by omega⟩
      rw [e1, if_pos rfl, if_pos rfl]
      have e2 : pgs b m = ((List.range g).map (fun n : Nat => srV b m (n : Int))) := by unfold pgs; rw [hgg, Int.toNat_natCast]
      rw [e2, hgg, Int.toNat_natCast]
      rw [hgg] at hI
      exact co_ok ba bc ra rc sa sc fa fc na nc b m g _ w hS hI hC (by rw [hn]; rfl) hgg (by omega) rfl
    · have e1 : ccE b m = 8 := by unfold ccE; rw [if_neg (by simpa using hC), if_neg hn]
      rw [e1, if_neg (by decide), if_neg (by decide)]
      exact co_busy ba bc ra rc sa sc fa fc na nc b m w hS hI hC (by have := List.length_pos_iff.2 hn; simp [this])
  · have e1 : ccE b m = scE b m := by unfold ccE; rw [if_pos hC]
    rw [e1, if_neg hC, if_neg hC]
    exact co_bad ba bc ra rc sa sc fa fc na nc b m w hS hI _ rfl (by simpa using hC)
end Go.Proofs.YtehleeibgkpjmafGreat
/- The image of pair: what is decided of it. -/
namespace Go.Proofs.YtehleeibgkpjmafGreat
open Go.RowKit Go.Shelf
end Go.Proofs.YtehleeibgkpjmafGreat
/- Contract of SameInts. -/
namespace Go.Proofs.YtehleeibgkpjmafGreat
open Go.RowKit
set_option maxRecDepth 20000

theorem same_at (ao bo : Option Addr) (n cap cap' : Nat) (xs : List Int) (w : World) (hn : xs.length = n) (hm : n ≤ 9223372036854775807)
    (hc : ∀ j, j < n → ∃ b off, ao = some ⟨b, off, none⟩ ∧ b < w.heap.size ∧ w.cell? ⟨b, off + j, none⟩ = some (.int .i64 (xs.getD j 0)))
    (hd : ∀ j, j < n → ∃ b off, bo = some ⟨b, off, none⟩ ∧ b < w.heap.size ∧ w.cell? ⟨b, off + j, none⟩ = some (.int .i64 (xs.getD j 0))) :
    Calls Tryz.prog 37 #[.slice ao n cap, .slice bo n cap'] w fun r w' => r = .returned (.bool true) ∧ Below w.heap.size w w' := by
  have HC : Hid (∀ j, j < n → ∃ b off, ao = some ⟨b, off, none⟩ ∧ b < w.heap.size ∧ w.cell? ⟨b, off + j, none⟩ = some (.int .i64 (xs.getD j 0))) := hc
  have HD : Hid (∀ j, j < n → ∃ b off, bo = some ⟨b, off, none⟩ ∧ b < w.heap.size ∧ w.cell? ⟨b, off + j, none⟩ = some (.int .i64 (xs.getD j 0))) := hd
  clear hc hd
  have HN : Hid (xs.length = n) := hn
  clear hn
  go_enter Tryz.func37, Tryz.ntmps37
  go_wp2
  go_loopw [5] (fun i wr => ∃ k : Nat, k ≤ n ∧ i = .int .i64 k ∧ Below w.heap.size w wr) (fun i _ => n - (intOf i).toNat)
  case atStart => exact ⟨0, by omega, rfl, Below.refl _ _⟩
  case round =>
    obtain ⟨k, hk, rfl, hbel⟩ := hrel
    by_cases hlt : k < n
    · obtain ⟨x, hx⟩ : ∃ x, xs.getD k 0 = x := ⟨_, rfl⟩
      obtain ⟨b, off, hao, hl1, hck⟩ := HC.out k hlt
      obtain ⟨b', off', hbo, hl2, hck'⟩ := HD.out k hlt
      rw [hx] at hck hck'
      clear hx
      have g1 : wr.cell? ⟨b, off + k, none⟩ = some (.int .i64 x) := (hbel.cell (p := ⟨b, off + k, none⟩) hl1).trans hck
      have g2 : wr.cell? ⟨b', off' + k, none⟩ = some (.int .i64 x) := (hbel.cell (p := ⟨b', off' + k, none⟩) hl2).trans hck'
      have i1 : (k : Int) < (n : Int) := by omega
      go_wp2
      go_quiet (fail)
      go_wp2
      go_roundw
      case rel => exact ⟨k + 1, by omega, by go_num, below_drewN hbel _⟩
      case measure => simp [intOf]; omega
    · have e4 : k = n := by omega
      subst e4
      go_wp2
      go_ret
      exact ⟨rfl, hbel⟩
theorem same_any {v u : Value} {xs : List Int} {w : World} (h : Sl w v xs) (k : Sl w u xs) :
    Calls Tryz.prog 37 #[v, u] w fun r w' => r = .returned (.bool true) ∧ Below w.heap.size w w' := by
  obtain ⟨ao, cap, rfl⟩ := h.form
  obtain ⟨bo, cap', rfl⟩ := k.form
  obtain ⟨hn, hm, _, hc⟩ := h.cells
  obtain ⟨_, _, _, hd⟩ := k.cells
  exact same_at ao bo _ cap cap' xs w hn hm hc hd

end Go.Proofs.YtehleeibgkpjmafGreat
/- Contract of writesBegun: it answers true. -/
namespace Go.Proofs.YtehleeibgkpjmafGreat
open Go.RowKit Go.Shelf
set_option maxRecDepth 20000

def CAt (W : World) (p : Addr) (v : Value) : Prop := W.cell? p = some v ∧ p.block < W.heap.size
theorem CAt.below {W W' : World} {p : Addr} {v : Value} (h : CAt W p v) (bb : Below W.heap.size W W') : CAt W' p v := ⟨(bb.cell h.2).trans h.1, Nat.lt_of_lt_of_le h.2 bb.size⟩
end Go.Proofs.YtehleeibgkpjmafGreat
/- Contract of stackBegun: it answers true. -/
namespace Go.Proofs.YtehleeibgkpjmafGreat
open Go.RowKit Go.Shelf
set_option maxRecDepth 20000
set_option linter.unusedVariables false

def sbB : List ByteArray := [⟨#[120, 120, 120, 120]⟩, ⟨#[121, 121, 121, 121]⟩, ⟨#[122, 122, 122, 122]⟩]
def sbT : ImgD := ⟨6, [2, 4], [(0, ⟨#[]⟩, []), (1, aaaa, []), (2, ⟨#[]⟩, [1, 0, -1, 1]), (1, bbbb, []), (2, ⟨#[]⟩, [3, 0, 0, 0])], [0, 2, 1, 1, 1], []⟩
def sbC : List ByteArray := [aaaa, ⟨#[121, 121, 121, 121]⟩, ⟨#[0, 0, 0, 0]⟩, aaaa, ⟨#[98, 98, 98, 98]⟩, ⟨#[0, 0, 0, 0]⟩]
def sbW : ImgD := ⟨6, [2, 4], [(0, ⟨#[]⟩, []), (1, aaaa, []), (2, ⟨#[]⟩, [1, 5, -1, 1]), (1, bbbb, []), (2, ⟨#[]⟩, [3, 0, 0, 0]), (1, ⟨#[119, 119, 119, 119]⟩, [])], [0, 2, 1, 1, 1, 1], []⟩
theorem sb_check : scE sbB sbT = 0 := by decide +kernel
theorem sb_e1 : srE sbB sbT 1 = 0 := by decide +kernel
theorem sb_e2 : srE sbB sbT 2 = 0 := by decide +kernel
theorem sb_v1 : srV sbB sbT 1 = ⟨#[121, 121, 121, 121]⟩ := by kernel_rfl
theorem sb_v2 : srV sbB sbT 2 = ⟨#[0, 0, 0, 0]⟩ := by kernel_rfl
theorem sb_ce : ccE sbB sbT = 0 := by decide +kernel
theorem sb_cb : (if ccE sbB sbT = 0 then pgs sbB sbT else []) = sbC := by kernel_rfl
theorem sb_cm : (if ccE sbB sbT = 0 then freshD sbT.guest.toNat else imgZ) = freshD 6 := by kernel_rfl
theorem sb_we : skE sbB sbT 1 ⟨#[119, 119, 119, 119]⟩ = 0 := by decide +kernel
theorem sb_wm : skM sbB sbT 1 ⟨#[119, 119, 119, 119]⟩ = sbW := by kernel_rfl
theorem sb_wb : skB sbB sbT 1 ⟨#[119, 119, 119, 119]⟩ = sbB := by kernel_rfl

theorem Stk.base {w : World} {b : List ByteArray} {m : ImgD} {bv gv r s f n : Value} (h : Stk w (.agg #[bv, gv, r, s, f, n]) b m) : Ss w bv b := by
  obtain ⟨bv', r', s', f', n', e, h1, h2⟩ := h
  simp only [Value.agg.injEq, Array.mk.injEq, List.cons.injEq, and_true] at e
  rw [e.1]; exact h1
set_option maxHeartbeats 200000000 in
theorem stackBegun_any (w : World) : Calls Tryz.prog 8 #[] w fun r w' => r = .returned (.bool true) ∧ Below w.heap.size w w' := by
  go_enter Tryz.func8, Tryz.ntmps8
  go_wp2_with fail
  refine (pair_is _).mono ?_
  rintro e w1 ⟨⟨v, rfl, P⟩, bb⟩
  obtain ⟨ra, rc, sa, sc, fa, fc, na, nc, rfl, h1, h2, h3, h4⟩ := P.parts
  rw [show (pairD 6 [0, 2, 2, 1, 1] [3, 0, 0, 0]).guest = 6 from rfl, show (pairD 6 [0, 2, 2, 1, 1] [3, 0, 0, 0]).root.length = 2 from rfl, show (pairD 6 [0, 2, 2, 1, 1] [3, 0, 0, 0]).slots.length = 5 from rfl, show (pairD 6 [0, 2, 2, 1, 1] [3, 0, 0, 0]).refs.length = 5 from rfl, show (pairD 6 [0, 2, 2, 1, 1] [3, 0, 0, 0]).snaps.length = 1 from rfl]
  go_wp2_with fail
  rw [show (pairD 6 [0, 2, 2, 1, 1] [3, 0, 0, 0]).root.length = 2 from rfl] at h1
  rw [show (pairD 6 [0, 2, 2, 1, 1] [3, 0, 0, 0]).slots.length = 5 from rfl] at h2
  have ba : Below w1.heap.size w1 (w1.alloc (.cells #[.int .i64 6, .slice ra 2 rc, .slice sa 5 sc, .slice (some ⟨w1.heap.size + 1, 0, none⟩) 5 5, .slice none 0 0] 27)) := (Below.refl _ _).alloc (Nat.le_refl _) _
  have bc : Below ((w1.alloc (.cells #[.int .i64 6, .slice ra 2 rc, .slice sa 5 sc, .slice (some ⟨w1.heap.size + 1, 0, none⟩) 5 5, .slice none 0 0] 27)).alloc (.cells #[.int .i64 0, .int .i64 2, .int .i64 1, .int .i64 1, .int .i64 1] 3)).heap.size ((w1.alloc (.cells #[.int .i64 6, .slice ra 2 rc, .slice sa 5 sc, .slice (some ⟨w1.heap.size + 1, 0, none⟩) 5 5, .slice none 0 0] 27)).alloc (.cells #[.int .i64 0, .int .i64 2, .int .i64 1, .int .i64 1, .int .i64 1] 3)) (((w1.alloc (.cells #[.int .i64 6, .slice ra 2 rc, .slice sa 5 sc, .slice (some ⟨w1.heap.size + 1, 0, none⟩) 5 5, .slice none 0 0] 27)).alloc (.cells #[.int .i64 0, .int .i64 2, .int .i64 1, .int .i64 1, .int .i64 1] 3)).alloc (.cells #[.string ⟨#[120, 120, 120, 120]⟩, .string ⟨#[121, 121, 121, 121]⟩, .string ⟨#[122, 122, 122, 122]⟩] 9)) := (Below.refl _ _).alloc (Nat.le_refl _) _
  have bd : Below (((w1.alloc (.cells #[.int .i64 6, .slice ra 2 rc, .slice sa 5 sc, .slice (some ⟨w1.heap.size + 1, 0, none⟩) 5 5, .slice none 0 0] 27)).alloc (.cells #[.int .i64 0, .int .i64 2, .int .i64 1, .int .i64 1, .int .i64 1] 3)).alloc (.cells #[.string ⟨#[120, 120, 120, 120]⟩, .string ⟨#[121, 121, 121, 121]⟩, .string ⟨#[122, 122, 122, 122]⟩] 9)).heap.size (((w1.alloc (.cells #[.int .i64 6, .slice ra 2 rc, .slice sa 5 sc, .slice (some ⟨w1.heap.size + 1, 0, none⟩) 5 5, .slice none 0 0] 27)).alloc (.cells #[.int .i64 0, .int .i64 2, .int .i64 1, .int .i64 1, .int .i64 1] 3)).alloc (.cells #[.string ⟨#[120, 120, 120, 120]⟩, .string ⟨#[121, 121, 121, 121]⟩, .string ⟨#[122, 122, 122, 122]⟩] 9)) ((((w1.alloc (.cells #[.int .i64 6, .slice ra 2 rc, .slice sa 5 sc, .slice (some ⟨w1.heap.size + 1, 0, none⟩) 5 5, .slice none 0 0] 27)).alloc (.cells #[.int .i64 0, .int .i64 2, .int .i64 1, .int .i64 1, .int .i64 1] 3)).alloc (.cells #[.string ⟨#[120, 120, 120, 120]⟩, .string ⟨#[121, 121, 121, 121]⟩, .string ⟨#[122, 122, 122, 122]⟩] 9)).alloc (.cells #[.slice (some ⟨w1.heap.size + 1 + 1, 0, none⟩) 3 3, .int .i64 6, .slice ra 2 rc, .slice sa 5 sc, .slice (some ⟨w1.heap.size + 1, 0, none⟩) 5 5, .slice none 0 0] 29)) := (Below.refl _ _).alloc (Nat.le_refl _) _
  have bwb : Below w1.heap.size w1 ((w1.alloc (.cells #[.int .i64 6, .slice ra 2 rc, .slice sa 5 sc, .slice (some ⟨w1.heap.size + 1, 0, none⟩) 5 5, .slice none 0 0] 27)).alloc (.cells #[.int .i64 0, .int .i64 2, .int .i64 1, .int .i64 1, .int .i64 1] 3)) := ba.alloc (by simp) _
  have bwc : Below w1.heap.size w1 (((w1.alloc (.cells #[.int .i64 6, .slice ra 2 rc, .slice sa 5 sc, .slice (some ⟨w1.heap.size + 1, 0, none⟩) 5 5, .slice none 0 0] 27)).alloc (.cells #[.int .i64 0, .int .i64 2, .int .i64 1, .int .i64 1, .int .i64 1] 3)).alloc (.cells #[.string ⟨#[120, 120, 120, 120]⟩, .string ⟨#[121, 121, 121, 121]⟩, .string ⟨#[122, 122, 122, 122]⟩] 9)) := bwb.alloc (by simp <;> omega) _
  have bwd : Below w1.heap.size w1 ((((w1.alloc (.cells #[.int .i64 6, .slice ra 2 rc, .slice sa 5 sc, .slice (some ⟨w1.heap.size + 1, 0, none⟩) 5 5, .slice none 0 0] 27)).alloc (.cells #[.int .i64 0, .int .i64 2, .int .i64 1, .int .i64 1, .int .i64 1] 3)).alloc (.cells #[.string ⟨#[120, 120, 120, 120]⟩, .string ⟨#[121, 121, 121, 121]⟩, .string ⟨#[122, 122, 122, 122]⟩] 9)).alloc (.cells #[.slice (some ⟨w1.heap.size + 1 + 1, 0, none⟩) 3 3, .int .i64 6, .slice ra 2 rc, .slice sa 5 sc, .slice (some ⟨w1.heap.size + 1, 0, none⟩) 5 5, .slice none 0 0] 29)) := bwc.alloc (by simp <;> omega) _
  have hl := Sl_new (w1.alloc (.cells #[.int .i64 6, .slice ra 2 rc, .slice sa 5 sc, .slice (some ⟨w1.heap.size + 1, 0, none⟩) 5 5, .slice none 0 0] 27)) [0, 2, 1, 1, 1] 5 rfl (by decide)
  rw [show (w1.alloc (.cells #[.int .i64 6, .slice ra 2 rc, .slice sa 5 sc, .slice (some ⟨w1.heap.size + 1, 0, none⟩) 5 5, .slice none 0 0] 27)).heap.size = w1.heap.size + 1 by simp] at hl
  have hl : Sl ((w1.alloc (.cells #[.int .i64 6, .slice ra 2 rc, .slice sa 5 sc, .slice (some ⟨w1.heap.size + 1, 0, none⟩) 5 5, .slice none 0 0] 27)).alloc (.cells #[.int .i64 0, .int .i64 2, .int .i64 1, .int .i64 1, .int .i64 1] 3)) (.slice (some ⟨w1.heap.size + 1, 0, none⟩) 5 5) [0, 2, 1, 1, 1] := hl
  have hst := Ss_new ((w1.alloc (.cells #[.int .i64 6, .slice ra 2 rc, .slice sa 5 sc, .slice (some ⟨w1.heap.size + 1, 0, none⟩) 5 5, .slice none 0 0] 27)).alloc (.cells #[.int .i64 0, .int .i64 2, .int .i64 1, .int .i64 1, .int .i64 1] 3)) sbB 3 rfl (by decide)
  rw [show ((w1.alloc (.cells #[.int .i64 6, .slice ra 2 rc, .slice sa 5 sc, .slice (some ⟨w1.heap.size + 1, 0, none⟩) 5 5, .slice none 0 0] 27)).alloc (.cells #[.int .i64 0, .int .i64 2, .int .i64 1, .int .i64 1, .int .i64 1] 3)).heap.size = w1.heap.size + 1 + 1 by simp] at hst
  have hst : Ss (((w1.alloc (.cells #[.int .i64 6, .slice ra 2 rc, .slice sa 5 sc, .slice (some ⟨w1.heap.size + 1, 0, none⟩) 5 5, .slice none 0 0] 27)).alloc (.cells #[.int .i64 0, .int .i64 2, .int .i64 1, .int .i64 1, .int .i64 1] 3)).alloc (.cells #[.string ⟨#[120, 120, 120, 120]⟩, .string ⟨#[121, 121, 121, 121]⟩, .string ⟨#[122, 122, 122, 122]⟩] 9)) (.slice (some ⟨w1.heap.size + 1 + 1, 0, none⟩) 3 3) sbB := hst
  have K_s : Stk ((((w1.alloc (.cells #[.int .i64 6, .slice ra 2 rc, .slice sa 5 sc, .slice (some ⟨w1.heap.size + 1, 0, none⟩) 5 5, .slice none 0 0] 27)).alloc (.cells #[.int .i64 0, .int .i64 2, .int .i64 1, .int .i64 1, .int .i64 1] 3)).alloc (.cells #[.string ⟨#[120, 120, 120, 120]⟩, .string ⟨#[121, 121, 121, 121]⟩, .string ⟨#[122, 122, 122, 122]⟩] 9)).alloc (.cells #[.slice (some ⟨w1.heap.size + 1 + 1, 0, none⟩) 3 3, .int .i64 6, .slice ra 2 rc, .slice sa 5 sc, .slice (some ⟨w1.heap.size + 1, 0, none⟩) 5 5, .slice none 0 0] 29)) (.agg #[.slice (some ⟨w1.heap.size + 1 + 1, 0, none⟩) 3 3, .int .i64 6, .slice ra 2 rc, .slice sa 5 sc, .slice (some ⟨w1.heap.size + 1, 0, none⟩) 5 5, .slice none 0 0]) sbB sbT := ⟨_, _, _, _, _, rfl, hst.below bd, ⟨_, _, _, _, rfl, h1.below bwd, h2.below bwd, (hl.below bc).below bd, (OI.zero ((((w1.alloc (.cells #[.int .i64 6, .slice ra 2 rc, .slice sa 5 sc, .slice (some ⟨w1.heap.size + 1, 0, none⟩) 5 5, .slice none 0 0] 27)).alloc (.cells #[.int .i64 0, .int .i64 2, .int .i64 1, .int .i64 1, .int .i64 1] 3)).alloc (.cells #[.string ⟨#[120, 120, 120, 120]⟩, .string ⟨#[121, 121, 121, 121]⟩, .string ⟨#[122, 122, 122, 122]⟩] 9)).alloc (.cells #[.slice (some ⟨w1.heap.size + 1 + 1, 0, none⟩) 3 3, .int .i64 6, .slice ra 2 rc, .slice sa 5 sc, .slice (some ⟨w1.heap.size + 1, 0, none⟩) 5 5, .slice none 0 0] 29)) 0).img.four.2.2.2⟩⟩
  have mb_s : ((((w1.alloc (.cells #[.int .i64 6, .slice ra 2 rc, .slice sa 5 sc, .slice (some ⟨w1.heap.size + 1, 0, none⟩) 5 5, .slice none 0 0] 27)).alloc (.cells #[.int .i64 0, .int .i64 2, .int .i64 1, .int .i64 1, .int .i64 1] 3)).alloc (.cells #[.string ⟨#[120, 120, 120, 120]⟩, .string ⟨#[121, 121, 121, 121]⟩, .string ⟨#[122, 122, 122, 122]⟩] 9)).alloc (.cells #[.slice (some ⟨w1.heap.size + 1 + 1, 0, none⟩) 3 3, .int .i64 6, .slice ra 2 rc, .slice sa 5 sc, .slice (some ⟨w1.heap.size + 1, 0, none⟩) 5 5, .slice none 0 0] 29)).heap[w1.heap.size + 1 + 1 + 1]? = some (.cells #[.slice (some ⟨w1.heap.size + 1 + 1, 0, none⟩) 3 3, .int .i64 6, .slice ra 2 rc, .slice sa 5 sc, .slice (some ⟨w1.heap.size + 1, 0, none⟩) 5 5, .slice none 0 0] 29) := by have := World.alloc_heap_new (((w1.alloc (.cells #[.int .i64 6, .slice ra 2 rc, .slice sa 5 sc, .slice (some ⟨w1.heap.size + 1, 0, none⟩) 5 5, .slice none 0 0] 27)).alloc (.cells #[.int .i64 0, .int .i64 2, .int .i64 1, .int .i64 1, .int .i64 1] 3)).alloc (.cells #[.string ⟨#[120, 120, 120, 120]⟩, .string ⟨#[121, 121, 121, 121]⟩, .string ⟨#[122, 122, 122, 122]⟩] 9)) (.cells #[.slice (some ⟨w1.heap.size + 1 + 1, 0, none⟩) 3 3, .int .i64 6, .slice ra 2 rc, .slice sa 5 sc, .slice (some ⟨w1.heap.size + 1, 0, none⟩) 5 5, .slice none 0 0] 29); simpa using this
  have hB : Below w.heap.size w ((((w1.alloc (.cells #[.int .i64 6, .slice ra 2 rc, .slice sa 5 sc, .slice (some ⟨w1.heap.size + 1, 0, none⟩) 5 5, .slice none 0 0] 27)).alloc (.cells #[.int .i64 0, .int .i64 2, .int .i64 1, .int .i64 1, .int .i64 1] 3)).alloc (.cells #[.string ⟨#[120, 120, 120, 120]⟩, .string ⟨#[121, 121, 121, 121]⟩, .string ⟨#[122, 122, 122, 122]⟩] 9)).alloc (.cells #[.slice (some ⟨w1.heap.size + 1 + 1, 0, none⟩) 3 3, .int .i64 6, .slice ra 2 rc, .slice sa 5 sc, .slice (some ⟨w1.heap.size + 1, 0, none⟩) 5 5, .slice none 0 0] 29)) := Below.on bb bwd
  clear P h1 h2 h3 h4 ba bc bd bwb bwc bwd hl hst bb
  obtain ⟨W0, hW0⟩ : ∃ X, ((((w1.alloc (.cells #[.int .i64 6, .slice ra 2 rc, .slice sa 5 sc, .slice (some ⟨w1.heap.size + 1, 0, none⟩) 5 5, .slice none 0 0] 27)).alloc (.cells #[.int .i64 0, .int .i64 2, .int .i64 1, .int .i64 1, .int .i64 1] 3)).alloc (.cells #[.string ⟨#[120, 120, 120, 120]⟩, .string ⟨#[121, 121, 121, 121]⟩, .string ⟨#[122, 122, 122, 122]⟩] 9)).alloc (.cells #[.slice (some ⟨w1.heap.size + 1 + 1, 0, none⟩) 3 3, .int .i64 6, .slice ra 2 rc, .slice sa 5 sc, .slice (some ⟨w1.heap.size + 1, 0, none⟩) 5 5, .slice none 0 0] 29)) = X := ⟨_, rfl⟩
  rw [hW0] at K_s mb_s hB ⊢
  clear hW0
  refine (sk_read K_s 1 sb_e1 sb_v1).mono ?_
  rintro e w2 ⟨rfl, bb⟩
  replace mb_s := cells_below mb_s bb (Array.getElem?_eq_some_iff.1 mb_s).1
  replace hB := Below.on hB bb
  replace K_s := K_s.below bb
  clear bb
  obtain ⟨s0, s1, s2, s3, s4, s5⟩ := six mb_s
  have hh_mb_s := Hid_mkW mb_s
  have hh_K_s := Hid_mkW K_s
  have hh_hB := Hid_mkW hB
  clear mb_s K_s hB
  go_wp2_with fail
  clear s0 s1 s2 s3 s4 s5
  have mb_s := hh_mb_s.out
  have K_s := hh_K_s.out
  have hB := hh_hB.out
  clear hh_mb_s hh_K_s hh_hB
  refine (sk_read K_s 2 sb_e2 sb_v2).mono ?_
  rintro e w3 ⟨rfl, bb⟩
  replace mb_s := cells_below mb_s bb (Array.getElem?_eq_some_iff.1 mb_s).1
  replace hB := Below.on hB bb
  replace K_s := K_s.below bb
  clear bb
  obtain ⟨s0, s1, s2, s3, s4, s5⟩ := six mb_s
  have hh_mb_s := Hid_mkW mb_s
  have hh_K_s := Hid_mkW K_s
  have hh_hB := Hid_mkW hB
  clear mb_s K_s hB
  go_wp2_with fail
  clear s0 s1 s2 s3 s4 s5
  have mb_s := hh_mb_s.out
  have K_s := hh_K_s.out
  have hB := hh_hB.out
  clear hh_mb_s hh_K_s hh_hB
  refine (sk_commit K_s sb_ce sb_cb sb_cm).mono ?_
  rintro e w4 ⟨v, rfl, K_c, bb⟩
  obtain ⟨c_b, c_bc, c_r, c_rc, c_s, c_sc, c_f, c_fc, c_n, c_nc, rfl, hs_, hi_⟩ := K_c.parts
  clear hs_ hi_
  try dsimp only
  rw [show sbC.length = 6 from rfl, show (freshD 6).guest = 6 from rfl, show (freshD 6).root.length = 2 from rfl, show (freshD 6).slots.length = 1 from rfl, show (freshD 6).refs.length = 1 from rfl, show (freshD 6).snaps.length = 0 from rfl] at K_c ⊢
  replace mb_s := cells_below mb_s bb (Array.getElem?_eq_some_iff.1 mb_s).1
  replace hB := Below.on hB bb
  replace K_s := K_s.below bb
  clear bb
  replace mb_s := cells_alloc mb_s (.cells #[.slice c_b 6 c_bc, .int .i64 6, .slice c_r 2 c_rc, .slice c_s 1 c_sc, .slice c_f 1 c_fc, .slice c_n 0 c_nc] 29)
  have ba : Below w4.heap.size w4 (w4.alloc (.cells #[.slice c_b 6 c_bc, .int .i64 6, .slice c_r 2 c_rc, .slice c_s 1 c_sc, .slice c_f 1 c_fc, .slice c_n 0 c_nc] 29)) := (Below.refl _ _).alloc (Nat.le_refl _) _
  replace hB := Below.on hB ba
  replace K_s := K_s.below ba
  replace K_c := K_c.below ba
  clear ba
  have mb_c : (w4.alloc (.cells #[.slice c_b 6 c_bc, .int .i64 6, .slice c_r 2 c_rc, .slice c_s 1 c_sc, .slice c_f 1 c_fc, .slice c_n 0 c_nc] 29)).heap[w4.heap.size]? = some (.cells #[.slice c_b 6 c_bc, .int .i64 6, .slice c_r 2 c_rc, .slice c_s 1 c_sc, .slice c_f 1 c_fc, .slice c_n 0 c_nc] 29) := World.alloc_heap_new _ _
  obtain ⟨s0, s1, s2, s3, s4, s5⟩ := six mb_s
  have hh_mb_s := Hid_mkW mb_s
  have hh_mb_c := Hid_mkW mb_c
  have hh_K_s := Hid_mkW K_s
  have hh_K_c := Hid_mkW K_c
  have hh_hB := Hid_mkW hB
  clear mb_s mb_c K_s K_c hB
  go_wp2_with fail
  clear s0 s1 s2 s3 s4 s5
  have mb_s := hh_mb_s.out
  have mb_c := hh_mb_c.out
  have K_s := hh_K_s.out
  have K_c := hh_K_c.out
  have hB := hh_hB.out
  clear hh_mb_s hh_mb_c hh_K_s hh_K_c hh_hB
  refine (sk_write K_s 1 ⟨#[119, 119, 119, 119]⟩ sb_we sb_wm sb_wb).mono ?_
  rintro e w5 ⟨v, rfl, K_x, bb⟩
  obtain ⟨x_b, x_bc, x_r, x_rc, x_s, x_sc, x_f, x_fc, x_n, x_nc, rfl, hs_, hi_⟩ := K_x.parts
  clear hs_ hi_
  try dsimp only
  rw [show sbB.length = 3 from rfl, show sbW.guest = 6 from rfl, show sbW.root.length = 2 from rfl, show sbW.slots.length = 6 from rfl, show sbW.refs.length = 6 from rfl, show sbW.snaps.length = 0 from rfl] at K_x ⊢
  replace mb_s := cells_below mb_s bb (Array.getElem?_eq_some_iff.1 mb_s).1
  replace mb_c := cells_below mb_c bb (Array.getElem?_eq_some_iff.1 mb_c).1
  replace hB := Below.on hB bb
  replace K_s := K_s.below bb
  replace K_c := K_c.below bb
  clear bb
  replace mb_s := cells_alloc mb_s (.cells #[.slice x_b 3 x_bc, .int .i64 6, .slice x_r 2 x_rc, .slice x_s 6 x_sc, .slice x_f 6 x_fc, .slice x_n 0 x_nc] 29)
  replace mb_c := cells_alloc mb_c (.cells #[.slice x_b 3 x_bc, .int .i64 6, .slice x_r 2 x_rc, .slice x_s 6 x_sc, .slice x_f 6 x_fc, .slice x_n 0 x_nc] 29)
  have ba : Below w5.heap.size w5 (w5.alloc (.cells #[.slice x_b 3 x_bc, .int .i64 6, .slice x_r 2 x_rc, .slice x_s 6 x_sc, .slice x_f 6 x_fc, .slice x_n 0 x_nc] 29)) := (Below.refl _ _).alloc (Nat.le_refl _) _
  replace hB := Below.on hB ba
  replace K_s := K_s.below ba
  replace K_c := K_c.below ba
  replace K_x := K_x.below ba
  clear ba
  have mb_x : (w5.alloc (.cells #[.slice x_b 3 x_bc, .int .i64 6, .slice x_r 2 x_rc, .slice x_s 6 x_sc, .slice x_f 6 x_fc, .slice x_n 0 x_nc] 29)).heap[w5.heap.size]? = some (.cells #[.slice x_b 3 x_bc, .int .i64 6, .slice x_r 2 x_rc, .slice x_s 6 x_sc, .slice x_f 6 x_fc, .slice x_n 0 x_nc] 29) := World.alloc_heap_new _ _
  obtain ⟨pc, oc, hp_, lc, hc_⟩ := (Stk.base K_c).at (by decide)
  subst hp_
  have cc1 : CAt (w5.alloc (.cells #[.slice x_b 3 x_bc, .int .i64 6, .slice x_r 2 x_rc, .slice x_s 6 x_sc, .slice x_f 6 x_fc, .slice x_n 0 x_nc] 29)) ⟨pc, oc + 1, none⟩ (.string ⟨#[121, 121, 121, 121]⟩) := ⟨hc_ 1 (by decide), lc⟩
  have cc4 : CAt (w5.alloc (.cells #[.slice x_b 3 x_bc, .int .i64 6, .slice x_r 2 x_rc, .slice x_s 6 x_sc, .slice x_f 6 x_fc, .slice x_n 0 x_nc] 29)) ⟨pc, oc + 4, none⟩ (.string ⟨#[98, 98, 98, 98]⟩) := ⟨hc_ 4 (by decide), lc⟩
  clear hc_
  obtain ⟨px, ox, hp_, lx, hc_⟩ := (Stk.base K_x).at (by decide)
  subst hp_
  have cx1 : CAt (w5.alloc (.cells #[.slice (some ⟨px, ox, none⟩) 3 x_bc, .int .i64 6, .slice x_r 2 x_rc, .slice x_s 6 x_sc, .slice x_f 6 x_fc, .slice x_n 0 x_nc] 29)) ⟨px, ox + 1, none⟩ (.string ⟨#[121, 121, 121, 121]⟩) := ⟨hc_ 1 (by decide), lx⟩
  clear hc_
  clear K_c
  clear K_x
  obtain ⟨s0, s1, s2, s3, s4, s5⟩ := six mb_s
  have q_cc1 := cc1.1
  have q_cc4 := cc4.1
  have q_cx1 := cx1.1
  have hh_mb_s := Hid_mkW mb_s
  have hh_mb_c := Hid_mkW mb_c
  have hh_mb_x := Hid_mkW mb_x
  have hh_K_s := Hid_mkW K_s
  have hh_cc1 := Hid_mkW cc1
  have hh_cc4 := Hid_mkW cc4
  have hh_cx1 := Hid_mkW cx1
  have hh_hB := Hid_mkW hB
  clear mb_s mb_c mb_x K_s cc1 cc4 cx1 hB
  go_wp2_with fail
  clear s0 s1 s2 s3 s4 s5 q_cc1 q_cc4 q_cx1
  have mb_s := hh_mb_s.out
  have mb_c := hh_mb_c.out
  have mb_x := hh_mb_x.out
  have K_s := hh_K_s.out
  have cc1 := hh_cc1.out
  have cc4 := hh_cc4.out
  have cx1 := hh_cx1.out
  have hB := hh_hB.out
  clear hh_mb_s hh_mb_c hh_mb_x hh_K_s hh_cc1 hh_cc4 hh_cx1 hh_hB
  refine (sk_check K_s sb_check).mono ?_
  rintro e w6 ⟨rfl, bb⟩
  replace mb_s := cells_below mb_s bb (Array.getElem?_eq_some_iff.1 mb_s).1
  replace mb_c := cells_below mb_c bb (Array.getElem?_eq_some_iff.1 mb_c).1
  replace mb_x := cells_below mb_x bb (Array.getElem?_eq_some_iff.1 mb_x).1
  replace hB := Below.on hB bb
  replace K_s := K_s.below bb
  replace cc1 := cc1.below bb
  replace cc4 := cc4.below bb
  replace cx1 := cx1.below bb
  clear bb
  clear mb_s
  clear K_s
  obtain ⟨c0, c1, c2, c3, c4, c5⟩ := six mb_c
  obtain ⟨x0, x1, x2, x3, x4, x5⟩ := six mb_x
  have q_cc1 := cc1.1
  have q_cc4 := cc4.1
  have q_cx1 := cx1.1
  have hh_mb_c := Hid_mkW mb_c
  have hh_mb_x := Hid_mkW mb_x
  have hh_cc1 := Hid_mkW cc1
  have hh_cc4 := Hid_mkW cc4
  have hh_cx1 := Hid_mkW cx1
  have hh_hB := Hid_mkW hB
  clear mb_c mb_x cc1 cc4 cx1 hB
  go_wp2_with fail
  go_ret
  have hB := hh_hB.out
  exact ⟨rfl, hB⟩
end Go.Proofs.YtehleeibgkpjmafGreat
/- Contract of SameImages: of one image, wherever it lies twice. -/
namespace Go.Proofs.YtehleeibgkpjmafGreat
open Go.RowKit Go.Shelf
set_option maxRecDepth 20000

set_option maxHeartbeats 4000000 in
theorem sameI_at (m : ImgD) (ra : Option Addr) (rc : Nat) (sa : Option Addr) (sc : Nat) (fa : Option Addr) (fc : Nat) (na : Option Addr) (nc : Nat) (rb : Option Addr) (rd : Nat) (sb : Option Addr) (sd : Nat) (fb : Option Addr) (fd : Nat) (nb : Option Addr) (nd : Nat) (w : World)
    (h1 : Sl w (.slice ra m.root.length rc) m.root) (h2 : Slots w (.slice sa m.slots.length sc) m.slots) (h3 : Sl w (.slice fa m.refs.length fc) m.refs) (h4 : Snaps w (.slice na m.snaps.length nc) m.snaps)
    (k1 : Sl w (.slice rb m.root.length rd) m.root) (k2 : Slots w (.slice sb m.slots.length sd) m.slots) (k3 : Sl w (.slice fb m.refs.length fd) m.refs) (k4 : Snaps w (.slice nb m.snaps.length nd) m.snaps) :
    Calls Tryz.prog 15 #[.agg #[.int .i64 m.guest, .slice ra m.root.length rc, .slice sa m.slots.length sc, .slice fa m.refs.length fc, .slice na m.snaps.length nc], .agg #[.int .i64 m.guest, .slice rb m.root.length rd, .slice sb m.slots.length sd, .slice fb m.refs.length fd, .slice nb m.snaps.length nd]] w fun r w' => r = .returned (.bool true) ∧ Below w.heap.size w w' := by
  have b0 : Below w.heap.size w ((w.alloc (.cells #[.int .i64 m.guest, .slice ra m.root.length rc, .slice sa m.slots.length sc, .slice fa m.refs.length fc, .slice na m.snaps.length nc] 27)).alloc (.cells #[.int .i64 m.guest, .slice rb m.root.length rd, .slice sb m.slots.length sd, .slice fb m.refs.length fd, .slice nb m.snaps.length nd] 27)) := ((Below.refl _ _).alloc (Nat.le_refl _) _).alloc (by simp) _
  have m0 : ((w.alloc (.cells #[.int .i64 m.guest, .slice ra m.root.length rc, .slice sa m.slots.length sc, .slice fa m.refs.length fc, .slice na m.snaps.length nc] 27)).alloc (.cells #[.int .i64 m.guest, .slice rb m.root.length rd, .slice sb m.slots.length sd, .slice fb m.refs.length fd, .slice nb m.snaps.length nd] 27)).heap[w.heap.size]? = some (.cells #[.int .i64 m.guest, .slice ra m.root.length rc, .slice sa m.slots.length sc, .slice fa m.refs.length fc, .slice na m.snaps.length nc] 27) := cells_alloc (World.alloc_heap_new _ _) _
  have m1 : ((w.alloc (.cells #[.int .i64 m.guest, .slice ra m.root.length rc, .slice sa m.slots.length sc, .slice fa m.refs.length fc, .slice na m.snaps.length nc] 27)).alloc (.cells #[.int .i64 m.guest, .slice rb m.root.length rd, .slice sb m.slots.length sd, .slice fb m.refs.length fd, .slice nb m.snaps.length nd] 27)).heap[w.heap.size + 1]? = some (.cells #[.int .i64 m.guest, .slice rb m.root.length rd, .slice sb m.slots.length sd, .slice fb m.refs.length fd, .slice nb m.snaps.length nd] 27) := by have := World.alloc_heap_new (w.alloc (.cells #[.int .i64 m.guest, .slice ra m.root.length rc, .slice sa m.slots.length sc, .slice fa m.refs.length fc, .slice na m.snaps.length nc] 27)) (.cells #[.int .i64 m.guest, .slice rb m.root.length rd, .slice sb m.slots.length sd, .slice fb m.refs.length fd, .slice nb m.snaps.length nd] 27); simpa using this
  obtain ⟨c0, c1, c2, c3, c4⟩ := five m0
  obtain ⟨d0, d1, d2, d3, d4⟩ := five m1
  have HR := same_any (h1.below b0) (k1.below b0)
  have HF := fun W (hW : Below w.heap.size w W) => same_any (h3.below hW) (k3.below hW)
  have HS : Hid (Slots w (.slice sa m.slots.length sc) m.slots ∧ Slots w (.slice sb m.slots.length sd) m.slots ∧ Snaps w (.slice na m.snaps.length nc) m.snaps ∧ Snaps w (.slice nb m.snaps.length nd) m.snaps) := ⟨h2, k2, h4, k4⟩
  have HL : Hid (m.slots.length ≤ 9223372036854775807 ∧ m.snaps.length ≤ 9223372036854775807) := ⟨h2.small, h4.small⟩
  clear h1 h2 h3 h4 k1 k2 k3 k4
  go_enter Tryz.func15, Tryz.ntmps15
  go_wp2_with (first
    | (go_at_call 37; refine (HF _ bw1).mono ?_; rintro e w2 ⟨rfl, b2⟩; have m4 := cells_below m2 b2 (Array.getElem?_eq_some_iff.1 m2).1; have m5 := cells_below m3 b2 (Array.getElem?_eq_some_iff.1 m3).1; obtain ⟨g0, g1, g2, g3, g4⟩ := five m4; obtain ⟨i0, i1, i2, i3, i4⟩ := five m5; have bw2 := Below.on bw1 b2)
    | (go_at_call 37; refine HR.mono ?_; rintro e w1 ⟨rfl, b1⟩; have m2 := cells_below m0 b1 (by simp <;> omega); have m3 := cells_below m1 b1 (by simp <;> omega); obtain ⟨e0, e1, e2, e3, e4⟩ := five m2; obtain ⟨f0, f1, f2, f3, f4⟩ := five m3; have bw1 := Below.on b0 b1))
  have HB : Hid (w2.heap[w.heap.size]? = some (.cells #[.int .i64 m.guest, .slice ra m.root.length rc, .slice sa m.slots.length sc, .slice fa m.refs.length fc, .slice na m.snaps.length nc] 27) ∧ w2.heap[w.heap.size + 1]? = some (.cells #[.int .i64 m.guest, .slice rb m.root.length rd, .slice sb m.slots.length sd, .slice fb m.refs.length fd, .slice nb m.snaps.length nd] 27) ∧ Below w.heap.size w w2) := ⟨m4, m5, bw2⟩
  clear c0 c1 c2 c3 c4 d0 d1 d2 d3 d4 e0 e1 e2 e3 e4 f0 f1 f2 f3 f4 g0 g1 g2 g3 g4 i0 i1 i2 i3 i4 m0 m1 m2 m3 m4 m5 b0 b1 b2 bw1 bw2 HR HF
  go_loopw [5] (fun i wr => ∃ k : Nat, k ≤ m.slots.length ∧ i = .int .i64 k ∧ Hid (wr.heap[w.heap.size]? = some (.cells #[.int .i64 m.guest, .slice ra m.root.length rc, .slice sa m.slots.length sc, .slice fa m.refs.length fc, .slice na m.snaps.length nc] 27) ∧ wr.heap[w.heap.size + 1]? = some (.cells #[.int .i64 m.guest, .slice rb m.root.length rd, .slice sb m.slots.length sd, .slice fb m.refs.length fd, .slice nb m.snaps.length nd] 27) ∧ Below w.heap.size w wr)) (fun i _ => m.slots.length - (intOf i).toNat)
  case atStart => exact ⟨0, Nat.zero_le _, rfl, HB⟩
  case round =>
    obtain ⟨k, hk, rfl, HC⟩ := hrel
    obtain ⟨mA, mB, hb⟩ := HC.out
    obtain ⟨c0, c1, c2, c3, c4⟩ := five mA
    obtain ⟨d0, d1, d2, d3, d4⟩ := five mB
    have hL := HL.out.1
    by_cases hlk : k < m.slots.length
    · have hki : (k : Int) < (m.slots.length : Int) := by omega
      have hL1 : (k : Int) + 1 ≤ 9223372036854775807 := by omega
      obtain ⟨pb, po, pc, e, _, hpl, hps⟩ := HS.out.1.open (by omega)
      simp at e
      obtain ⟨rfl, rfl⟩ := e
      obtain ⟨qb, qo, qc, e, _, hql, hqs⟩ := HS.out.2.1.open (by omega)
      simp at e
      obtain ⟨rfl, rfl⟩ := e
      obtain ⟨s, hs⟩ : ∃ s, m.slots[k] = s := ⟨_, rfl⟩
      obtain ⟨kk, dd, tt⟩ := s
      obtain ⟨tv, p0, p1, p2, ps⟩ := hps k hlk
      obtain ⟨uv, q0, q1, q2, qs⟩ := hqs k hlk
      rw [hs] at p0 p1 ps q0 q1 qs
      obtain ⟨ta, tc, rfl⟩ := ps.form
      obtain ⟨ua, uc, rfl⟩ := qs.form
      have p0 : wr.cell? ⟨pb, po + k * 3, none⟩ = some (.int .i64 kk) := (hb.cell (p := ⟨pb, po + k * 3, none⟩) hpl).trans p0
      have p1 : wr.cell? ⟨pb, po + k * 3 + 1, none⟩ = some (.string dd) := (hb.cell (p := ⟨pb, po + k * 3 + 1, none⟩) hpl).trans p1
      have p2 : wr.cell? ⟨pb, po + k * 3 + 1 + 1, none⟩ = some (.slice ta tt.length tc) := (hb.cell (p := ⟨pb, po + k * 3 + 1 + 1, none⟩) hpl).trans p2
      have q0 : wr.cell? ⟨qb, qo + k * 3, none⟩ = some (.int .i64 kk) := (hb.cell (p := ⟨qb, qo + k * 3, none⟩) hql).trans q0
      have q1 : wr.cell? ⟨qb, qo + k * 3 + 1, none⟩ = some (.string dd) := (hb.cell (p := ⟨qb, qo + k * 3 + 1, none⟩) hql).trans q1
      have q2 : wr.cell? ⟨qb, qo + k * 3 + 1 + 1, none⟩ = some (.slice ua tt.length uc) := (hb.cell (p := ⟨qb, qo + k * 3 + 1 + 1, none⟩) hql).trans q2
      have hcall := same_any (w := wr.drew) (ps.below (to_drew hb)) (qs.below (to_drew hb))
      have hpw : pb < wr.heap.size := Nat.lt_of_lt_of_le hpl hb.size
      have hqw : qb < wr.heap.size := Nat.lt_of_lt_of_le hql hb.size
      have HN : Hid (∀ W, Below wr.heap.size wr W → W.heap[w.heap.size]? = some (.cells #[.int .i64 m.guest, .slice ra m.root.length rc, .slice (some ⟨pb, po, none⟩) m.slots.length sc, .slice fa m.refs.length fc, .slice na m.snaps.length nc] 27) ∧ W.heap[w.heap.size + 1]? = some (.cells #[.int .i64 m.guest, .slice rb m.root.length rd, .slice (some ⟨qb, qo, none⟩) m.slots.length sd, .slice fb m.refs.length fd, .slice nb m.snaps.length nd] 27) ∧ Below w.heap.size w W) := fun W hW => ⟨cells_below mA hW (Array.getElem?_eq_some_iff.1 mA).1, cells_below mB hW (Array.getElem?_eq_some_iff.1 mB).1, Below.on hb hW⟩
      have HK : Hid (∀ W, Below wr.heap.size wr W → W.cell? ⟨w.heap.size, 0 + 1 + 1, none⟩ = some (.slice (some ⟨pb, po, none⟩) m.slots.length sc) ∧ W.cell? ⟨w.heap.size + 1, 0 + 1 + 1, none⟩ = some (.slice (some ⟨qb, qo, none⟩) m.slots.length sd) ∧ W.cell? ⟨pb, po + k * 3, none⟩ = some (.int .i64 kk) ∧ W.cell? ⟨pb, po + k * 3 + 1, none⟩ = some (.string dd) ∧ W.cell? ⟨pb, po + k * 3 + 1 + 1, none⟩ = some (.slice ta tt.length tc) ∧ W.cell? ⟨qb, qo + k * 3, none⟩ = some (.int .i64 kk) ∧ W.cell? ⟨qb, qo + k * 3 + 1, none⟩ = some (.string dd) ∧ W.cell? ⟨qb, qo + k * 3 + 1 + 1, none⟩ = some (.slice ua tt.length uc)) := fun W hW => ⟨(hW.cell (p := ⟨w.heap.size, 0 + 1 + 1, none⟩) (Array.getElem?_eq_some_iff.1 mA).1).trans c2, (hW.cell (p := ⟨w.heap.size + 1, 0 + 1 + 1, none⟩) (Array.getElem?_eq_some_iff.1 mB).1).trans d2, (hW.cell (p := ⟨pb, po + k * 3, none⟩) hpw).trans p0, (hW.cell (p := ⟨pb, po + k * 3 + 1, none⟩) hpw).trans p1, (hW.cell (p := ⟨pb, po + k * 3 + 1 + 1, none⟩) hpw).trans p2, (hW.cell (p := ⟨qb, qo + k * 3, none⟩) hqw).trans q0, (hW.cell (p := ⟨qb, qo + k * 3 + 1, none⟩) hqw).trans q1, (hW.cell (p := ⟨qb, qo + k * 3 + 1 + 1, none⟩) hqw).trans q2⟩
      clear hs mA mB ps qs hps hqs
      go_wp2_with fail
      go_region_held3 (fun W => W.cell? ⟨w.heap.size, 0 + 1 + 1, none⟩ = some (.slice (some ⟨pb, po, none⟩) m.slots.length sc) ∧ W.cell? ⟨w.heap.size + 1, 0 + 1 + 1, none⟩ = some (.slice (some ⟨qb, qo, none⟩) m.slots.length sd) ∧ W.cell? ⟨pb, po + k * 3, none⟩ = some (.int .i64 kk) ∧ W.cell? ⟨pb, po + k * 3 + 1, none⟩ = some (.string dd) ∧ W.cell? ⟨pb, po + k * 3 + 1 + 1, none⟩ = some (.slice ta tt.length tc) ∧ W.cell? ⟨qb, qo + k * 3, none⟩ = some (.int .i64 kk) ∧ W.cell? ⟨qb, qo + k * 3 + 1, none⟩ = some (.string dd) ∧ W.cell? ⟨qb, qo + k * 3 + 1 + 1, none⟩ = some (.slice ua tt.length uc)) (first | exact HK.out _ b3 | exact HK.out _ (to_drew (Below.refl _ _)))
        (first | (go_at_call 37; refine hcall.mono ?_; rintro e w3 ⟨rfl, b3⟩; have b3 := below_drew b3))
      go_wp2_with fail
      go_roundw
      case rel => exact ⟨k + 1, by omega, by go_num, HN.out _ b3⟩
      case measure => simp [intOf]; omega
    · have ek : k = m.slots.length := by omega
      subst ek
      obtain ⟨x, hrn⟩ : ∃ X, X = wr := ⟨_, rfl⟩
      subst hrn
      go_wp2_with fail
      clear c0 c1 c2 c3 c4 d0 d1 d2 d3 d4 mA mB hb hL
      go_loopw [6] (fun i wr => ∃ l : Nat, l ≤ m.snaps.length ∧ i = .int .i64 l ∧ Hid (wr.heap[w.heap.size]? = some (.cells #[.int .i64 m.guest, .slice ra m.root.length rc, .slice sa m.slots.length sc, .slice fa m.refs.length fc, .slice na m.snaps.length nc] 27) ∧ wr.heap[w.heap.size + 1]? = some (.cells #[.int .i64 m.guest, .slice rb m.root.length rd, .slice sb m.slots.length sd, .slice fb m.refs.length fd, .slice nb m.snaps.length nd] 27) ∧ Below w.heap.size w wr)) (fun i _ => m.snaps.length - (intOf i).toNat)
      case atStart => exact ⟨0, Nat.zero_le _, rfl, HC⟩
      case round =>
        obtain ⟨l, hl, rfl, HD⟩ := hrel
        obtain ⟨mA, mB, hb⟩ := HD.out
        obtain ⟨c0, c1, c2, c3, c4⟩ := five mA
        obtain ⟨d0, d1, d2, d3, d4⟩ := five mB
        have hL := HL.out.2
        by_cases hll : l < m.snaps.length
        · have hki : (l : Int) < (m.snaps.length : Int) := by omega
          have hL1 : (l : Int) + 1 ≤ 9223372036854775807 := by omega
          obtain ⟨pb, po, pc, e, _, hpl, hps⟩ := HS.out.2.2.1.open (by omega)
          simp at e
          obtain ⟨rfl, rfl⟩ := e
          obtain ⟨qb, qo, qc, e, _, hql, hqs⟩ := HS.out.2.2.2.open (by omega)
          simp at e
          obtain ⟨rfl, rfl⟩ := e
          obtain ⟨s, hs⟩ : ∃ s, m.snaps[l] = s := ⟨_, rfl⟩
          obtain ⟨nm, sg, tt⟩ := s
          obtain ⟨tv, p0, p1, p2, ps⟩ := hps l hll
          obtain ⟨uv, q0, q1, q2, qs⟩ := hqs l hll
          rw [hs] at p0 p1 ps q0 q1 qs
          obtain ⟨ta, tc, rfl⟩ := ps.form
          obtain ⟨ua, uc, rfl⟩ := qs.form
          have p0 : wr.cell? ⟨pb, po + l * 3, none⟩ = some (.string nm) := (hb.cell (p := ⟨pb, po + l * 3, none⟩) hpl).trans p0
          have p1 : wr.cell? ⟨pb, po + l * 3 + 1, none⟩ = some (.int .i64 sg) := (hb.cell (p := ⟨pb, po + l * 3 + 1, none⟩) hpl).trans p1
          have p2 : wr.cell? ⟨pb, po + l * 3 + 1 + 1, none⟩ = some (.slice ta tt.length tc) := (hb.cell (p := ⟨pb, po + l * 3 + 1 + 1, none⟩) hpl).trans p2
          have q0 : wr.cell? ⟨qb, qo + l * 3, none⟩ = some (.string nm) := (hb.cell (p := ⟨qb, qo + l * 3, none⟩) hql).trans q0
          have q1 : wr.cell? ⟨qb, qo + l * 3 + 1, none⟩ = some (.int .i64 sg) := (hb.cell (p := ⟨qb, qo + l * 3 + 1, none⟩) hql).trans q1
          have q2 : wr.cell? ⟨qb, qo + l * 3 + 1 + 1, none⟩ = some (.slice ua tt.length uc) := (hb.cell (p := ⟨qb, qo + l * 3 + 1 + 1, none⟩) hql).trans q2
          have hcall := same_any (w := wr.drew) (ps.below (to_drew hb)) (qs.below (to_drew hb))
          have hpw : pb < wr.heap.size := Nat.lt_of_lt_of_le hpl hb.size
          have hqw : qb < wr.heap.size := Nat.lt_of_lt_of_le hql hb.size
          have HN : Hid (∀ W, Below wr.heap.size wr W → W.heap[w.heap.size]? = some (.cells #[.int .i64 m.guest, .slice ra m.root.length rc, .slice sa m.slots.length sc, .slice fa m.refs.length fc, .slice (some ⟨pb, po, none⟩) m.snaps.length nc] 27) ∧ W.heap[w.heap.size + 1]? = some (.cells #[.int .i64 m.guest, .slice rb m.root.length rd, .slice sb m.slots.length sd, .slice fb m.refs.length fd, .slice (some ⟨qb, qo, none⟩) m.snaps.length nd] 27) ∧ Below w.heap.size w W) := fun W hW => ⟨cells_below mA hW (Array.getElem?_eq_some_iff.1 mA).1, cells_below mB hW (Array.getElem?_eq_some_iff.1 mB).1, Below.on hb hW⟩
          have HK : Hid (∀ W, Below wr.heap.size wr W → W.cell? ⟨w.heap.size, 0 + 1 + 1 + 1 + 1, none⟩ = some (.slice (some ⟨pb, po, none⟩) m.snaps.length nc) ∧ W.cell? ⟨w.heap.size + 1, 0 + 1 + 1 + 1 + 1, none⟩ = some (.slice (some ⟨qb, qo, none⟩) m.snaps.length nd) ∧ W.cell? ⟨pb, po + l * 3, none⟩ = some (.string nm) ∧ W.cell? ⟨pb, po + l * 3 + 1, none⟩ = some (.int .i64 sg) ∧ W.cell? ⟨pb, po + l * 3 + 1 + 1, none⟩ = some (.slice ta tt.length tc) ∧ W.cell? ⟨qb, qo + l * 3, none⟩ = some (.string nm) ∧ W.cell? ⟨qb, qo + l * 3 + 1, none⟩ = some (.int .i64 sg) ∧ W.cell? ⟨qb, qo + l * 3 + 1 + 1, none⟩ = some (.slice ua tt.length uc)) := fun W hW => ⟨(hW.cell (p := ⟨w.heap.size, 0 + 1 + 1 + 1 + 1, none⟩) (Array.getElem?_eq_some_iff.1 mA).1).trans c4, (hW.cell (p := ⟨w.heap.size + 1, 0 + 1 + 1 + 1 + 1, none⟩) (Array.getElem?_eq_some_iff.1 mB).1).trans d4, (hW.cell (p := ⟨pb, po + l * 3, none⟩) hpw).trans p0, (hW.cell (p := ⟨pb, po + l * 3 + 1, none⟩) hpw).trans p1, (hW.cell (p := ⟨pb, po + l * 3 + 1 + 1, none⟩) hpw).trans p2, (hW.cell (p := ⟨qb, qo + l * 3, none⟩) hqw).trans q0, (hW.cell (p := ⟨qb, qo + l * 3 + 1, none⟩) hqw).trans q1, (hW.cell (p := ⟨qb, qo + l * 3 + 1 + 1, none⟩) hqw).trans q2⟩
          clear hs mA mB ps qs hps hqs
          go_wp2_with fail
          go_region_held3 (fun W => W.cell? ⟨w.heap.size, 0 + 1 + 1 + 1 + 1, none⟩ = some (.slice (some ⟨pb, po, none⟩) m.snaps.length nc) ∧ W.cell? ⟨w.heap.size + 1, 0 + 1 + 1 + 1 + 1, none⟩ = some (.slice (some ⟨qb, qo, none⟩) m.snaps.length nd) ∧ W.cell? ⟨pb, po + l * 3, none⟩ = some (.string nm) ∧ W.cell? ⟨pb, po + l * 3 + 1, none⟩ = some (.int .i64 sg) ∧ W.cell? ⟨pb, po + l * 3 + 1 + 1, none⟩ = some (.slice ta tt.length tc) ∧ W.cell? ⟨qb, qo + l * 3, none⟩ = some (.string nm) ∧ W.cell? ⟨qb, qo + l * 3 + 1, none⟩ = some (.int .i64 sg) ∧ W.cell? ⟨qb, qo + l * 3 + 1 + 1, none⟩ = some (.slice ua tt.length uc)) (first | exact HK.out _ b3 | exact HK.out _ (to_drew (Below.refl _ _)))
            (first | (go_at_call 37; refine hcall.mono ?_; rintro e w3 ⟨rfl, b3⟩; have b3 := below_drew b3))
          go_wp2_with fail
          go_roundw
          case rel => exact ⟨l + 1, by omega, by go_num, HN.out _ b3⟩
          case measure => simp [intOf]; omega
        · have el : l = m.snaps.length := by omega
          subst el
          go_wp2_with fail
          go_ret
          exact ⟨rfl, hb⟩
theorem sameI_is {w : World} {v u : Value} {m : ImgD} (h : Img w v m) (k : Img w u m) : Calls Tryz.prog 15 #[v, u] w fun r w' => r = .returned (.bool true) ∧ Below w.heap.size w w' := by
  obtain ⟨ra, rc, sa, sc, fa, fc, na, nc, rfl, h1, h2, h3, h4⟩ := h.parts
  obtain ⟨rb, rd, sb, sd, fb, fd, nb, nd, rfl, k1, k2, k3, k4⟩ := k.parts
  exact sameI_at m ra rc sa sc fa fc na nc rb rd sb sd fb fd nb nd w h1 h2 h3 h4 k1 k2 k3 k4
end Go.Proofs.YtehleeibgkpjmafGreat
/- Contract of SameStacks: equal stacks answer true. -/
namespace Go.Proofs.YtehleeibgkpjmafGreat
open Go.RowKit Go.Shelf
set_option maxRecDepth 20000
set_option linter.unusedVariables false

theorem Stk.top {w : World} {b : List ByteArray} {m : ImgD} {bv gv r s f n : Value} (h : Stk w (.agg #[bv, gv, r, s, f, n]) b m) : Img w (.agg #[gv, r, s, f, n]) m := by
  obtain ⟨bv', r', s', f', n', e, h1, h2⟩ := h
  simp only [Value.agg.injEq, Array.mk.injEq, List.cons.injEq, and_true] at e
  rw [e.2.1, e.2.2.1, e.2.2.2.1, e.2.2.2.2.1, e.2.2.2.2.2]; exact h2
set_option maxHeartbeats 4000000 in
theorem sameStk_at (ba : Option Addr) (bc : Nat) (ra : Option Addr) (rc : Nat) (sa : Option Addr) (sc : Nat) (fa : Option Addr) (fc : Nat) (na : Option Addr) (nc : Nat) (ba2 : Option Addr) (bc2 : Nat) (ra2 : Option Addr) (rc2 : Nat) (sa2 : Option Addr) (sc2 : Nat) (fa2 : Option Addr) (fc2 : Nat) (na2 : Option Addr) (nc2 : Nat) (b : List ByteArray) (m : ImgD) (w : World) (h : Stk w (.agg #[.slice ba b.length bc, .int .i64 m.guest, .slice ra m.root.length rc, .slice sa m.slots.length sc, .slice fa m.refs.length fc, .slice na m.snaps.length nc]) b m) (k : Stk w (.agg #[.slice ba2 b.length bc2, .int .i64 m.guest, .slice ra2 m.root.length rc2, .slice sa2 m.slots.length sc2, .slice fa2 m.refs.length fc2, .slice na2 m.snaps.length nc2]) b m) :
    Calls Tryz.prog 9 #[.agg #[.slice ba b.length bc, .int .i64 m.guest, .slice ra m.root.length rc, .slice sa m.slots.length sc, .slice fa m.refs.length fc, .slice na m.snaps.length nc], .agg #[.slice ba2 b.length bc2, .int .i64 m.guest, .slice ra2 m.root.length rc2, .slice sa2 m.slots.length sc2, .slice fa2 m.refs.length fc2, .slice na2 m.snaps.length nc2]] w fun r w' => r = .returned (.bool true) ∧ Below w.heap.size w w' := by
  have hB : Below w.heap.size w ((w.alloc (.cells #[.slice ba b.length bc, .int .i64 m.guest, .slice ra m.root.length rc, .slice sa m.slots.length sc, .slice fa m.refs.length fc, .slice na m.snaps.length nc] 29)).alloc (.cells #[.slice ba2 b.length bc2, .int .i64 m.guest, .slice ra2 m.root.length rc2, .slice sa2 m.slots.length sc2, .slice fa2 m.refs.length fc2, .slice na2 m.snaps.length nc2] 29)) := ((Below.refl _ _).alloc (Nat.le_refl _) _).alloc (by simp) _
  have m0 : ((w.alloc (.cells #[.slice ba b.length bc, .int .i64 m.guest, .slice ra m.root.length rc, .slice sa m.slots.length sc, .slice fa m.refs.length fc, .slice na m.snaps.length nc] 29)).alloc (.cells #[.slice ba2 b.length bc2, .int .i64 m.guest, .slice ra2 m.root.length rc2, .slice sa2 m.slots.length sc2, .slice fa2 m.refs.length fc2, .slice na2 m.snaps.length nc2] 29)).heap[w.heap.size]? = some (.cells #[.slice ba b.length bc, .int .i64 m.guest, .slice ra m.root.length rc, .slice sa m.slots.length sc, .slice fa m.refs.length fc, .slice na m.snaps.length nc] 29) := cells_alloc (World.alloc_heap_new _ _) _
  have m1 : ((w.alloc (.cells #[.slice ba b.length bc, .int .i64 m.guest, .slice ra m.root.length rc, .slice sa m.slots.length sc, .slice fa m.refs.length fc, .slice na m.snaps.length nc] 29)).alloc (.cells #[.slice ba2 b.length bc2, .int .i64 m.guest, .slice ra2 m.root.length rc2, .slice sa2 m.slots.length sc2, .slice fa2 m.refs.length fc2, .slice na2 m.snaps.length nc2] 29)).heap[w.heap.size + 1]? = some (.cells #[.slice ba2 b.length bc2, .int .i64 m.guest, .slice ra2 m.root.length rc2, .slice sa2 m.slots.length sc2, .slice fa2 m.refs.length fc2, .slice na2 m.snaps.length nc2] 29) := by have := World.alloc_heap_new (w.alloc (.cells #[.slice ba b.length bc, .int .i64 m.guest, .slice ra m.root.length rc, .slice sa m.slots.length sc, .slice fa m.refs.length fc, .slice na m.snaps.length nc] 29)) (.cells #[.slice ba2 b.length bc2, .int .i64 m.guest, .slice ra2 m.root.length rc2, .slice sa2 m.slots.length sc2, .slice fa2 m.refs.length fc2, .slice na2 m.snaps.length nc2] 29); simpa using this
  have hz : w.heap.size + 1 < ((w.alloc (.cells #[.slice ba b.length bc, .int .i64 m.guest, .slice ra m.root.length rc, .slice sa m.slots.length sc, .slice fa m.refs.length fc, .slice na m.snaps.length nc] 29)).alloc (.cells #[.slice ba2 b.length bc2, .int .i64 m.guest, .slice ra2 m.root.length rc2, .slice sa2 m.slots.length sc2, .slice fa2 m.refs.length fc2, .slice na2 m.snaps.length nc2] 29)).heap.size := by simp
  have h0 := h.below hB
  have k0 := k.below hB
  have H1 : Hid (Calls Tryz.prog 16 #[.slice ba b.length bc, .slice ba2 b.length bc2] ((w.alloc (.cells #[.slice ba b.length bc, .int .i64 m.guest, .slice ra m.root.length rc, .slice sa m.slots.length sc, .slice fa m.refs.length fc, .slice na m.snaps.length nc] 29)).alloc (.cells #[.slice ba2 b.length bc2, .int .i64 m.guest, .slice ra2 m.root.length rc2, .slice sa2 m.slots.length sc2, .slice fa2 m.refs.length fc2, .slice na2 m.snaps.length nc2] 29)) fun r w' => r = .returned (.bool true) ∧ Below ((w.alloc (.cells #[.slice ba b.length bc, .int .i64 m.guest, .slice ra m.root.length rc, .slice sa m.slots.length sc, .slice fa m.refs.length fc, .slice na m.snaps.length nc] 29)).alloc (.cells #[.slice ba2 b.length bc2, .int .i64 m.guest, .slice ra2 m.root.length rc2, .slice sa2 m.slots.length sc2, .slice fa2 m.refs.length fc2, .slice na2 m.snaps.length nc2] 29)).heap.size ((w.alloc (.cells #[.slice ba b.length bc, .int .i64 m.guest, .slice ra m.root.length rc, .slice sa m.slots.length sc, .slice fa m.refs.length fc, .slice na m.snaps.length nc] 29)).alloc (.cells #[.slice ba2 b.length bc2, .int .i64 m.guest, .slice ra2 m.root.length rc2, .slice sa2 m.slots.length sc2, .slice fa2 m.refs.length fc2, .slice na2 m.snaps.length nc2] 29)) w') := samePages_any h0.base k0.base
  have H2 : Hid (∀ W, Below ((w.alloc (.cells #[.slice ba b.length bc, .int .i64 m.guest, .slice ra m.root.length rc, .slice sa m.slots.length sc, .slice fa m.refs.length fc, .slice na m.snaps.length nc] 29)).alloc (.cells #[.slice ba2 b.length bc2, .int .i64 m.guest, .slice ra2 m.root.length rc2, .slice sa2 m.slots.length sc2, .slice fa2 m.refs.length fc2, .slice na2 m.snaps.length nc2] 29)).heap.size ((w.alloc (.cells #[.slice ba b.length bc, .int .i64 m.guest, .slice ra m.root.length rc, .slice sa m.slots.length sc, .slice fa m.refs.length fc, .slice na m.snaps.length nc] 29)).alloc (.cells #[.slice ba2 b.length bc2, .int .i64 m.guest, .slice ra2 m.root.length rc2, .slice sa2 m.slots.length sc2, .slice fa2 m.refs.length fc2, .slice na2 m.snaps.length nc2] 29)) W → Calls Tryz.prog 15 #[.agg #[.int .i64 m.guest, .slice ra m.root.length rc, .slice sa m.slots.length sc, .slice fa m.refs.length fc, .slice na m.snaps.length nc], .agg #[.int .i64 m.guest, .slice ra2 m.root.length rc2, .slice sa2 m.slots.length sc2, .slice fa2 m.refs.length fc2, .slice na2 m.snaps.length nc2]] W fun r w' => r = .returned (.bool true) ∧ Below W.heap.size W w') := fun W hW => sameI_is (h0.top.below hW) (k0.top.below hW)
  clear h k h0 k0
  obtain ⟨c0, c1, c2, c3, c4, c5⟩ := six m0
  obtain ⟨d0, d1, d2, d3, d4, d5⟩ := six m1
  go_enter Tryz.func9, Tryz.ntmps9
  go_wp2_with (first
    | (go_at_call 15; refine (H2.out w1 b1).mono ?_; rintro e2 w2 ⟨rfl, b2⟩)
    | (go_at_call 16; refine H1.out.mono ?_; rintro e1 w1 ⟨rfl, b1⟩; have n0 := cells_below m0 b1 (by omega); have n1 := cells_below m1 b1 hz; obtain ⟨f0, f1, f2, f3, f4, f5⟩ := six n0; obtain ⟨g0, g1, g2, g3, g4, g5⟩ := six n1))
  go_ret
  exact ⟨rfl, Below.on (Below.on hB b1) b2⟩
theorem sameStk_is {w : World} {v u : Value} {b : List ByteArray} {m : ImgD} (h : Stk w v b m) (k : Stk w u b m) : Calls Tryz.prog 9 #[v, u] w fun r w' => r = .returned (.bool true) ∧ Below w.heap.size w w' := by
  have h' := h
  have k' := k
  obtain ⟨ba, bc, ra, rc, sa, sc, fa, fc, na, nc, rfl, _, _⟩ := h.parts
  obtain ⟨ba2, bc2, ra2, rc2, sa2, sc2, fa2, fc2, na2, nc2, rfl, _, _⟩ := k.parts
  exact sameStk_at ba bc ra rc sa sc fa fc na nc ba2 bc2 ra2 rc2 sa2 sc2 fa2 fc2 na2 nc2 b m w h' k'
end Go.Proofs.YtehleeibgkpjmafGreat
/- The walk of StackCommits. -/
namespace Go.Proofs.YtehleeibgkpjmafGreat
open Go.RowKit Go.Shelf
set_option maxRecDepth 20000
set_option linter.unusedVariables false

set_option maxHeartbeats 16000000 in
theorem scom_at (ba : Option Addr) (bc : Nat) (ra : Option Addr) (rc : Nat) (sa : Option Addr) (sc : Nat) (fa : Option Addr) (fc : Nat) (na : Option Addr) (nc : Nat) (b : List ByteArray) (m : ImgD) (w : World) (h : Stk w (.agg #[.slice ba b.length bc, .int .i64 m.guest, .slice ra m.root.length rc, .slice sa m.slots.length sc, .slice fa m.refs.length fc, .slice na m.snaps.length nc]) b m) (BC : List ByteArray) (MC : ImgD) (EC : Int) (HC : Hid (ccE b m = EC ∧ (if ccE b m = 0 then pgs b m else []) = BC ∧ (if ccE b m = 0 then freshD m.guest.toNat else imgZ) = MC)) :
    Calls Tryz.prog 3 #[.agg #[.slice ba b.length bc, .int .i64 m.guest, .slice ra m.root.length rc, .slice sa m.slots.length sc, .slice fa m.refs.length fc, .slice na m.snaps.length nc]] w fun r w' => r = .returned (.bool true) ∧ Below w.heap.size w w' := by
  have hB : Below w.heap.size w (w.alloc (.cells #[.slice ba b.length bc, .int .i64 m.guest, .slice ra m.root.length rc, .slice sa m.slots.length sc, .slice fa m.refs.length fc, .slice na m.snaps.length nc] 29)) := (Below.refl _ _).alloc (Nat.le_refl _) _
  have mb_s : (w.alloc (.cells #[.slice ba b.length bc, .int .i64 m.guest, .slice ra m.root.length rc, .slice sa m.slots.length sc, .slice fa m.refs.length fc, .slice na m.snaps.length nc] 29)).heap[w.heap.size]? = some (.cells #[.slice ba b.length bc, .int .i64 m.guest, .slice ra m.root.length rc, .slice sa m.slots.length sc, .slice fa m.refs.length fc, .slice na m.snaps.length nc] 29) := World.alloc_heap_new _ _
  have K_s := h.below hB
  clear h
  go_enter Tryz.func3, Tryz.ntmps3
  obtain ⟨s0, s1, s2, s3, s4, s5⟩ := six mb_s
  have hh_mb_s := Hid_mkW mb_s
  have hh_K_s := Hid_mkW K_s
  have hh_hB := Hid_mkW hB
  clear mb_s K_s hB
  go_wp2_with fail
  clear s0 s1 s2 s3 s4 s5
  have mb_s := hh_mb_s.out
  have K_s := hh_K_s.out
  have hB := hh_hB.out
  clear hh_mb_s hh_K_s hh_hB
  refine (sk_commit K_s HC.out.1 HC.out.2.1 HC.out.2.2).mono ?_
  rintro e w1 ⟨v, rfl, K_x, bb⟩
  obtain ⟨x_b, x_bc, x_r, x_rc, x_s, x_sc, x_f, x_fc, x_n, x_nc, rfl, hs_, hi_⟩ := K_x.parts
  clear hs_ hi_
  try dsimp only
  replace mb_s := cells_below mb_s bb (Array.getElem?_eq_some_iff.1 mb_s).1
  replace hB := Below.on hB bb
  replace K_s := K_s.below bb
  clear bb
  replace mb_s := cells_alloc mb_s (.cells #[.slice x_b BC.length x_bc, .int .i64 MC.guest, .slice x_r MC.root.length x_rc, .slice x_s MC.slots.length x_sc, .slice x_f MC.refs.length x_fc, .slice x_n MC.snaps.length x_nc] 29)
  have ba : Below w1.heap.size w1 (w1.alloc (.cells #[.slice x_b BC.length x_bc, .int .i64 MC.guest, .slice x_r MC.root.length x_rc, .slice x_s MC.slots.length x_sc, .slice x_f MC.refs.length x_fc, .slice x_n MC.snaps.length x_nc] 29)) := (Below.refl _ _).alloc (Nat.le_refl _) _
  replace hB := Below.on hB ba
  replace K_s := K_s.below ba
  replace K_x := K_x.below ba
  clear ba
  have mb_x : (w1.alloc (.cells #[.slice x_b BC.length x_bc, .int .i64 MC.guest, .slice x_r MC.root.length x_rc, .slice x_s MC.slots.length x_sc, .slice x_f MC.refs.length x_fc, .slice x_n MC.snaps.length x_nc] 29)).heap[w1.heap.size]? = some (.cells #[.slice x_b BC.length x_bc, .int .i64 MC.guest, .slice x_r MC.root.length x_rc, .slice x_s MC.slots.length x_sc, .slice x_f MC.refs.length x_fc, .slice x_n MC.snaps.length x_nc] 29) := World.alloc_heap_new _ _
  obtain ⟨s0, s1, s2, s3, s4, s5⟩ := six mb_s
  have hh_mb_s := Hid_mkW mb_s
  have hh_mb_x := Hid_mkW mb_x
  have hh_K_s := Hid_mkW K_s
  have hh_K_x := Hid_mkW K_x
  have hh_hB := Hid_mkW hB
  clear mb_s mb_x K_s K_x hB
  go_wp2_with fail
  clear s0 s1 s2 s3 s4 s5
  have mb_s := hh_mb_s.out
  have mb_x := hh_mb_x.out
  have K_s := hh_K_s.out
  have K_x := hh_K_x.out
  have hB := hh_hB.out
  clear hh_mb_s hh_mb_x hh_K_s hh_K_x hh_hB
  refine (commitOf_is K_s HC.out.1 HC.out.2.1 HC.out.2.2).mono ?_
  rintro e w2 ⟨v, rfl, K_y, bb⟩
  obtain ⟨y_b, y_bc, y_r, y_rc, y_s, y_sc, y_f, y_fc, y_n, y_nc, rfl, hs_, hi_⟩ := K_y.parts
  clear hs_ hi_
  try dsimp only
  replace mb_s := cells_below mb_s bb (Array.getElem?_eq_some_iff.1 mb_s).1
  replace mb_x := cells_below mb_x bb (Array.getElem?_eq_some_iff.1 mb_x).1
  replace hB := Below.on hB bb
  replace K_s := K_s.below bb
  replace K_x := K_x.below bb
  clear bb
  replace mb_s := cells_alloc mb_s (.cells #[.slice y_b BC.length y_bc, .int .i64 MC.guest, .slice y_r MC.root.length y_rc, .slice y_s MC.slots.length y_sc, .slice y_f MC.refs.length y_fc, .slice y_n MC.snaps.length y_nc] 29)
  replace mb_x := cells_alloc mb_x (.cells #[.slice y_b BC.length y_bc, .int .i64 MC.guest, .slice y_r MC.root.length y_rc, .slice y_s MC.slots.length y_sc, .slice y_f MC.refs.length y_fc, .slice y_n MC.snaps.length y_nc] 29)
  have ba : Below w2.heap.size w2 (w2.alloc (.cells #[.slice y_b BC.length y_bc, .int .i64 MC.guest, .slice y_r MC.root.length y_rc, .slice y_s MC.slots.length y_sc, .slice y_f MC.refs.length y_fc, .slice y_n MC.snaps.length y_nc] 29)) := (Below.refl _ _).alloc (Nat.le_refl _) _
  replace hB := Below.on hB ba
  replace K_s := K_s.below ba
  replace K_x := K_x.below ba
  replace K_y := K_y.below ba
  clear ba
  have mb_y : (w2.alloc (.cells #[.slice y_b BC.length y_bc, .int .i64 MC.guest, .slice y_r MC.root.length y_rc, .slice y_s MC.slots.length y_sc, .slice y_f MC.refs.length y_fc, .slice y_n MC.snaps.length y_nc] 29)).heap[w2.heap.size]? = some (.cells #[.slice y_b BC.length y_bc, .int .i64 MC.guest, .slice y_r MC.root.length y_rc, .slice y_s MC.slots.length y_sc, .slice y_f MC.refs.length y_fc, .slice y_n MC.snaps.length y_nc] 29) := World.alloc_heap_new _ _
  clear mb_s
  clear K_s
  have hh_mb_x := Hid_mkW mb_x
  have hh_mb_y := Hid_mkW mb_y
  have hh_K_x := Hid_mkW K_x
  have hh_K_y := Hid_mkW K_y
  have hh_hB := Hid_mkW hB
  clear mb_x mb_y K_x K_y hB
  go_wp2_with fail
  have mb_x := hh_mb_x.out
  have mb_y := hh_mb_y.out
  have K_x := hh_K_x.out
  have K_y := hh_K_y.out
  have hB := hh_hB.out
  clear hh_mb_x hh_mb_y hh_K_x hh_K_y hh_hB
  refine (stackBegun_any _).mono ?_
  rintro e w3 ⟨rfl, bb⟩
  replace mb_x := cells_below mb_x bb (Array.getElem?_eq_some_iff.1 mb_x).1
  replace mb_y := cells_below mb_y bb (Array.getElem?_eq_some_iff.1 mb_y).1
  replace hB := Below.on hB bb
  replace K_x := K_x.below bb
  replace K_y := K_y.below bb
  clear bb
  obtain ⟨x0, x1, x2, x3, x4, x5⟩ := six mb_x
  obtain ⟨y0, y1, y2, y3, y4, y5⟩ := six mb_y
  have hh_mb_x := Hid_mkW mb_x
  have hh_mb_y := Hid_mkW mb_y
  have hh_K_x := Hid_mkW K_x
  have hh_K_y := Hid_mkW K_y
  have hh_hB := Hid_mkW hB
  clear mb_x mb_y K_x K_y hB
  go_wp2_with fail
  clear x0 x1 x2 x3 x4 x5 y0 y1 y2 y3 y4 y5
  have mb_x := hh_mb_x.out
  have mb_y := hh_mb_y.out
  have K_x := hh_K_x.out
  have K_y := hh_K_y.out
  have hB := hh_hB.out
  clear hh_mb_x hh_mb_y hh_K_x hh_K_y hh_hB
  refine (sameStk_is K_x K_y).mono ?_
  rintro e w4 ⟨rfl, bb⟩
  replace mb_x := cells_below mb_x bb (Array.getElem?_eq_some_iff.1 mb_x).1
  replace mb_y := cells_below mb_y bb (Array.getElem?_eq_some_iff.1 mb_y).1
  replace hB := Below.on hB bb
  replace K_x := K_x.below bb
  replace K_y := K_y.below bb
  clear bb
  have hh_mb_x := Hid_mkW mb_x
  have hh_mb_y := Hid_mkW mb_y
  have hh_K_x := Hid_mkW K_x
  have hh_K_y := Hid_mkW K_y
  have hh_hB := Hid_mkW hB
  clear mb_x mb_y K_x K_y hB
  go_wp2_with fail
  go_ret
  have hB := hh_hB.out
  exact ⟨rfl, hB⟩
theorem scom_is {v : Value} {b : List ByteArray} {m : ImgD} {w : World} (h : Stk w v b m) : Calls Tryz.prog 3 #[v] w fun r w' => r = .returned (.bool true) ∧ Below w.heap.size w w' := by
  have h' := h
  obtain ⟨ba, bc, ra, rc, sa, sc, fa, fc, na, nc, rfl, _, _⟩ := h.parts
  exact scom_at ba bc ra rc sa sc fa fc na nc b m w h' _ _ _ ⟨rfl, rfl, rfl⟩
end Go.Proofs.YtehleeibgkpjmafGreat
/- From the reading of an argument to what it holds: slices of integers, slots, slices of slots. -/
namespace Go.Proofs.YtehleeibgkpjmafGreat
open Go.RowKit Go.Deep Go.ChangeShapes Go.WideShapes Go.ChangeAt
set_option maxRecDepth 20000

theorem cells27 : Tryz.prog.cellsOf 23 = 1 := by kernel_rfl
theorem cells3 : Tryz.prog.cellsOf 3 = 1 := by kernel_rfl
theorem cells9 : Tryz.prog.cellsOf 9 = 1 := by kernel_rfl
theorem cells29 : Tryz.prog.cellsOf 61 = 3 := by kernel_rfl

variable {H : Type} {enc : TypeId × Value → H} {w : World} {base : Nat} {spare : Nat → Bool} {held : Bool}

theorem row_at {w : World} {a : Addr} {n : Nat} {f : Nat → Value} (hn : 0 < n) (h : ∀ i, i < n → w.cell? (a.add i) = some (f i)) :
    ∃ b off, a = ⟨b, off, none⟩ ∧ b < w.heap.size ∧ ∀ i, i < n → w.cell? ⟨b, off + i, none⟩ = some (f i) := by
  have h0 := h 0 hn
  obtain ⟨b, off, spot⟩ := a
  have hspot : spot = none := by simpa [Addr.add] using World.cell?_spot h0
  subst hspot
  refine ⟨b, off, rfl, World.block_lt_of_cell? w _ (by rw [addr_add] at h0; exact h0), fun i hi => ?_⟩
  have := h i hi
  rw [addr_add] at this
  exact this

theorem sl_of_trod {n : Nat} {cs : List Value} {x : DataW H × List MemPlace} (h : DataW.trod enc Tryz.prog w base spare held n 23 cs = some x) : ∃ v xs, cs = [v] ∧ Sl w v xs := by
  rcases open_ints Tryz.underlying23 Tryz.underlying3 cells3 h with ⟨rfl, _⟩ | ⟨a, l, c, zs, rfl, _, hl, hm, hz, _, hcell, _⟩
  · exact ⟨_, [], rfl, Sl.nil w⟩
  · have hlz : l ≤ zs.length := by rw [hz]; split <;> omega
    have hlen : (zs.take l).length = l := by simp; omega
    refine ⟨_, zs.take l, rfl, some a, c, by rw [hlen], by rw [hlen]; omega, by rw [hlen]; exact hl, fun hne => ?_⟩
    have hpos : 0 < l := by
      rcases Nat.eq_zero_or_pos l with e | e
      · subst e; simp at hne
      · exact e
    obtain ⟨b, off, rfl, hb, hc⟩ := row_at (w := w) (a := a) (n := l) (f := fun i => .int .i64 (zs.getD i 0)) hpos (fun i hi => hcell i (by omega))
    refine ⟨b, off, rfl, hb, fun j hj => ?_⟩
    rw [hlen] at hj
    rw [hc j hj]
    simp [List.getD, hj]

set_option maxRecDepth 20000 in
theorem slot_of_trod {n : Nat} {cs : List Value} {x : DataW H × List MemPlace} (h : DataW.trod enc Tryz.prog w base spare held n 61 cs = some x) :
    ∃ k d tv xs, cs = [.int .i64 k, .string d, tv] ∧ Sl w tv xs := by
  obtain ⟨y0, y1, y2, m, _, hl, h0, h1, h2⟩ := trod_struct3 Tryz.underlying61 h
  rw [cells29] at hl
  match cs, hl with
  | [c0, c1, c2], _ =>
    simp only [cells3, cells9, cells27] at h0 h1 h2
    obtain ⟨k, e0, _, _⟩ := DataW.trod_int Tryz.underlying3 h0
    obtain ⟨d, e1, _, _⟩ := DataW.trod_string Tryz.underlying9 h1
    obtain ⟨tv, xs, e2, hs⟩ := sl_of_trod h2
    simp at e0 e1 e2
    subst e0 e1 e2
    exact ⟨k, d, _, xs, rfl, hs⟩

theorem slots_of_trod {n : Nat} {v : Value} {x : DataW H × List MemPlace} (h : DataW.trod enc Tryz.prog w base spare held n 24 [v] = some x) : ∃ L, Slots w v L := by
  rcases open_slice Tryz.underlying24 h with ⟨hv, _⟩ | ⟨a, len, cap, m, fuel, D, Pl, hv, _, hl, hm, hmm, _, hx⟩
  · simp at hv
    subst hv
    exact ⟨[], none, 0, rfl, Nat.zero_le _, Nat.zero_le _, fun h => absurd rfl h⟩
  · simp at hv
    subst hv
    rw [cells29] at hx
    have hx' : ∀ i, i < len → ∃ s : SlotD, ∃ tv, w.cell? (a.add (i * 3)) = some (.int .i64 s.1) ∧ w.cell? ((a.add (i * 3)).add 1) = some (.string s.2.1) ∧ w.cell? ((a.add (i * 3)).add 2) = some tv ∧ Sl w tv s.2.2 := by
      intro i hi
      obtain ⟨cs', h1, h2⟩ := hx i (by rw [hmm]; split <;> omega)
      obtain ⟨k, d, tv, xs, rfl, hs⟩ := slot_of_trod h2
      obtain ⟨_, _, hc⟩ := World.cells?_some h1
      have c0 := hc 0 (by omega)
      have c1 := hc 1 (by omega)
      have c2 := hc 2 (by omega)
      exact ⟨(k, d, xs), tv, by simpa [Addr.add] using c0, c1, c2, hs⟩
    obtain ⟨f, hf⟩ := choose_lt hx'
    have hlen : ((List.range len).map f).length = len := by simp
    refine ⟨(List.range len).map f, some a, cap, by rw [hlen], by rw [hlen]; omega, by rw [hlen]; exact hl, fun hne => ?_⟩
    have hpos : 0 < len := by
      rcases Nat.eq_zero_or_pos len with e | e
      · subst e; simp at hne
      · exact e
    obtain ⟨tv0, c0, _⟩ := hf 0 hpos
    obtain ⟨b, off, spot⟩ := a
    have hspot : spot = none := by simpa [Addr.add] using World.cell?_spot c0
    subst hspot
    refine ⟨b, off, rfl, World.block_lt_of_cell? w _ (by rw [addr_add] at c0; exact c0), fun j hj => ?_⟩
    rw [hlen] at hj
    obtain ⟨tv, c0, c1, c2, hs⟩ := hf j hj
    rw [addr_add] at c0 c1 c2
    rw [addr_add] at c1 c2
    have e : ((List.range len).map f)[j]'(by rw [hlen]; exact hj) = f j := by simp
    rw [e]
    exact ⟨tv, c0, c1, c2, hs⟩
end Go.Proofs.YtehleeibgkpjmafGreat
