/- Texts joined: SlotRef, TbdI, TbdJ, OxT, FlPlain, WrR, WrA, SetI, CpyI, OfI, TakI, TakJ, TakL, TakK, WrI, WrJ, WrK, WrL, WrS, WrT, WrM, WrN, WrO, WrX, MendI, WrV, SCheck, WrY, WrW, WrU, WrE, WrZ, WrRz, WrB, RefF, PutI, WoA, RoA, WiN, WiQ, WiT, Pair, PDec, SameI. -/
import Derived.Test.YtehleeibgkpjmagWireWritesJ4
import Derived.Test.YtehleeibgkpjmagWireWritesJ3
import Derived.Test.YtehleeibgkpjmagWireWritesJ5
import Derived.Test.YtehleeibgkpjmagWireWritesJ8
import Derived.Test.YtehleeibgkpjmagWireWritesJ6
import Derived.Deep.CutRange
import Derived.Defers
import Derived.Recover
import Derived.Deep.RegionHeld3
import Derived.Deep.RegionLaw
import Derived.Test.YtehleeibgkpjmagWireWritesJ1
import Derived.Deep.RegionHeld
import Derived.BigQuiet
import Derived.Deep.RegionWith
import Derived.Laws.CopyRow
import Derived.Laws.IdiomCopy
import Derived.Test.YtehleeibgkpjmagWireWritesJ7
set_option linter.unusedVariables false
set_option linter.unusedSimpArgs false
/- Contracts of the document's GrabOf, UsedOf. -/
namespace Go.Proofs.Ytehleeibgkpjmag
open Go.RowKit
end Go.Proofs.Ytehleeibgkpjmag
/- Contract of the document's tabled: a table is stored. -/
namespace Go.Proofs.Ytehleeibgkpjmag
open Go.RowKit Go.Shelf
end Go.Proofs.Ytehleeibgkpjmag
/- tabled, its ways joined. -/
namespace Go.Proofs.Ytehleeibgkpjmag
open Go.RowKit Go.Shelf
end Go.Proofs.Ytehleeibgkpjmag
/- Contract of the document's tabled, of an image as the document makes it. -/
namespace Go.Proofs.Ytehleeibgkpjmag
open Go.RowKit Go.Shelf
end Go.Proofs.Ytehleeibgkpjmag
/- Flat images, plainly: what Read, Write and Resize answer, over lists of pages. -/
namespace Go.Proofs.Ytehleeibgkpjmag
open Go.RowKit
end Go.Proofs.Ytehleeibgkpjmag
/- Resizing: what comes is right, and how it is read; the answers of Write, Wipe, Punch, Resize. Plain lists. -/
namespace Go.Proofs.Ytehleeibgkpjmag
open Go.RowKit Go.Shelf
end Go.Proofs.Ytehleeibgkpjmag
/- What Write, Wipe, Punch and Resize answer, plain: it is right, how much greater it is, and how it is read. -/
namespace Go.Proofs.Ytehleeibgkpjmag
open Go.RowKit Go.Shelf
set_option maxRecDepth 20000


end Go.Proofs.Ytehleeibgkpjmag
/- Contract of settled: the counts are told, and what nothing tells is free. -/
namespace Go.Proofs.Ytehleeibgkpjmag
open Go.RowKit Go.Shelf
end Go.Proofs.Ytehleeibgkpjmag
/- Contract of copied: the walk. -/
namespace Go.Proofs.Ytehleeibgkpjmag
open Go.RowKit Go.Shelf
theorem row_mono {W : World} {B B' n size : Nat} {e : TypeId} {v : Value} {xs : List Value} (h : W.ownsRow B e size v n xs) (hB : B' ≤ B) : W.ownsRow B' e size v n xs := by
  refine ⟨h.1, ?_⟩
  rcases h.2 with hn | ⟨g, cap, cur, hv, hb', rest⟩
  · exact .inl hn
  · exact .inr ⟨g, cap, cur, hv, Nat.le_trans hB hb', rest⟩

theorem OI.mono {W : World} {B B' : Nat} {val : Nm → Value} {m : ImgD} (h : OI W B val m) (hB : B' ≤ B) : OI W B' val m := ⟨fun a ha => row_mono (h.row a ha) hB, h.apart⟩
structure CpR (w wr : World) (m : ImgD) (tv qv : Nat → Value) (va vb vc vd : Value) (k l : Nat) : Prop where
  own : ∃ val, HC wr (w.heap.size + 2) val m tv qv k l ∧ val .root = va ∧ val .slots = vb ∧ val .refs = vc ∧ val .snaps = vd
  box : wr.heap[w.heap.size]? = some (.cells #[.int .i64 m.guest, va, vb, vc, vd] 26)
  res : wr.heap[w.heap.size + 1]? = some (.cells #[.int .i64 0, .slice none 0 0, .slice none 0 0, .slice none 0 0, .slice none 0 0] 26)
  bel : Below w.heap.size w wr
theorem CpR.below {w wr wr' : World} {m : ImgD} {tv qv : Nat → Value} {va vb vc vd : Value} {k l : Nat} (h : CpR w wr m tv qv va vb vc vd k l) (hb : Below wr.heap.size wr wr') : CpR w wr' m tv qv va vb vc vd k l := by
  obtain ⟨⟨val, hH, e⟩, h1, h2, h3⟩ := h
  exact ⟨⟨val, hH.below hb, e⟩, cells_below h1 hb (Array.getElem?_eq_some_iff.1 h1).1, cells_below h2 hb (Array.getElem?_eq_some_iff.1 h2).1, Below.on h3 hb⟩
theorem CpR.tab {w wr wr' : World} {m : ImgD} {tv qv : Nat → Value} {va vc vd v : Value} {k l g n cap : Nat} (h : CpR w wr m tv qv va (.slice (some ⟨g, 0, none⟩) n cap) vc vd k l) (hb : Below wr.heap.size wr wr') (hr : wr'.ownsRow wr.heap.size 3 1 v (m.slots.getD k default).2.2.length (ints (m.slots.getD k default).2.2)) : CpR w (wr'.setCell ⟨g, k * 3 + 2, none⟩ v) m tv qv va (.slice (some ⟨g, 0, none⟩) n cap) vc vd (k + 1) l := by
  have hk := h.below hb
  obtain ⟨⟨val, hH, e0, e1, e2, e3⟩, h1, h2, h3⟩ := h
  obtain ⟨_, k1, k2, k3⟩ := hk
  have hg := (hH.row .slots (.inl ⟨by decide, rfl⟩)).lt g (by rw [e1]; rfl)
  have hsz : w.heap.size + 2 ≤ wr.heap.size := (Array.getElem?_eq_some_iff.1 h2).1
  refine ⟨⟨upd val (.tab k) v, (hH.below hb).tab e1 (row_mono hr hsz) (fun a ha q hq x => ?_), (upd_other _ _ (by intro x; cases x)).trans e0, (upd_other _ _ (by intro x; cases x)).trans e1, (upd_other _ _ (by intro x; cases x)).trans e2, (upd_other _ _ (by intro x; cases x)).trans e3⟩, cells_other k1 (by omega) _ _, cells_other k2 (by omega) _ _, k3.setCell (by show _ ≤ g; omega) _⟩
  have x1 := ((hH.row a ha).lt q x).2
  have x2 := (hr.lt q hq).1
  omega
theorem CpR.sr {w wr wr' : World} {m : ImgD} {tv qv : Nat → Value} {va vb vc v : Value} {k l g n cap : Nat} (h : CpR w wr m tv qv va vb vc (.slice (some ⟨g, 0, none⟩) n cap) k l) (hb : Below wr.heap.size wr wr') (hr : wr'.ownsRow wr.heap.size 3 1 v (m.snaps.getD l default).2.2.length (ints (m.snaps.getD l default).2.2)) : CpR w (wr'.setCell ⟨g, l * 3 + 2, none⟩ v) m tv qv va vb vc (.slice (some ⟨g, 0, none⟩) n cap) k (l + 1) := by
  have hk := h.below hb
  obtain ⟨⟨val, hH, e0, e1, e2, e3⟩, h1, h2, h3⟩ := h
  obtain ⟨_, k1, k2, k3⟩ := hk
  have hg := (hH.row .snaps (.inl ⟨by decide, rfl⟩)).lt g (by rw [e3]; rfl)
  have hsz : w.heap.size + 2 ≤ wr.heap.size := (Array.getElem?_eq_some_iff.1 h2).1
  refine ⟨⟨upd val (.sr l) v, (hH.below hb).sr e3 (row_mono hr hsz) (fun a ha q hq x => ?_), (upd_other _ _ (by intro x; cases x)).trans e0, (upd_other _ _ (by intro x; cases x)).trans e1, (upd_other _ _ (by intro x; cases x)).trans e2, (upd_other _ _ (by intro x; cases x)).trans e3⟩, cells_other k1 (by omega) _ _, cells_other k2 (by omega) _ _, k3.setCell (by show _ ≤ g; omega) _⟩
  have x1 := ((hH.row a ha).lt q x).2
  have x2 := (hr.lt q hq).1
  omega

end Go.Proofs.Ytehleeibgkpjmag
/- Contract of Of: a copy is turned, and settled; where no slot is left, the panic is caught. -/
namespace Go.Proofs.Ytehleeibgkpjmag
open Go.RowKit Go.Shelf
def ofM (o : Option ImgD) : ImgD := match o with | none => imgZ | some M => if shapeE M = 0 then countedD M else imgZ
end Go.Proofs.Ytehleeibgkpjmag
/- Contract of Take: a slot is grabbed and laid, or there is none. -/
namespace Go.Proofs.Ytehleeibgkpjmag
open Go.RowKit Go.Shelf
end Go.Proofs.Ytehleeibgkpjmag
/- Take: a slot is put behind all. -/
namespace Go.Proofs.Ytehleeibgkpjmag
open Go.RowKit Go.Shelf
set_option maxRecDepth 20000

abbrev z3 : List Value := [.int .i64 0, .string ⟨#[]⟩, .slice none 0 0]
abbrev z1 : List Value := [.int .i64 0]
structure TkI (w1 : World) (B : Nat) (sv0 fv0 : Value) (n : Nat) (xs ys : List Value) (sv fv : Value) (cS cR : Bool) (W : World) : Prop where
  bel : Below B w1 W
  bB : B ≤ w1.heap.size
  s : W.ownsRow B 60 3 sv (if cS then n + 1 else n) (if cS then xs ++ z3 else xs)
  r : W.ownsRow B 3 1 fv (if cR then n + 1 else n) (if cR then ys ++ z1 else ys)
  keep : ∀ q, q < w1.heap.size → sv0.ownBlock ≠ some q → fv0.ownBlock ≠ some q → W.heap[q]? = w1.heap[q]?
  sb : sv.ownBlock = sv0.ownBlock ∨ ∀ g, sv.ownBlock = some g → w1.heap.size ≤ g
  fb : fv.ownBlock = fv0.ownBlock ∨ ∀ g, fv.ownBlock = some g → w1.heap.size ≤ g
  ap : ∀ g, sv.ownBlock = some g → fv.ownBlock ≠ some g
theorem TkI.alloc {w1 : World} {B : Nat} {sv0 fv0 : Value} {n : Nat} {xs ys : List Value} {sv fv : Value} {cS cR : Bool} {W : World} (h : TkI w1 B sv0 fv0 n xs ys sv fv cS cR W) (o : Obj) : TkI w1 B sv0 fv0 n xs ys sv fv cS cR (W.alloc o) :=
  ⟨h.bel.alloc (Nat.le_trans h.bB h.bel.size) o, h.bB, h.s.alloc o, h.r.alloc o, fun q hq h1 h2 => (Below.heap_alloc W o q (Nat.lt_of_lt_of_le hq h.bel.size)).trans (h.keep q hq h1 h2), h.sb, h.fb, h.ap⟩
theorem TkI.drew {w1 : World} {B : Nat} {sv0 fv0 : Value} {n : Nat} {xs ys : List Value} {sv fv : Value} {cS cR : Bool} {W : World} (h : TkI w1 B sv0 fv0 n xs ys sv fv cS cR W) : TkI w1 B sv0 fv0 n xs ys sv fv cS cR W.drew :=
  ⟨h.bel.drew, h.bB, h.s.drew, h.r.drew, h.keep, h.sb, h.fb, h.ap⟩
end Go.Proofs.Ytehleeibgkpjmag
/- Take: both rows have been put one behind, and the desk tells so. -/
namespace Go.Proofs.Ytehleeibgkpjmag
open Go.RowKit Go.Shelf
end Go.Proofs.Ytehleeibgkpjmag
/- Take: the walk where a slot is put behind all. -/
namespace Go.Proofs.Ytehleeibgkpjmag
open Go.RowKit Go.Shelf
end Go.Proofs.Ytehleeibgkpjmag
/- Contracts of what is done on a desk: entries, lay, put. -/
namespace Go.Proofs.Ytehleeibgkpjmag
open Go.RowKit Go.Shelf


end Go.Proofs.Ytehleeibgkpjmag
/- Contracts of what is done on a desk: lay, put. -/
namespace Go.Proofs.Ytehleeibgkpjmag
open Go.RowKit Go.Shelf
end Go.Proofs.Ytehleeibgkpjmag
/- Contracts of what is done on a desk: Take, all ways. -/
namespace Go.Proofs.Ytehleeibgkpjmag
open Go.RowKit Go.Shelf
set_option maxRecDepth 20000


end Go.Proofs.Ytehleeibgkpjmag
/- Contracts of what is done on a desk: lay that finds no slot. -/
namespace Go.Proofs.Ytehleeibgkpjmag
open Go.RowKit Go.Shelf
end Go.Proofs.Ytehleeibgkpjmag
/- What the program makes on its desk is what the document asks: the plain part. -/
namespace Go.Proofs.Ytehleeibgkpjmag
open Go.RowKit Go.Shelf
set_option maxRecDepth 20000

structure Kin (a b : ImgD) : Prop where
  guest : a.guest = b.guest
  root : a.root = b.root
  slots : a.slots = b.slots
  snaps : a.snaps = b.snaps
  refs : a.refs.length = b.refs.length
theorem Kin.roots {a b : ImgD} (h : Kin a b) : rootsOf a = rootsOf b := by unfold rootsOf; rw [h.guest, h.root, h.snaps]
theorem Kin.shape {a b : ImgD} (h : Kin a b) : shapeE a = shapeE b := by
  unfold shapeE
  rw [h.roots, h.slots, h.snaps, h.refs]
structure Meets (o p : Option ImgD) : Prop where
  none : o = none → p = none
  some : ∀ M, o = some M → shapeE M = 0 ∧ p = some (countedD M)
theorem Meets.m {o p : Option ImgD} (h : Meets o p) : ofM o = p.getD imgZ := by
  cases ho : o with
  | none => rw [h.none ho]; rfl
  | some M =>
    obtain ⟨h1, h2⟩ := h.some M ho
    rw [h2]
    unfold ofM
    dsimp only
    rw [if_pos h1]
    rfl
end Go.Proofs.Ytehleeibgkpjmag
/- What the program writes on its desk is what the document asks: the plain part of Write. -/
namespace Go.Proofs.Ytehleeibgkpjmag
open Go.RowKit Go.Shelf
end Go.Proofs.Ytehleeibgkpjmag
/- Contracts of what is done on a desk: lay, all ways; put; vacate's closure. -/
namespace Go.Proofs.Ytehleeibgkpjmag
open Go.RowKit Go.Shelf
end Go.Proofs.Ytehleeibgkpjmag
/- What the two turns of a page's table need of the image: plain. -/
namespace Go.Proofs.Ytehleeibgkpjmag
open Go.RowKit Go.Shelf
end Go.Proofs.Ytehleeibgkpjmag
/- Contracts of writing: Write's closure. -/
namespace Go.Proofs.Ytehleeibgkpjmag
open Go.RowKit Go.Shelf
end Go.Proofs.Ytehleeibgkpjmag
/- Contracts of writing: Write's closure, in place; joined. -/
namespace Go.Proofs.Ytehleeibgkpjmag
open Go.RowKit Go.Shelf
end Go.Proofs.Ytehleeibgkpjmag
/- Contracts of mending: Repair and Leaks. -/
namespace Go.Proofs.Ytehleeibgkpjmag
open Go.RowKit Go.Shelf
theorem AnsI.open {w w' : World} {B : Nat} {m : ImgD} {err : Int} {r : Ending} (h : AnsI w B m err r w') : ∃ val ra rc sa sc fa fc na nc, r = .returned (.tuple #[.agg #[.int .i64 m.guest, .slice ra m.root.length rc, .slice sa m.slots.length sc, .slice fa m.refs.length fc, .slice na m.snaps.length nc], .int .i64 err]) ∧ OI w' B val m ∧ Below B w w' ∧ imgV m.guest val = .agg #[.int .i64 m.guest, .slice ra m.root.length rc, .slice sa m.slots.length sc, .slice fa m.refs.length fc, .slice na m.snaps.length nc] := by
  obtain ⟨val, rfl, hO, hb⟩ := h
  obtain ⟨ra, rc, e0, _⟩ := hO.forms .root (Live.root m)
  obtain ⟨sa, sc, e1, _⟩ := hO.forms .slots (Live.slots m)
  obtain ⟨fa, fc, e2, _⟩ := hO.forms .refs (Live.refs m)
  obtain ⟨na, nc, e3, _⟩ := hO.forms .snaps (Live.snaps m)
  have e : imgV m.guest val = .agg #[.int .i64 m.guest, .slice ra m.root.length rc, .slice sa m.slots.length sc, .slice fa m.refs.length fc, .slice na m.snaps.length nc] := by
    unfold imgV
    rw [e0, e1, e2, e3]
    rfl
  exact ⟨val, ra, rc, sa, sc, fa, fc, na, nc, by rw [e], hO, hb, e⟩


end Go.Proofs.Ytehleeibgkpjmag
/- Contracts of writing: vacate, Wipe, Punch. -/
namespace Go.Proofs.Ytehleeibgkpjmag
open Go.RowKit Go.Shelf
end Go.Proofs.Ytehleeibgkpjmag
/- Contract of slots.Check. -/
namespace Go.Proofs.Ytehleeibgkpjmag
open Go.RowKit
end Go.Proofs.Ytehleeibgkpjmag
/- Contracts of writing: Write. -/
namespace Go.Proofs.Ytehleeibgkpjmag
open Go.RowKit Go.Shelf
end Go.Proofs.Ytehleeibgkpjmag
/- Contracts of writing: Wipe, Punch. -/
namespace Go.Proofs.Ytehleeibgkpjmag
open Go.RowKit Go.Shelf
end Go.Proofs.Ytehleeibgkpjmag
/- What the program resizes on its desk is what the document asks: the plain part of Resize. -/
namespace Go.Proofs.Ytehleeibgkpjmag
open Go.RowKit Go.Shelf
end Go.Proofs.Ytehleeibgkpjmag
/- Contracts of writing: slices.Equal at entries, Cut with its row, cut. -/
namespace Go.Proofs.Ytehleeibgkpjmag
open Go.RowKit Go.Shelf
end Go.Proofs.Ytehleeibgkpjmag
/- Contracts of writing: Resize. -/
namespace Go.Proofs.Ytehleeibgkpjmag
open Go.RowKit Go.Shelf
end Go.Proofs.Ytehleeibgkpjmag
/- Contracts of writing: Resize. -/
namespace Go.Proofs.Ytehleeibgkpjmag
open Go.RowKit Go.Shelf
end Go.Proofs.Ytehleeibgkpjmag
/- What Write, Wipe, Punch and Resize answer, errors too, and what it is to the image that was handed in. -/
namespace Go.Proofs.Ytehleeibgkpjmag
open Go.RowKit Go.Shelf
end Go.Proofs.Ytehleeibgkpjmag
/- Contracts of the document's CheckImage, look, LookError, LookOf. -/
namespace Go.Proofs.Ytehleeibgkpjmag
open Go.RowKit Go.Shelf
set_option maxRecDepth 20000

theorem checkImage_bad (gm : Int) (ra : Option Addr) (rn rc : Nat) (sa : Option Addr) (sn sc : Nat) (fa : Option Addr) (fn fc : Nat) (na : Option Addr) (nn nc : Nat) (m : ImgD) (E : Int) (w : World) (h : Img w (.agg #[.int .i64 gm, .slice ra rn rc, .slice sa sn sc, .slice fa fn fc, .slice na nn nc]) m) (hE : shapeE m = E) (hne : (E != 0) = true) :
    Calls Try.prog 12 #[.agg #[.int .i64 gm, .slice ra rn rc, .slice sa sn sc, .slice fa fn fc, .slice na nn nc]] w fun r w' => r = .returned (.int .i64 E) ∧ Below w.heap.size w w' := by
  have b0 : Below w.heap.size w (w.alloc (.cells #[.int .i64 gm, .slice ra rn rc, .slice sa sn sc, .slice fa fn fc, .slice na nn nc] 26)) := (Below.refl _ _).alloc (Nat.le_refl _) _
  have hcall := shapeOf_is (h.below b0) hE
  clear h hE
  go_enter Try.func12, Try.ntmps12
  go_wp2_with (go_at_call 38; refine hcall.mono ?_; rintro e w1 ⟨rfl, b1⟩)
  go_ret
  exact ⟨rfl, Below.on b0 b1⟩

set_option linter.unusedSimpArgs false in
set_option maxHeartbeats 4000000 in
theorem checkImage_at (gm : Int) (ra : Option Addr) (rn rc : Nat) (sb so : Nat) (sn sc : Nat) (fa : Option Addr) (fn fc : Nat) (na : Option Addr) (nn nc : Nat) (m : ImgD) (E : Int) (w : World) (h : Img w (.agg #[.int .i64 gm, .slice ra rn rc, .slice (some ⟨sb, so, none⟩) sn sc, .slice fa fn fc, .slice na nn nc]) m) (hsn : m.slots.length = sn) (hsb : sb < w.heap.size) (hcl : ∀ j, (h : j < m.slots.length) → SlAt w sb (so + j * 3) m.slots[j]) (hf : Sl w (.slice fa fn fc) m.refs) (hfn : fn = sn)
    (h0 : shapeE m = 0) (hE : checkE m = E) :
    Calls Try.prog 12 #[.agg #[.int .i64 gm, .slice ra rn rc, .slice (some ⟨sb, so, none⟩) sn sc, .slice fa fn fc, .slice na nn nc]] w fun r w' => r = .returned (.int .i64 E) ∧ Below w.heap.size w w' := by
  have b0 : Below w.heap.size w (w.alloc (.cells #[.int .i64 gm, .slice ra rn rc, .slice (some ⟨sb, so, none⟩) sn sc, .slice fa fn fc, .slice na nn nc] 26)) := (Below.refl _ _).alloc (Nat.le_refl _) _
  have m0 : (w.alloc (.cells #[.int .i64 gm, .slice ra rn rc, .slice (some ⟨sb, so, none⟩) sn sc, .slice fa fn fc, .slice na nn nc] 26)).heap[w.heap.size]? = some (.cells #[.int .i64 gm, .slice ra rn rc, .slice (some ⟨sb, so, none⟩) sn sc, .slice fa fn fc, .slice na nn nc] 26) := World.alloc_heap_new _ _
  have h40 : sn ≤ 40 := by rw [← hsn]; exact (slotsE_parts (shapeE_zero h0).2.1).2
  have hrl : m.refs.length = sn := by rw [(shapeE_zero h0).2.2.1, hsn]
  have HE : Hid (E = if cntL m ≠ m.refs then 9 else if (List.range m.slots.length).all (freeAt m) = true then 0 else 9) := by
    show _ = _
    rw [← hE]; unfold checkE; rw [if_neg (by simpa using h0)]
  have FB : Hid (∀ n, n < sn → (m.refs.getD n 0 ≠ (cntL m).getD n 0 ∨ freeAt m n = false) → E = 9) := fun n hn hor => by
    rw [HE.out]
    by_cases hq : cntL m ≠ m.refs
    · rw [if_pos hq]
    · rw [if_neg hq, if_neg]
      intro e
      rcases hor with hh | hh
      · exact hh (by rw [Classical.not_not.1 hq])
      · have := List.all_eq_true.1 e n (by rw [hsn]; simpa using hn)
        rw [hh] at this; cases this
  have FG : Hid ((∀ n, n < sn → m.refs.getD n 0 = (cntL m).getD n 0 ∧ freeAt m n = true) → E = 0) := fun hall => by
    rw [HE.out, if_neg, if_pos]
    · rw [List.all_eq_true]; intro j hj; exact (hall j (by rw [← hsn]; simpa using hj)).2
    · rw [Classical.not_not]
      apply List.ext_getElem
      · rw [cntL_length, hrl, hsn]
      · intro j h1 h2
        have := (hall j (by rw [← hrl]; exact h2)).1
        simpa [List.getD, h1, h2] using this.symm
  have hcall := shapeOf_is (h.below b0) h0
  have hcnt := fun W (hW : Below w.heap.size w W) => countsOf_is (h.below hW) h0
  rw [hsn] at hcnt
  have H1 : Hid (m.slots.length = sn) := hsn
  have H2 : Hid (∀ j, (h : j < m.slots.length) → SlAt w sb (so + j * 3) m.slots[j]) := hcl
  have H3 : Hid (Sl w (.slice fa fn fc) m.refs) := hf
  subst hfn
  have H4 : Hid (m.refs.length = fn) := hrl
  clear HE hsn hcl hf hrl h h0 hE
  go_enter Try.func12, Try.ntmps12
  go_wp2_with fail
  refine hcall.mono ?_
  rintro e w1 ⟨rfl, b1⟩
  have m1 := cells_below m0 b1 (by simp)
  obtain ⟨c0, c1, c2, c3, c4⟩ := five m1
  have hb1 := Below.on b0 b1
  have hcnt := hcnt w1 hb1
  clear hcall
  go_wp2_with fail
  refine hcnt.mono ?_
  rintro e w2 ⟨⟨rfl, hL⟩, b2⟩
  have m2 := cells_below m1 b2 (Array.getElem?_eq_some_iff.1 m1).1
  clear c0 c1 c2 c3 c4 hcnt
  obtain ⟨c0, c1, c2, c3, c4⟩ := five m2
  have hbw := Below.on hb1 b2
  obtain ⟨g, hg⟩ : ∃ g, w1.heap.size + 1 = g := ⟨_, rfl⟩
  rw [hg] at hL ⊢
  clear hg
  go_wp2_with fail
  go_loopw [5] (fun i wq => ∃ k : Nat, k ≤ fn ∧ i = .int .i64 k ∧ Hid (∀ j, j < k → m.refs.getD j 0 = (cntL m).getD j 0 ∧ freeAt m j = true) ∧ (Hid (∀ a, wq.cell? a = w2.cell? a) ∧ Below w.heap.size w wq)) (fun i _ => fn - (intOf i).toNat)
  case atStart => exact ⟨0, Nat.zero_le _, rfl, fun j hj => absurd hj (by omega), fun _ => rfl, hbw⟩
  case round =>
    obtain ⟨k, hk, rfl, HA, hsame, hbr⟩ := hrel
    have c0 := (hsame.out _).trans c0
    have c1 := (hsame.out _).trans c1
    have c2 := (hsame.out _).trans c2
    have c3 := (hsame.out _).trans c3
    have c4 := (hsame.out _).trans c4
    by_cases hlk : k < fn
    · have hki : (k : Int) < (fn : Int) := by omega
      have hkm : k < m.slots.length := by rw [H1.out]; exact hlk
      obtain ⟨tv, s1, _⟩ := H2.out k hkm
      have ekd : m.slots[k].1 = kd m.slots k := by unfold kd; simp [List.getD, hkm]
      rw [ekd] at s1
      have s1 := (hbr.cell (p := ⟨sb, so + k * 3, none⟩) hsb).trans s1
      obtain ⟨b, off, rfl, hlt, hcf⟩ := H3.out.cells.2.2.2 k hlk
      have hcf := (hbr.cell (p := ⟨b, off + k, none⟩) hlt).trans hcf
      have hcc := (hsame.out _).trans (hL.cell (by rw [cntL_length, H1.out]; exact hlk))
      obtain ⟨x, hx⟩ : ∃ x, m.refs.getD k 0 = x := ⟨_, rfl⟩
      obtain ⟨y, hy⟩ : ∃ y, (cntL m).getD k 0 = y := ⟨_, rfl⟩
      obtain ⟨z, hz⟩ : ∃ z, kd m.slots k = z := ⟨_, rfl⟩
      have HF : Hid (freeAt m k = ((z == 0) == (y == 0))) := by
        show _ = _
        unfold freeAt
        rw [hy, ← hz]; rfl
      rw [hx] at hcf
      rw [hy] at hcc
      rw [hz] at s1
      have HXY : Hid (m.refs.getD k 0 = x ∧ (cntL m).getD k 0 = y) := ⟨hx, hy⟩
      clear hx hy hz ekd
      by_cases hxy : x = y
      · have hxyb : (x != y) = false := by simp [hxy]
        have HE2 : Hid (x = y) := hxy
        clear hxy
        cases hy0 : y == 0 with
        | true =>
          cases hz0 : z == 0 with
          | true =>
            go_wp2_with fail
            go_quiet (fail)
            go_wp2_with fail
            go_roundw
            case rel => exact ⟨k + 1, by omega, by go_num, fun j hj => by
              by_cases e : j = k
              · subst e; exact ⟨by rw [HXY.out.1, HXY.out.2, HE2.out], by rw [HF.out, hz0, hy0]; rfl⟩
              · exact HA.out j (by omega), fun a => hsame.out a, ⟨hbr.os, hbr.tape, hbr.output, hbr.size, hbr.block⟩⟩
            case measure => simp [intOf]; omega
          | false =>
            have HB : Hid (E = 9) := FB.out k hlk (.inr (by rw [HF.out, hz0, hy0]; rfl))
            go_wp2_with fail
            go_quiet (fail)
            go_wp2_with fail
            go_ret
            exact ⟨ret_int HB.out.symm, ⟨hbr.os, hbr.tape, hbr.output, hbr.size, hbr.block⟩⟩
        | false =>
          cases hz0 : z == 0 with
          | true =>
            have HB : Hid (E = 9) := FB.out k hlk (.inr (by rw [HF.out, hz0, hy0]; rfl))
            go_wp2_with fail
            go_quiet (fail)
            go_wp2_with fail
            go_ret
            exact ⟨ret_int HB.out.symm, ⟨hbr.os, hbr.tape, hbr.output, hbr.size, hbr.block⟩⟩
          | false =>
            go_wp2_with fail
            go_quiet (fail)
            go_wp2_with fail
            go_roundw
            case rel => exact ⟨k + 1, by omega, by go_num, fun j hj => by
              by_cases e : j = k
              · subst e; exact ⟨by rw [HXY.out.1, HXY.out.2, HE2.out], by rw [HF.out, hz0, hy0]; rfl⟩
              · exact HA.out j (by omega), fun a => hsame.out a, ⟨hbr.os, hbr.tape, hbr.output, hbr.size, hbr.block⟩⟩
            case measure => simp [intOf]; omega
      · have hxyb : (x != y) = true := by simp [hxy]
        have HB : Hid (E = 9) := FB.out k hlk (.inl (by rw [HXY.out.1, HXY.out.2]; exact hxy))
        clear hxy
        go_wp2_with fail
        go_quiet (fail)
        go_wp2_with fail
        go_ret
        exact ⟨ret_int HB.out.symm, ⟨hbr.os, hbr.tape, hbr.output, hbr.size, hbr.block⟩⟩
    · have HB : Hid (E = 0) := FG.out (fun n hn => HA.out n (by omega))
      have e5 : k = fn := by omega
      subst e5
      go_wp2_with fail
      go_ret
      exact ⟨ret_int HB.out.symm, hbr⟩

theorem checkImage_is {w : World} {v : Value} {m : ImgD} (h : Img w v m) {E : Int} (hE : checkE m = E) :
    Calls Try.prog 12 #[v] w fun r w' => r = .returned (.int .i64 E) ∧ Below w.heap.size w w' := by
  have h' := h
  obtain ⟨ra, rc, sa, sc, fa, fc, na, nc, rfl, h1, h2, h3, h4⟩ := h.parts
  by_cases h0 : shapeE m = 0
  · obtain ⟨z1, z2, z3, _⟩ := shapeE_zero h0
    obtain ⟨sb, so, sc', e, hcp, hlt, hcell⟩ := h2.open (slotsE_parts z2).1
    simp at e
    obtain ⟨rfl, rfl⟩ := e
    exact checkImage_at m.guest ra _ rc sb so _ sc fa _ fc na _ nc m E w h' rfl hlt hcell h3 z3 h0 hE
  · have e : shapeE m = E := by rw [← hE]; unfold checkE; rw [if_pos h0]
    exact checkImage_bad m.guest ra _ rc sa _ sc fa _ fc na _ nc m E w h' e (by rw [← e]; simpa using h0)

end Go.Proofs.Ytehleeibgkpjmag
/- Contract of the document's putOf. -/
namespace Go.Proofs.Ytehleeibgkpjmag
open Go.RowKit Go.Shelf
end Go.Proofs.Ytehleeibgkpjmag
/- The document's WriteOf: what lies in memory between its steps; plain facts. -/
namespace Go.Proofs.Ytehleeibgkpjmag
open Go.RowKit Go.Shelf


end Go.Proofs.Ytehleeibgkpjmag
/- The document's ResizeOf: the calls it leans on (CutOf's row is one's own; SameInts of two lists that differ). -/
namespace Go.Proofs.Ytehleeibgkpjmag
open Go.RowKit Go.Shelf

theorem one_newR (W : World) (x : Value) : ∀ (j : Nat) (u : Value), [x][j]? = some u → (W.alloc (.cells #[x] 3)).cell? ((⟨W.heap.size, 0, none⟩ : Addr).add j) = some u := by
  intro j u hj
  rw [addr_add, World.cell?_alloc_at _ _ _ _ rfl]
  match j, hj with
  | 0, hj => simpa using hj
theorem OwR.drew {V X : World} {D : Nat} {p : ImgD} (h : OwR V X D p) : OwR V X.drew D p := by
  obtain ⟨val, h1, h2, h3⟩ := h.ex
  exact ⟨⟨val, h1.drew, h2, h3⟩, h.ge, to_drew h.bel⟩
end Go.Proofs.Ytehleeibgkpjmag
/- The document's nose: byte, text, list. -/
namespace Go.Proofs.Ytehleeibgkpjmag
open Go.RowKit Go.Shelf Go.Lib
set_option maxRecDepth 20000
set_option linter.unusedVariables false
set_option linter.unusedSimpArgs false

structure NoX (W X : World) (R : Nat) (l : List UInt8) : Prop where
  os : X.os = W.os
  tape : X.tape = W.tape
  output : X.output = W.output
  size : W.heap.size ≤ X.heap.size
  keep : ∀ q, q < W.heap.size → q ≠ R → X.heap[q]? = W.heap[q]?
  box : X.heap[R]? = some (.cells #[.string (bstr (l))] 80)
theorem NoX.refl {W : World} {R : Nat} {l : List UInt8} (h : W.heap[R]? = some (.cells #[.string (bstr (l))] 80)) : NoX W W R l := ⟨rfl, rfl, rfl, Nat.le_refl _, fun _ _ _ => rfl, h⟩
theorem NoX.lt {W X : World} {R : Nat} {l : List UInt8} (h : NoX W X R l) : R < X.heap.size := (Array.getElem?_eq_some_iff.1 h.box).1
theorem NoX.trans {W X Y : World} {R : Nat} {l l' : List UInt8} (h : NoX W X R l) (k : NoX X Y R l') : NoX W Y R l' := ⟨k.os.trans h.os, k.tape.trans h.tape, k.output.trans h.output, Nat.le_trans h.size k.size, fun q hq hn => (k.keep q (Nat.lt_of_lt_of_le hq h.size) hn).trans (h.keep q hq hn), k.box⟩
theorem NoX.alloc {W X : World} {R : Nat} {l : List UInt8} (h : NoX W X R l) (o : Obj) : NoX W (X.alloc o) R l := ⟨h.os, h.tape, h.output, Nat.le_trans h.size (by simp), fun q hq hn => (Below.heap_alloc _ _ q (Nat.lt_of_lt_of_le hq h.size)).trans (h.keep q hq hn), cells_alloc h.box _⟩
theorem NoX.set {W X : World} {R : Nat} {l : List UInt8} (h : NoX W X R l) (l' : List UInt8) : NoX W (X.setCell ⟨R, 0, none⟩ (.string (bstr l'))) R l' := ⟨h.os, h.tape, h.output, Nat.le_trans h.size (by simp), fun q hq hn => (Below.heap_setCell _ ⟨R, 0, none⟩ _ q hn).trans (h.keep q hq hn), cells_set h.box 0 _⟩
theorem NoX.other {W X : World} {R g i : Nat} {l : List UInt8} (h : NoX W X R l) (hg : W.heap.size ≤ g) (hR : R < W.heap.size) (v : Value) : NoX W (X.setCell ⟨g, i, none⟩ v) R l := ⟨h.os, h.tape, h.output, Nat.le_trans h.size (by simp), fun q hq hn => (Below.heap_setCell _ ⟨g, i, none⟩ _ q (by show q ≠ g; omega)).trans (h.keep q hq hn), (Below.heap_setCell _ ⟨g, i, none⟩ _ R (by show R ≠ g; omega)).trans h.box⟩

theorem toList_nilN {u : ByteArray} (h : u.size = 0) : (u.toList == []) = true := by
  have : u.toList = [] := (ba_nil u).2 h
  rw [this]; rfl
theorem toList_someN {u : ByteArray} (h : 0 < u.size) : (u.toList == []) = false := by
  have : u.toList ≠ [] := fun e => by have := (ba_nil u).1 e; omega
  cases hx : u.toList with
  | nil => exact absurd hx this
  | cons a b => rfl
theorem nbyte_0 (R : Nat) (W : World) (hb : W.heap[R]? = some (.cells #[.string (bstr ([]))] 80)) :
    Calls Try.prog 43 #[.pointer (some ⟨R, 0, none⟩)] W fun r W' => r = .returned (.int .i64 0) ∧ W' = W := by
  have c0 : W.cell? ⟨R, 0, none⟩ = some (.string (bstr [])) := by simp [World.cell?, hb]
  have h1 : ((bstr []).toList == []) = true := toList_nilN rfl
  go_enter Try.func43, Try.ntmps43
  go_wp2
  go_ret
  exact ⟨rfl, rfl⟩
theorem nbyte_1 (R : Nat) (a : UInt8) (l : List UInt8) (W : World) (hb : W.heap[R]? = some (.cells #[.string (bstr (a :: l))] 80)) (hm : l.length < 4096) :
    Calls Try.prog 43 #[.pointer (some ⟨R, 0, none⟩)] W fun r W' => r = .returned (.int .i64 (a.toNat : Int)) ∧ W' = W.setCell ⟨R, 0, none⟩ (.string (bstr l)) := by
  have c0 : W.cell? ⟨R, 0, none⟩ = some (.string (bstr (a :: l))) := by simp [World.cell?, hb]
  have f0 := cells_frozen hb 0
  have hd := bstr_drop (a :: l) 1
  obtain ⟨u, hu⟩ : ∃ u, bstr (a :: l) = u := ⟨_, rfl⟩
  have hsz : u.size = l.length + 1 := by rw [← hu, bstr_size]; rfl
  have h0 : 0 < u.size := by omega
  have h1 := toList_someN h0
  have hx : u[0] = a := by subst hu; rfl
  rw [hu] at c0 hd
  have h2 : 1 ≤ u.size := by omega
  have h4 : u.size ≤ 4096 := by omega
  have ha : a.toNat < 256 := a.toNat_lt
  have HD : Hid (u.extract 1 u.size = bstr l) := hd
  have HX : Hid (u[0] = a) := hx
  clear hu hsz hd hb hm hx
  go_enter Try.func43, Try.ntmps43
  go_wp2
  go_ret
  exact ⟨ret_int (by show wrap64 (u[0].toNat : Int) = (a.toNat : Int); rw [HX.out]; unfold wrap64; omega), by rw [← HD.out]⟩
theorem nbyte_is {R : Nat} {l : List UInt8} {W : World} (hb : W.heap[R]? = some (.cells #[.string (bstr (l))] 80)) (hm : l.length ≤ 4096) :
    Calls Try.prog 43 #[.pointer (some ⟨R, 0, none⟩)] W fun r W' => r = .returned (.int .i64 ((nNum l).1 : Int)) ∧ NoX W W' R (nNum l).2 := by
  cases l with
  | nil => exact (nbyte_0 R W hb).mono fun r W' h => ⟨h.1, by rw [h.2]; exact NoX.refl hb⟩
  | cons a l => exact (nbyte_1 R a l W hb (by simp at hm; omega)).mono fun r W' h => ⟨h.1, by rw [h.2]; exact (NoX.refl hb).set l⟩
theorem wp_addN {W : World} {o : Oper} {a : Act} {K : Act → World → Prop} {Q : Exit → Act → World → Prop} (s x : Operand)
    (ho : o.op = .call { callee := .builtin .append, args := #[s, x], argTypes := #[22, 22] }) {B n : Nat} {v : Value} {xs : List Int} {e : Int}
    (hs : a.eval s = v) {N : Nat} (hx : a.eval x = .slice (some ⟨N, 0, none⟩) 1 1) (hN : N = W.heap.size) (hown : W.ownsRow B 3 1 v n (ints xs)) (hn : n ≤ 1000) (hB : B ≤ W.heap.size)
    (h : ∀ v' w', Hid (w'.ownsRow B 3 1 v' (n + 1) (ints (xs ++ [e]))) → Hid ((W.alloc (.cells #[.int .i64 e] 3)).grownBy w' v.ownBlock) → Hid (v'.ownBlock = v.ownBlock ∨ v'.ownBlock = some (W.heap.size + 1)) → K (a.put o.dst v') w') : o.wp Try.prog a (W.alloc (.cells #[.int .i64 e] 3)) K Q := by
  subst hN
  obtain ⟨i0, hi, hz0, hz1, hz2⟩ := info_parts info3
  obtain ⟨v', w', hr, g2, g3, _, g5⟩ := run_append_own_at (P := Try.prog) (W.alloc (.cells #[.int .i64 e] 3)) B 22 o.type 3 i0 (.int .i64 0) 1 8 Try.underlying22 hi hz0 hz1 hz2 rfl (by decide) v n (ints xs) (hown.alloc _) ⟨W.heap.size, 0, none⟩ 1 1 [.int .i64 e] rfl (one_newR W _) (by intro u hu; simp at hu; subst hu; rfl) (by unfold maxLen; omega) (by omega) (by simp; omega)
  unfold Oper.wp execOp
  simp only [ho, resolve, invoke, builtin, Sem.run_bind, Sem.run_pure, Result.andThen_ok, List.map_toArray, List.map_cons, List.map_nil, hs, hx, hr]
  have g6 : v'.ownBlock = v.ownBlock ∨ v'.ownBlock = some (W.heap.size + 1) := by simpa using g5
  have e1 : ints (xs ++ [e]) = ints xs ++ [.int .i64 e] := by unfold ints; simp
  exact h v' w' (by rw [e1]; exact g2) g3 g6

theorem wpList_addN {W : World} {ops : Array Oper} {rest : List Oper} {o : Oper} {a : Act} {Q : Exit → Act → World → Prop} (hgd : o.guard = none) (s x : Operand)
    (ho : o.op = .call { callee := .builtin .append, args := #[s, x], argTypes := #[22, 22] }) {B n : Nat} {v : Value} {xs : List Int} {e : Int}
    (hs : a.eval s = v) {N : Nat} (hx : a.eval x = .slice (some ⟨N, 0, none⟩) 1 1) (hN : N = W.heap.size) (hown : W.ownsRow B 3 1 v n (ints xs)) (hn : n ≤ 1000) (hB : B ≤ W.heap.size)
    (h : ∀ v' w', Hid (w'.ownsRow B 3 1 v' (n + 1) (ints (xs ++ [e]))) → Hid ((W.alloc (.cells #[.int .i64 e] 3)).grownBy w' v.ownBlock) → Hid (v'.ownBlock = v.ownBlock ∨ v'.ownBlock = some (W.heap.size + 1)) → wpList Try.prog ops Q rest (a.put o.dst v') w') : wpList Try.prog ops Q (o :: rest) a (W.alloc (.cells #[.int .i64 e] 3)) :=
  wpList_plain hgd fun _ hK => wp_addN s x ho hs hx hN hown hn hB fun v' w' g1 g2 g3 => hK _ _ (h v' w' g1 g2 g3)
set_option maxHeartbeats 1000000 in
theorem ntext_a (R n : Nat) (l : List UInt8) (W : World) (hb : W.heap[R]? = some (.cells #[.string (bstr (l))] 80)) (hn : n ≤ l.length) (hm : l.length ≤ 4096) :
    Calls Try.prog 44 #[.pointer (some ⟨R, 0, none⟩), .int .i64 (n : Int)] W fun r W' => r = .returned (.string (bstr (l.take n))) ∧ W' = W.setCell ⟨R, 0, none⟩ (.string (bstr (l.drop n))) := by
  have c0 : W.cell? ⟨R, 0, none⟩ = some (.string (bstr l)) := by simp [World.cell?, hb]
  have f0 := cells_frozen hb 0
  have ht := bstr_take l n
  have hd := bstr_drop l n
  obtain ⟨u, hu⟩ : ∃ u, bstr l = u := ⟨_, rfl⟩
  have hsz : u.size = l.length := by rw [← hu, bstr_size]
  rw [hu] at c0 ht hd
  have h1 : n ≤ u.size := by omega
  have h2 : (n : Int) ≤ (u.size : Int) := by omega
  have h3 : ¬ (u.size : Int) < (n : Int) := by omega
  have h4 : u.size ≤ 4096 := by omega
  have HT : Hid (u.extract 0 n = bstr (l.take n) ∧ u.extract n u.size = bstr (l.drop n)) := ⟨ht, hd⟩
  clear ht hd hu hsz hb hm hn
  go_enter Try.func44, Try.ntmps44
  go_wp2
  go_ret
  exact ⟨by rw [← HT.out.1]; rfl, by rw [← HT.out.2]⟩
set_option maxHeartbeats 1000000 in
theorem ntext_b (R n : Nat) (l : List UInt8) (W : World) (hb : W.heap[R]? = some (.cells #[.string (bstr (l))] 80)) (hn : l.length < n) (hm : l.length ≤ 4096) :
    Calls Try.prog 44 #[.pointer (some ⟨R, 0, none⟩), .int .i64 (n : Int)] W fun r W' => r = .returned (.string (bstr (l.take n))) ∧ W' = W.setCell ⟨R, 0, none⟩ (.string (bstr (l.drop n))) := by
  have c0 : W.cell? ⟨R, 0, none⟩ = some (.string (bstr l)) := by simp [World.cell?, hb]
  have f0 := cells_frozen hb 0
  have ht := bstr_take l l.length
  have hd := bstr_drop l l.length
  rw [List.take_length] at ht
  rw [List.drop_length] at hd
  have e1 : l.take n = l := List.take_of_length_le (by omega)
  have e2 : l.drop n = [] := List.drop_of_length_le (by omega)
  rw [e1, e2]
  obtain ⟨u, hu⟩ : ∃ u, bstr l = u := ⟨_, rfl⟩
  have hsz : u.size = l.length := by rw [← hu, bstr_size]
  rw [hu] at c0 ht hd ⊢
  rw [← hsz] at ht hd
  have h3 : (u.size : Int) < (n : Int) := by omega
  have h4 : u.size ≤ 4096 := by omega
  have HT : Hid (u.extract 0 u.size = u ∧ u.extract u.size u.size = bstr []) := ⟨ht, hd⟩
  clear ht hd hu hsz hb hm hn e1 e2
  go_enter Try.func44, Try.ntmps44
  go_wp2
  go_ret
  exact ⟨rfl, rfl⟩
theorem ntext_is {R : Nat} {n : Nat} {l : List UInt8} {W : World} (hb : W.heap[R]? = some (.cells #[.string (bstr (l))] 80)) (hm : l.length ≤ 4096) :
    Calls Try.prog 44 #[.pointer (some ⟨R, 0, none⟩), .int .i64 (n : Int)] W fun r W' => r = .returned (.string (bstr (nText n l).1)) ∧ NoX W W' R (nText n l).2 := by
  by_cases h : n ≤ l.length
  · exact (ntext_a R n l W hb h hm).mono fun r W' h => ⟨h.1, by rw [h.2]; exact (NoX.refl hb).set _⟩
  · exact (ntext_b R n l W hb (by omega) hm).mono fun r W' h => ⟨h.1, by rw [h.2]; exact (NoX.refl hb).set _⟩
theorem Hid_mkZ {p : Prop} (h : p) : Hid p := h
theorem row_blkS1 {W W' : World} {B n size : Nat} {e : TypeId} {v : Value} {xs : List Value} (h : W.ownsRow B e size v n xs) (hb : ∀ g, v.ownBlock = some g → W'.heap[g]? = W.heap[g]?) : W'.ownsRow B e size v n xs := by
  refine ⟨h.1, ?_⟩
  rcases h.2 with hn | ⟨g, cap, cur, hv, hb', hg, rest⟩
  · exact .inl hn
  · exact .inr ⟨g, cap, cur, hv, hb', (hb g (by rw [hv]; rfl)).trans hg, rest⟩
theorem NoX.grow {W X Y : World} {R : Nat} {l : List UInt8} {v : Value} (h : NoX W X R l) (hR : R < W.heap.size) (g : X.grownBy Y v.ownBlock) (hv : ∀ q, v.ownBlock = some q → W.heap.size ≤ q) : NoX W Y R l :=
  ⟨g.os.trans h.os, g.tape.trans h.tape, g.output.trans h.output, Nat.le_trans h.size g.size, fun q hq hn => (g.block q (Nat.lt_of_lt_of_le hq h.size) (fun e => by have := hv q e.symm; omega)).trans (h.keep q hq hn), (g.block R h.lt (fun e => by have := hv R e.symm; omega)).trans h.box⟩
set_option maxHeartbeats 2000000 in
theorem nlist_at (R n : Nat) (l : List UInt8) (W : World) (hb : W.heap[R]? = some (.cells #[.string (bstr (l))] 80)) (hn : n ≤ 1000) (hm : ∀ k, (nList k l).2.length ≤ 4096) :
    Calls Try.prog 45 #[.pointer (some ⟨R, 0, none⟩), .int .i64 (n : Int)] W fun r W' => ∃ va, r = .returned va ∧ NoX W W' R (nList n l).2 ∧ W'.ownsRow W.heap.size 3 1 va n (ints (nList n l).1) := by
  have hR : R < W.heap.size := (Array.getElem?_eq_some_iff.1 hb).1
  have H0 : Hid (NoX W W R (nList 0 l).2 ∧ W.ownsRow W.heap.size 3 1 (.slice none 0 0) 0 (ints (nList 0 l).1)) := ⟨NoX.refl hb, World.ownsRow_nil _ _ _ _⟩
  have HM : Hid (∀ k, (nList k l).2.length ≤ 4096) := hm
  clear hb hm
  go_enter Try.func45, Try.ntmps45
  go_wp2_with fail
  go_loopw [5, 6, 7] (fun o i _ wr => ∃ k pa pc, k ≤ n ∧ i = .int .i64 (k : Int) ∧ o = .slice pa k pc ∧ Hid (NoX W wr R (nList k l).2 ∧ wr.ownsRow W.heap.size 3 1 (.slice pa k pc) k (ints (nList k l).1))) (fun _ i _ _ => n - (intOf i).toNat)
  case atStart => exact ⟨0, none, 0, Nat.zero_le _, rfl, rfl, H0⟩
  case round =>
    obtain ⟨k, pa, pc, hk, rfl, rfl, HC⟩ := hrel
    by_cases hlk : k < n
    · have hki : (k : Int) < (n : Int) := by omega
      obtain ⟨x, hx⟩ : ∃ x, (nNum (nList k l).2).1 = x := ⟨_, rfl⟩
      have hb := nbyte_is HC.out.1.box (HM.out k)
      rw [hx] at hb
      have HB := Hid_mkZ hb
      have HE : Hid ((nList (k + 1) l).1 = (nList k l).1 ++ [nEnt x] ∧ (nList (k + 1) l).2 = (nNum (nList k l).2).2) := ⟨by rw [← hx]; rfl, rfl⟩
      clear hb hx
      rcases Bool.eq_false_or_eq_true ((x : Int) == 255) with h5 | h5
      · have HF : Hid (nEnt x = -1) := by show nEnt x = -1; unfold nEnt; rw [if_pos (by have := beq_iff_eq.1 h5; omega)]
        go_wp2_with (first | (at_builtin; refine wpList_addN (by rfl) _ _ (by rfl) (W := w1) (B := W.heap.size) (n := k) (v := .slice pa k pc) (xs := (nList k l).1) (e := -1) (by rfl) (N := w1.heap.size) (by rfl) (by rfl) hr1 (by omega) (by omega) ?_; intro v8 w8 g1 g2 g3; obtain ⟨ga, gc, hv8⟩ := row_slice g1.out; subst hv8) | (go_at_call 43; refine HB.out.mono ?_; rintro e9 w1 ⟨rfl, T1⟩; have hr1 := row_blkS1 HC.out.2 (W' := w1) (fun q hq => T1.keep q (HC.out.2.lt q hq).2 (by have := (HC.out.2.lt q hq).1; omega)); have hsz1 : W.heap.size ≤ w1.heap.size := (by have := T1.size; have := HC.out.1.size; omega); have HT1 := Hid_mkZ (HC.out.1.trans T1); clear T1))
        have HN : Hid (NoX W w8 R (nList (k + 1) l).2 ∧ w8.ownsRow W.heap.size 3 1 (.slice ga (k + 1) gc) (k + 1) (ints (nList (k + 1) l).1)) := by
          rw [HE.out.1, HE.out.2, HF.out]
          exact ⟨(HT1.out.alloc _).grow hR g2.out (fun q e => (hr1.lt q e).1), g1.out⟩
        go_roundw
        case rel => exact ⟨k + 1, ga, gc, by omega, by go_num, rfl, HN⟩
        case measure => simp [intOf]; omega
      · have HF : Hid (nEnt x = (x : Int)) := by show nEnt x = _; unfold nEnt; rw [if_neg (by have := beq_eq_false_iff_ne.1 h5; omega)]
        go_wp2_with (first | (at_builtin; refine wpList_addN (by rfl) _ _ (by rfl) (W := w1) (B := W.heap.size) (n := k) (v := .slice pa k pc) (xs := (nList k l).1) (e := (x : Int)) (by rfl) (N := w1.heap.size) (by rfl) (by rfl) hr1 (by omega) (by omega) ?_; intro v8 w8 g1 g2 g3; obtain ⟨ga, gc, hv8⟩ := row_slice g1.out; subst hv8) | (go_at_call 43; refine HB.out.mono ?_; rintro e9 w1 ⟨rfl, T1⟩; have hr1 := row_blkS1 HC.out.2 (W' := w1) (fun q hq => T1.keep q (HC.out.2.lt q hq).2 (by have := (HC.out.2.lt q hq).1; omega)); have hsz1 : W.heap.size ≤ w1.heap.size := (by have := T1.size; have := HC.out.1.size; omega); have HT1 := Hid_mkZ (HC.out.1.trans T1); clear T1))
        have HN : Hid (NoX W w8 R (nList (k + 1) l).2 ∧ w8.ownsRow W.heap.size 3 1 (.slice ga (k + 1) gc) (k + 1) (ints (nList (k + 1) l).1)) := by
          rw [HE.out.1, HE.out.2, HF.out]
          exact ⟨(HT1.out.alloc _).grow hR g2.out (fun q e => (hr1.lt q e).1), g1.out⟩
        go_roundw
        case rel => exact ⟨k + 1, ga, gc, by omega, by go_num, rfl, HN⟩
        case measure => simp [intOf]; omega
    · have hki : ¬ (k : Int) < (n : Int) := by omega
      have HR : Hid (NoX W wr R (nList n l).2 ∧ wr.ownsRow W.heap.size 3 1 (.slice pa k pc) n (ints (nList n l).1)) := by
        have e : k = n := by omega
        have h9 := HC.out
        rw [e] at h9 ⊢
        exact h9
      clear HC
      go_wp2_with fail
      go_ret
      exact ⟨.slice pa k pc, rfl, HR.out.1, HR.out.2⟩

end Go.Proofs.Ytehleeibgkpjmag
/- parsed: the image whose bytes these are, or none. -/
namespace Go.Proofs.Ytehleeibgkpjmag
open Go.RowKit Go.Shelf Go.Lib
set_option maxRecDepth 20000
set_option linter.unusedVariables false
set_option linter.unusedSimpArgs false

def PrsA (w : World) (L : List UInt8) (e : Ending) (W' : World) : Prop :=
  (∃ m, parse L = some m ∧ ∃ a0 c0 a1 c1 a2 c2 a3 c3, e = .returned (.tuple #[(.agg #[.int .i64 m.guest, .slice a0 m.root.length c0, .slice a1 m.slots.length c1, .slice a2 m.refs.length c2, .slice a3 m.snaps.length c3]), .bool true]) ∧ (∀ Y : World, (∀ q, w.heap.size ≤ q → q < W'.heap.size → Y.heap[q]? = W'.heap[q]?) → Img Y (.agg #[.int .i64 m.guest, .slice a0 m.root.length c0, .slice a1 m.slots.length c1, .slice a2 m.refs.length c2, .slice a3 m.snaps.length c3]) m) ∧ Below w.heap.size w W') ∨ (parse L = none ∧ e = .returned (.tuple #[(.agg #[.int .i64 0, .slice none 0 0, .slice none 0 0, .slice none 0 0, .slice none 0 0]), .bool false]) ∧ Below w.heap.size w W')
theorem pw_after {w w' : World} {b c : Nat} {x0 x1 x2 x3 x4 y : Value} (hm : w.heap[b]? = some (.cells #[x0, x1, x2, x3, x4] 26)) (hc : w.heap[c]? = some (.cells #[y] 4)) (hbc : ¬ b = c)
    (hw : w' = ((((((w.setCell ⟨b, 0, none⟩ (.int .i64 0)).setCell ⟨b, 1, none⟩ (.slice none 0 0)).setCell ⟨b, 2, none⟩ (.slice none 0 0)).setCell ⟨b, 3, none⟩ (.slice none 0 0)).setCell ⟨b, 4, none⟩ (.slice none 0 0)).setCell ⟨c, 0, none⟩ (.bool false)).alloc (.cells #[] 110)) :
    w'.heap[b]? = some (.cells #[.int .i64 0, .slice none 0 0, .slice none 0 0, .slice none 0 0, .slice none 0 0] 26) ∧ w'.heap[c]? = some (.cells #[.bool false] 4) ∧ ∀ (B : Nat) (W0 : World), B ≤ b → B ≤ c → Below B W0 w → Below B W0 w' := by
  have h0 := cells_set hm 0 (.int .i64 0)
  have h1 := cells_set h0 1 (.slice none 0 0)
  have h2 := cells_set h1 2 (.slice none 0 0)
  have h3 := cells_set h2 3 (.slice none 0 0)
  have h4 := cells_set h3 4 (.slice none 0 0)
  have hcb : c ≠ b := fun e => hbc e.symm
  have g0 := (Below.heap_setCell w ⟨b, 0, none⟩ (.int .i64 0) c hcb).trans hc
  have g1 := (Below.heap_setCell _ ⟨b, 1, none⟩ (.slice none 0 0) c hcb).trans g0
  have g2 := (Below.heap_setCell _ ⟨b, 2, none⟩ (.slice none 0 0) c hcb).trans g1
  have g3 := (Below.heap_setCell _ ⟨b, 3, none⟩ (.slice none 0 0) c hcb).trans g2
  have g4 := (Below.heap_setCell _ ⟨b, 4, none⟩ (.slice none 0 0) c hcb).trans g3
  have h5 := (Below.heap_setCell _ ⟨c, 0, none⟩ (.bool false) b (fun e => hbc e)).trans h4
  have g5 := cells_set g4 0 (.bool false)
  refine ⟨by rw [hw]; exact cells_alloc h5 _, by rw [hw]; exact cells_alloc g5 _, fun B W0 hb hc' hB => ?_⟩
  rw [hw]
  have key : Below B W0 ((((((w.setCell ⟨b, 0, none⟩ (.int .i64 0)).setCell ⟨b, 1, none⟩ (.slice none 0 0)).setCell ⟨b, 2, none⟩ (.slice none 0 0)).setCell ⟨b, 3, none⟩ (.slice none 0 0)).setCell ⟨b, 4, none⟩ (.slice none 0 0)).setCell ⟨c, 0, none⟩ (.bool false)) := (((((hB.setCell (p := ⟨b, 0, none⟩) hb _).setCell (p := ⟨b, 1, none⟩) hb _).setCell (p := ⟨b, 2, none⟩) hb _).setCell (p := ⟨b, 3, none⟩) hb _).setCell (p := ⟨b, 4, none⟩) hb _).setCell (p := ⟨c, 0, none⟩) hc' _
  refine key.alloc ?_ _
  have := (Array.getElem?_eq_some_iff.1 g5).1
  omega
theorem set_six {w w' : World} {b c : Nat} {x0 x1 x2 x3 x4 y v0 v1 v2 v3 v4 u : Value} (hm : w.heap[b]? = some (.cells #[x0, x1, x2, x3, x4] 26)) (hc : w.heap[c]? = some (.cells #[y] 4)) (hbc : ¬ b = c)
    (hw : w' = (((((w.setCell ⟨b, 0, none⟩ v0).setCell ⟨b, 1, none⟩ v1).setCell ⟨b, 2, none⟩ v2).setCell ⟨b, 3, none⟩ v3).setCell ⟨b, 4, none⟩ v4).setCell ⟨c, 0, none⟩ u) :
    w'.heap[b]? = some (.cells #[v0, v1, v2, v3, v4] 26) ∧ w'.heap[c]? = some (.cells #[u] 4) ∧ (∀ q, q ≠ b → q ≠ c → w'.heap[q]? = w.heap[q]?) ∧ ∀ (B : Nat) (W0 : World), B ≤ b → B ≤ c → Below B W0 w → Below B W0 w' := by
  have h0 := cells_set hm 0 v0
  have h1 := cells_set h0 1 v1
  have h2 := cells_set h1 2 v2
  have h3 := cells_set h2 3 v3
  have h4 := cells_set h3 4 v4
  have hcb : c ≠ b := fun e => hbc e.symm
  have hq : ∀ q, q ≠ b → (((((w.setCell ⟨b, 0, none⟩ v0).setCell ⟨b, 1, none⟩ v1).setCell ⟨b, 2, none⟩ v2).setCell ⟨b, 3, none⟩ v3).setCell ⟨b, 4, none⟩ v4).heap[q]? = w.heap[q]? := fun q hq => by rw [Below.heap_setCell _ ⟨b, 4, none⟩ _ q hq, Below.heap_setCell _ ⟨b, 3, none⟩ _ q hq, Below.heap_setCell _ ⟨b, 2, none⟩ _ q hq, Below.heap_setCell _ ⟨b, 1, none⟩ _ q hq, Below.heap_setCell _ ⟨b, 0, none⟩ _ q hq]
  have h5 := (Below.heap_setCell _ ⟨c, 0, none⟩ u b (fun e => hbc e)).trans h4
  have g5 := cells_set ((hq c hcb).trans hc) 0 u
  refine ⟨by rw [hw]; exact h5, by rw [hw]; exact g5, fun q hb hc' => by rw [hw, Below.heap_setCell _ ⟨c, 0, none⟩ u q hc']; exact hq q hb, fun B W0 hb hc' hB => ?_⟩
  rw [hw]
  exact (((((hB.setCell (p := ⟨b, 0, none⟩) hb _).setCell (p := ⟨b, 1, none⟩) hb _).setCell (p := ⟨b, 2, none⟩) hb _).setCell (p := ⟨b, 3, none⟩) hb _).setCell (p := ⟨b, 4, none⟩) hb _).setCell (p := ⟨c, 0, none⟩) hc' _
theorem rd_below {w W W' : World} {R : Nat} {l : List UInt8} (hb : Below w.heap.size w W) (hR : W.heap.size = R + 1) (hwR : w.heap.size ≤ R) (h : RdT W W' R l) : Below w.heap.size w W' :=
  ⟨h.os.trans hb.os, h.tape.trans hb.tape, h.output.trans hb.output, Nat.le_trans hb.size h.size, fun q hq => (h.keep q (by omega) (by omega)).trans (hb.block q hq)⟩
set_option maxHeartbeats 1000000 in
theorem parsed_is (L : List UInt8) (w : World) (hm : L.length ≤ 4096) : Calls Try.prog 41 #[.string (bstr L)] w (PrsA w L) := by
  have hmf : ∀ (fn : Fn) (first cap : Array Value) (w : World), (Instr.makeFunc fn first cap).run Try.prog w = .ok (.func fn first cap) w := fun _ _ _ _ => rfl
  have m0 : (((w.alloc (.cells #[.int .i64 0, .slice none 0 0, .slice none 0 0, .slice none 0 0, .slice none 0 0] 26)).alloc (.cells #[.bool false] 4)).alloc (.cells #[.string (bstr L)] 112)).heap[w.heap.size]? = some (.cells #[.int .i64 0, .slice none 0 0, .slice none 0 0, .slice none 0 0, .slice none 0 0] 26) := cells_alloc (cells_alloc (World.alloc_heap_new _ _) _) _
  have m1 : (((w.alloc (.cells #[.int .i64 0, .slice none 0 0, .slice none 0 0, .slice none 0 0, .slice none 0 0] 26)).alloc (.cells #[.bool false] 4)).alloc (.cells #[.string (bstr L)] 112)).heap[w.heap.size + 1]? = some (.cells #[.bool false] 4) := cells_alloc (by have := World.alloc_heap_new (w.alloc (.cells #[.int .i64 0, .slice none 0 0, .slice none 0 0, .slice none 0 0, .slice none 0 0] 26)) (.cells #[.bool false] 4); simpa using this) _
  have m2 : (((w.alloc (.cells #[.int .i64 0, .slice none 0 0, .slice none 0 0, .slice none 0 0, .slice none 0 0] 26)).alloc (.cells #[.bool false] 4)).alloc (.cells #[.string (bstr L)] 112)).heap[w.heap.size + 1 + 1]? = some (.cells #[.string (bstr L)] 112) := by have := World.alloc_heap_new ((w.alloc (.cells #[.int .i64 0, .slice none 0 0, .slice none 0 0, .slice none 0 0, .slice none 0 0] 26)).alloc (.cells #[.bool false] 4)) (.cells #[.string (bstr L)] 112); simpa using this
  have hz3 : (((w.alloc (.cells #[.int .i64 0, .slice none 0 0, .slice none 0 0, .slice none 0 0, .slice none 0 0] 26)).alloc (.cells #[.bool false] 4)).alloc (.cells #[.string (bstr L)] 112)).heap.size = w.heap.size + 1 + 1 + 1 := by simp
  have b0 : Below w.heap.size w (((w.alloc (.cells #[.int .i64 0, .slice none 0 0, .slice none 0 0, .slice none 0 0, .slice none 0 0] 26)).alloc (.cells #[.bool false] 4)).alloc (.cells #[.string (bstr L)] 112)) := (((Below.refl _ _).alloc (Nat.le_refl _) _).alloc (by simp) _).alloc (by simp <;> omega) _
  have HIm := Hid_mkG (image_is (w.heap.size + 1 + 1) L (((w.alloc (.cells #[.int .i64 0, .slice none 0 0, .slice none 0 0, .slice none 0 0, .slice none 0 0] 26)).alloc (.cells #[.bool false] 4)).alloc (.cells #[.string (bstr L)] 112)) m2 hm)
  have HM := Hid_mkG (And.intro m0 (And.intro m1 (And.intro hz3 b0)))
  clear m0 m1 m2 hz3 b0
  go_enter_defers Try.func41, Try.ntmps41
  go_wp2_with fail
  refine HIm.out.mono ?_
  rintro e W' (⟨m, r, hp, a0, c0, a1, c1, a2, c2, a3, c3, rfl, T, F⟩ | ⟨hp, rfl, l', T⟩)
  · dsimp only
    have bb : Below w.heap.size w W' := rd_below HM.out.2.2.2 HM.out.2.2.1 (by omega) T
    have k0 := (T.keep w.heap.size (by rw [HM.out.2.2.1]; omega) (by omega)).trans HM.out.1
    have k1 := (T.keep (w.heap.size + 1) (by rw [HM.out.2.2.1]; omega) (by omega)).trans HM.out.2.1
    have k2 := T.box
    have sz := HM.out.2.2.1
    obtain ⟨x0, x1, x2, x3, x4⟩ := five k0
    have f0 := cells_frozen k0 0
    have f1 := cells_frozen k0 1
    have f2 := cells_frozen k0 2
    have f3 := cells_frozen k0 3
    have f4 := cells_frozen k0 4
    have g0 := cells_set k0 0 (.int .i64 m.guest)
    have g1 := cells_set g0 1 (.slice a0 m.root.length c0)
    have g2 := cells_set g1 2 (.slice a1 m.slots.length c1)
    have g3 := cells_set g2 3 (.slice a2 m.refs.length c2)
    have g4 := cells_set g3 4 (.slice a3 m.snaps.length c3)
    obtain ⟨W4, hW4⟩ : ∃ X, ((((W'.setCell ⟨w.heap.size, 0, none⟩ (.int .i64 m.guest)).setCell ⟨w.heap.size, 1, none⟩ (.slice a0 m.root.length c0)).setCell ⟨w.heap.size, 2, none⟩ (.slice a1 m.slots.length c1)).setCell ⟨w.heap.size, 3, none⟩ (.slice a2 m.refs.length c2)).setCell ⟨w.heap.size, 4, none⟩ (.slice a3 m.snaps.length c3) = X := ⟨_, rfl⟩
    have hk4 : ∀ q, q ≠ w.heap.size → W4.heap[q]? = W'.heap[q]? := fun q hq => by rw [← hW4, Below.heap_setCell _ ⟨w.heap.size, 4, none⟩ _ q hq, Below.heap_setCell _ ⟨w.heap.size, 3, none⟩ _ q hq, Below.heap_setCell _ ⟨w.heap.size, 2, none⟩ _ q hq, Below.heap_setCell _ ⟨w.heap.size, 1, none⟩ _ q hq, Below.heap_setCell _ ⟨w.heap.size, 0, none⟩ _ q hq]
    have hb4 : Below w.heap.size w W4 := by rw [← hW4]; exact ((((bb.setCell (p := ⟨w.heap.size, 0, none⟩) (Nat.le_refl _) _).setCell (p := ⟨w.heap.size, 1, none⟩) (Nat.le_refl _) _).setCell (p := ⟨w.heap.size, 2, none⟩) (Nat.le_refl _) _).setCell (p := ⟨w.heap.size, 3, none⟩) (Nat.le_refl _) _).setCell (p := ⟨w.heap.size, 4, none⟩) (Nat.le_refl _) _
    rw [hW4] at g4
    have k1 := (hk4 (w.heap.size + 1) (by omega)).trans k1
    have k2 := (hk4 (w.heap.size + 1 + 1) (by omega)).trans k2
    have HF := Hid_mkG F
    have Hk := Hid_mkG (And.intro hk4 hb4)
    have Hz := Hid_mkG sz
    have r0 : W4.cell? ⟨w.heap.size + 1 + 1, 0, none⟩ = some (.string (bstr r)) := by simp only [World.cell?, k2]; rfl
    have HT := Hid_mkG T
    have Hk0 := Hid_mkG g4
    have Hk1 := Hid_mkG k1
    clear g0 g1 g2 g3 F T k2 sz hk4 hb4 bb k0
    go_upto_region 4 with fail
    try rw [hW4]
    clear x0 x1 x2 x3 x4 f0 f1 f2 f3 f4 hW4 HIm
    by_cases hr : r = []
    · subst hr
      have hs : ((bstr ([] : List UInt8)).toList == []) = true := toList_nilN (by rw [bstr_size]; rfl)
      have hs2 : ((bstr ([] : List UInt8)).toList != []) = false := by rw [bne, hs]; rfl
      obtain ⟨u, hu⟩ : ∃ x, bstr ([] : List UInt8) = x := ⟨_, rfl⟩
      rw [hu] at r0 hs hs2
      clear hu
      have hyes : parse L = some m := by unfold parse; rw [hp]; rfl
      have Hy := Hid_mkG hyes
      obtain ⟨v0, v1, v2, v3, v4⟩ := five g4
      have f0 := cells_frozen g4 0
      have f1 := cells_frozen g4 1
      have f2 := cells_frozen g4 2
      have f3 := cells_frozen g4 3
      have f4 := cells_frozen g4 4
      have b1 : W4.cell? ⟨w.heap.size + 1, 0, none⟩ = some (.bool false) := by simp only [World.cell?, k1]; rfl
      have bf := cells_frozen k1 0
      clear hyes hp g4 k1
      go_wp2_with fail
      obtain ⟨W6, hW6⟩ : ∃ X, X = (((((W4.setCell ⟨w.heap.size, 0, none⟩ (.int .i64 m.guest)).setCell ⟨w.heap.size, 1, none⟩ (.slice a0 m.root.length c0)).setCell ⟨w.heap.size, 2, none⟩ (.slice a1 m.slots.length c1)).setCell ⟨w.heap.size, 3, none⟩ (.slice a2 m.refs.length c2)).setCell ⟨w.heap.size, 4, none⟩ (.slice a3 m.snaps.length c3)).setCell ⟨w.heap.size + 1, 0, none⟩ (.bool true) := ⟨_, rfl⟩
      obtain ⟨e1, e2, e3, e4⟩ := set_six Hk0.out Hk1.out (by omega) hW6
      have hB6 := e4 _ _ (Nat.le_refl _) (Nat.le_succ _) Hk.out.2
      have hI6 : ∀ Y : World, (∀ q, w.heap.size ≤ q → q < W6.heap.size → Y.heap[q]? = W6.heap[q]?) → Img Y (.agg #[.int .i64 m.guest, .slice a0 m.root.length c0, .slice a1 m.slots.length c1, .slice a2 m.refs.length c2, .slice a3 m.snaps.length c3]) m := fun Y hY => HF.out _ (fun q hq hl => by
        have hz := Hz.out
        have hq0 : q ≠ w.heap.size := by omega
        have h6 := (e3 q hq0 (by omega)).trans (Hk.out.1 q hq0)
        refine (hY q (by omega) ?_).trans h6
        rw [Array.getElem?_eq_getElem hl] at h6
        exact (Array.getElem?_eq_some_iff.1 h6).1)
      rw [← hW6]
      clear hW6 e3 e4
      obtain ⟨z0, z1, z2, z3, z4⟩ := five e1
      have ce : W6.cell? ⟨w.heap.size + 1, 0, none⟩ = some (.bool true) := by simp only [World.cell?, e2]; rfl
      clear e1 e2
      refine leaves_cons (f := 70) (args := #[.pointer (some ⟨w.heap.size, 0, none⟩), .pointer (some ⟨w.heap.size + 1, 0, none⟩)]) (by simp) (by simp [go_sem]) ?_
      refine (pcatch_idle _ _ _).mono ?_
      rintro e u' w'' ⟨rfl, rfl, rfl⟩
      refine ⟨.tuple #[(.agg #[.int .i64 m.guest, .slice a0 m.root.length c0, .slice a1 m.slots.length c1, .slice a2 m.refs.length c2, .slice a3 m.snaps.length c3]), .bool true], ?_, Or.inl ⟨m, Hy.out, a0, c0, a1, c1, a2, c2, a3, c3, rfl, hI6, hB6⟩⟩
      simp [results, Try.results41, go_sem, z0, z1, z2, z3, z4, ce]
    · have hs : ((bstr r).toList == []) = false := toList_someN (by rw [bstr_size]; exact List.length_pos_iff.2 hr)
      have hs2 : ((bstr r).toList != []) = true := by rw [bne, hs]; rfl
      have hno : parse L = none := by unfold parse; rw [hp]; show (if r = [] then some m else none) = none; rw [if_neg hr]
      have k0 := g4
      have bb := Hk.out.2
      have Hn := Hid_mkG (And.intro hno (And.intro k0 (And.intro k1 bb)))
      clear hno k0 k1 bb hp g4 hr
      go_wp2_with fail
      obtain ⟨hno, k0, k1, bb⟩ := Hn.out
      refine leaves_cons (f := 70) (args := #[.pointer (some ⟨w.heap.size, 0, none⟩), .pointer (some ⟨w.heap.size + 1, 0, none⟩)]) (by simp) (by simp [go_sem]) ?_
      refine (pcatch_wrong w.heap.size (w.heap.size + 1) _ _ _ _ _ _ [] _ k0 k1 (by omega)).mono ?_
      rintro e u' w'' ⟨rfl, rfl, hw⟩
      obtain ⟨j0, j1, jb⟩ := pw_after k0 k1 (by omega) hw
      obtain ⟨z0, z1, z2, z3, z4⟩ := five j0
      have ce : w''.cell? ⟨w.heap.size + 1, 0, none⟩ = some (.bool false) := by simp only [World.cell?, j1]; rfl
      clear hw
      refine ⟨.tuple #[(.agg #[.int .i64 0, .slice none 0 0, .slice none 0 0, .slice none 0 0, .slice none 0 0]), .bool false], ?_, Or.inr ⟨hno, rfl, jb _ _ (Nat.le_refl _) (Nat.le_succ _) bb⟩⟩
      simp [results, Try.results41, go_sem, z0, z1, z2, z3, z4, ce]

  · dsimp only
    have bb : Below w.heap.size w W' := rd_below HM.out.2.2.2 HM.out.2.2.1 (by omega) T
    have k0 := (T.keep w.heap.size (by rw [HM.out.2.2.1]; omega) (by omega)).trans HM.out.1
    have k1 := (T.keep (w.heap.size + 1) (by rw [HM.out.2.2.1]; omega) (by omega)).trans HM.out.2.1
    have hno : parse L = none := by unfold parse; rw [hp]; rfl
    refine leaves_cons (f := 70) (args := #[.pointer (some ⟨w.heap.size, 0, none⟩), .pointer (some ⟨w.heap.size + 1, 0, none⟩)]) (by simp) (by simp [go_sem]) ?_
    refine (pcatch_wrong w.heap.size (w.heap.size + 1) _ _ _ _ _ _ [] _ k0 k1 (by omega)).mono ?_
    rintro e u' w'' ⟨rfl, rfl, hw⟩
    obtain ⟨j0, j1, jb⟩ := pw_after k0 k1 (by omega) hw
    obtain ⟨z0, z1, z2, z3, z4⟩ := five j0
    have ce : w''.cell? ⟨w.heap.size + 1, 0, none⟩ = some (.bool false) := by simp only [World.cell?, j1]; rfl
    clear hw
    refine ⟨.tuple #[(.agg #[.int .i64 0, .slice none 0 0, .slice none 0 0, .slice none 0 0, .slice none 0 0]), .bool false], ?_, Or.inr ⟨hno, rfl, jb _ _ (Nat.le_refl _) (Nat.le_succ _) bb⟩⟩
    simp [results, Try.results41, go_sem, z0, z1, z2, z3, z4, ce]

end Go.Proofs.Ytehleeibgkpjmag
/- wire.Read. -/
namespace Go.Proofs.Ytehleeibgkpjmag
open Go.RowKit Go.Shelf Go.Lib
set_option maxRecDepth 20000
set_option linter.unusedVariables false
set_option linter.unusedSimpArgs false

def rdE (u : ByteArray) : ImgD × Int := if 4096 < u.size then (imgZ, 2) else match rdO (bytes u) with | some m => (m, 0) | none => (imgZ, 1)
theorem rdE_many {u : ByteArray} (h : 4096 < u.size) : rdE u = (imgZ, 2) := by unfold rdE; rw [if_pos h]
theorem rdE_none {u : ByteArray} (h : ¬ 4096 < u.size) (hp : rdO (bytes u) = none) : rdE u = (imgZ, 1) := by unfold rdE; rw [if_neg h, hp]
theorem rdE_some {u : ByteArray} {m : ImgD} (h : ¬ 4096 < u.size) (hp : rdO (bytes u) = some m) : rdE u = (m, 0) := by unfold rdE; rw [if_neg h, hp]
theorem parse_slots {l : List UInt8} {m : ImgD} (h : parse l = some m) : m.slots.length ≤ 255 := by
  obtain ⟨q, h1, h2⟩ := bindS h
  split at h2
  · have h2 : q.1 = m := by simpa using h2
    subst h2
    obtain ⟨g, h3, h1⟩ := bindS h1
    obtain ⟨n, h4, h1⟩ := bindS h1
    obtain ⟨S, h5, h1⟩ := bindS h1
    obtain ⟨k, h6, h1⟩ := bindS h1
    obtain ⟨N, h7, h1⟩ := bindS h1
    obtain ⟨r, h8, h1⟩ := mapS h1
    subst h1
    have := (pMany_le (f := pSlot) (fun l s r h => pSlot_le h) n.1 S.1 S.2 h5).2
    show S.1.length ≤ 255
    rw [this]
    cases hg : g.2 with
    | nil => rw [hg] at h4; simp [pNum] at h4
    | cons a t =>
      rw [hg] at h4
      simp only [pNum, Option.some.injEq] at h4
      subst h4
      have := a.toNat_lt
      show a.toNat ≤ 255
      omega
  · simp at h2
theorem set_five {w w' : World} {b : Nat} {x0 x1 x2 x3 x4 v0 v1 v2 v3 v4 : Value} (hm : w.heap[b]? = some (.cells #[x0, x1, x2, x3, x4] 26))
    (hw : w' = ((((w.setCell ⟨b, 0, none⟩ v0).setCell ⟨b, 1, none⟩ v1).setCell ⟨b, 2, none⟩ v2).setCell ⟨b, 3, none⟩ v3).setCell ⟨b, 4, none⟩ v4) :
    w'.heap[b]? = some (.cells #[v0, v1, v2, v3, v4] 26) ∧ (∀ q, q ≠ b → w'.heap[q]? = w.heap[q]?) ∧ ∀ (B : Nat) (W0 : World), B ≤ b → Below B W0 w → Below B W0 w' := by
  have h0 := cells_set hm 0 v0
  have h1 := cells_set h0 1 v1
  have h2 := cells_set h1 2 v2
  have h3 := cells_set h2 3 v3
  have h4 := cells_set h3 4 v4
  refine ⟨by rw [hw]; exact h4, fun q hq => by rw [hw, Below.heap_setCell _ ⟨b, 4, none⟩ _ q hq, Below.heap_setCell _ ⟨b, 3, none⟩ _ q hq, Below.heap_setCell _ ⟨b, 2, none⟩ _ q hq, Below.heap_setCell _ ⟨b, 1, none⟩ _ q hq, Below.heap_setCell _ ⟨b, 0, none⟩ _ q hq], fun B W0 hb hB => ?_⟩
  rw [hw]
  exact ((((hB.setCell (p := ⟨b, 0, none⟩) hb _).setCell (p := ⟨b, 1, none⟩) hb _).setCell (p := ⟨b, 2, none⟩) hb _).setCell (p := ⟨b, 3, none⟩) hb _).setCell (p := ⟨b, 4, none⟩) hb _
theorem sl_nil {W W2 : World} {v : Value} (h : Sl W v []) : Sl W2 v [] := by
  obtain ⟨ao, cap, e, h1, h2, _⟩ := h
  exact ⟨ao, cap, e, h1, h2, fun x => absurd rfl x⟩
theorem img_nil {W W2 : World} {v : Value} (h : Img W v imgZ) : Img W2 v imgZ := by
  obtain ⟨r, s, f, n, e, h1, h2, h3, h4⟩ := h
  refine ⟨r, s, f, n, e, sl_nil h1, ?_, sl_nil h3, ?_⟩
  · obtain ⟨ao, cap, e, h1, h2, _⟩ := h2
    exact ⟨ao, cap, e, h1, h2, fun x => absurd rfl x⟩
  · obtain ⟨ao, cap, e, h1, h2, _⟩ := h4
    exact ⟨ao, cap, e, h1, h2, fun x => absurd rfl x⟩
theorem AnsR.bad {w w' : World} (E : Int) (hb : Below w.heap.size w w') : AnsR w imgZ E (.returned (.tuple #[(.agg #[.int .i64 0, .slice none 0 0, .slice none 0 0, .slice none 0 0, .slice none 0 0]), .int .i64 E])) w' := ⟨none, 0, none, 0, none, 0, none, 0, rfl, (OI.zero _ 0).img, hb⟩
set_option maxHeartbeats 1000000 in
theorem read_many (u : ByteArray) (w : World) (h : 4096 < u.size) : Calls Try.prog 14 #[.string u] w (AnsR w imgZ 2) := by
  have m0 : (w.alloc (.cells #[.int .i64 0, .slice none 0 0, .slice none 0 0, .slice none 0 0, .slice none 0 0] 26)).heap[w.heap.size]? = some (.cells #[.int .i64 0, .slice none 0 0, .slice none 0 0, .slice none 0 0, .slice none 0 0] 26) := World.alloc_heap_new _ _
  obtain ⟨c0, c1, c2, c3, c4⟩ := five m0
  have f0 := cells_frozen m0 0
  have f1 := cells_frozen m0 1
  have f2 := cells_frozen m0 2
  have f3 := cells_frozen m0 3
  have f4 := cells_frozen m0 4
  have b0 : Below w.heap.size w (w.alloc (.cells #[.int .i64 0, .slice none 0 0, .slice none 0 0, .slice none 0 0, .slice none 0 0] 26)) := (Below.refl _ _).alloc (Nat.le_refl _) _
  have hi : (4096 : Int) < (u.size : Int) := by omega
  clear m0
  go_enter Try.func14, Try.ntmps14
  go_wp2_with fail
  refine bodyPost_ret (v := .tuple #[(.agg #[.int .i64 0, .slice none 0 0, .slice none 0 0, .slice none 0 0, .slice none 0 0]), .int .i64 2]) (by simp [results, Try.results14, go_sem, c0, c1, c2, c3, c4]) rfl (AnsR.bad 2 ?_)
  first
    | exact b0
    | exact (((((b0.setCell (p := ⟨w.heap.size, 0, none⟩) (Nat.le_refl _) _).setCell (p := ⟨w.heap.size, 1, none⟩) (Nat.le_refl _) _).setCell (p := ⟨w.heap.size, 2, none⟩) (Nat.le_refl _) _).setCell (p := ⟨w.heap.size, 3, none⟩) (Nat.le_refl _) _).setCell (p := ⟨w.heap.size, 4, none⟩) (Nat.le_refl _) _)
set_option maxHeartbeats 1000000 in
theorem read_no (u : ByteArray) (w : World) (h : ¬ 4096 < u.size) (hp : parse (bytes u) = none) : Calls Try.prog 14 #[.string u] w (AnsR w imgZ 1) := by
  have m0 : (w.alloc (.cells #[.int .i64 0, .slice none 0 0, .slice none 0 0, .slice none 0 0, .slice none 0 0] 26)).heap[w.heap.size]? = some (.cells #[.int .i64 0, .slice none 0 0, .slice none 0 0, .slice none 0 0, .slice none 0 0] 26) := World.alloc_heap_new _ _
  have b0 : Below w.heap.size w (w.alloc (.cells #[.int .i64 0, .slice none 0 0, .slice none 0 0, .slice none 0 0, .slice none 0 0] 26)) := (Below.refl _ _).alloc (Nat.le_refl _) _
  have hi : ¬ (4096 : Int) < (u.size : Int) := by omega
  have hz : (w.alloc (.cells #[.int .i64 0, .slice none 0 0, .slice none 0 0, .slice none 0 0, .slice none 0 0] 26)).heap.size = w.heap.size + 1 := by simp
  have hlen : (bytes u).length ≤ 4096 := by rw [show (bytes u).length = u.size by unfold bytes; rfl]; omega
  have HP : Hid (Calls Try.prog 41 #[.string u] (w.alloc (.cells #[.int .i64 0, .slice none 0 0, .slice none 0 0, .slice none 0 0, .slice none 0 0] 26)) fun e W' => e = .returned (.tuple #[(.agg #[.int .i64 0, .slice none 0 0, .slice none 0 0, .slice none 0 0, .slice none 0 0]), .bool false]) ∧ Below (w.alloc (.cells #[.int .i64 0, .slice none 0 0, .slice none 0 0, .slice none 0 0, .slice none 0 0] 26)).heap.size (w.alloc (.cells #[.int .i64 0, .slice none 0 0, .slice none 0 0, .slice none 0 0, .slice none 0 0] 26)) W') := by
    have := parsed_is (bytes u) (w.alloc (.cells #[.int .i64 0, .slice none 0 0, .slice none 0 0, .slice none 0 0, .slice none 0 0] 26)) hlen
    rw [bstr_bytes] at this
    refine this.mono fun e W' hA => ?_
    rcases hA with ⟨m, hq, _⟩ | ⟨_, h1, h2⟩
    · rw [hp] at hq; cases hq
    · exact ⟨h1, h2⟩
  have HM := Hid_mkG (And.intro m0 (And.intro b0 hz))
  clear m0 b0 hz hlen hp h
  go_enter Try.func14, Try.ntmps14
  go_wp2_with fail
  refine HP.out.mono ?_
  rintro e W' ⟨rfl, b1⟩
  have k0 := cells_below HM.out.1 b1 (by rw [HM.out.2.2]; omega)
  have HB := Hid_mkG (show Below w.heap.size w W' from HM.out.2.1.trans (b1.mono (by rw [HM.out.2.2]; omega)))
  have hB2 := HB.out.size
  obtain ⟨Wp, hWp⟩ : ∃ X, W'.alloc (.cells #[.int .i64 0, .slice none 0 0, .slice none 0 0, .slice none 0 0, .slice none 0 0] 26) = X := ⟨_, rfl⟩
  have kp := cells_alloc k0 (.cells #[.int .i64 0, .slice none 0 0, .slice none 0 0, .slice none 0 0, .slice none 0 0] 26)
  have HBp := Hid_mkG (HB.out.alloc hB2 (.cells #[.int .i64 0, .slice none 0 0, .slice none 0 0, .slice none 0 0, .slice none 0 0] 26))
  rw [hWp] at kp HBp
  obtain ⟨c0, c1, c2, c3, c4⟩ := five kp
  have f0 := cells_frozen kp 0
  have f1 := cells_frozen kp 1
  have f2 := cells_frozen kp 2
  have f3 := cells_frozen kp 3
  have f4 := cells_frozen kp 4
  have HKp := Hid_mkG kp
  have HWp := Hid_mkG hWp
  clear k0 b1 kp hWp
  go_upto_region 5 with fail
  rw [HWp.out]
  go_wp2_with fail
  obtain ⟨W3, hW3⟩ : ∃ X, X = ((((Wp.setCell ⟨w.heap.size, 0, none⟩ (.int .i64 0)).setCell ⟨w.heap.size, 1, none⟩ (.slice none 0 0)).setCell ⟨w.heap.size, 2, none⟩ (.slice none 0 0)).setCell ⟨w.heap.size, 3, none⟩ (.slice none 0 0)).setCell ⟨w.heap.size, 4, none⟩ (.slice none 0 0) := ⟨_, rfl⟩
  obtain ⟨j0, j1, j2⟩ := set_five HKp.out hW3
  obtain ⟨z0, z1, z2, z3, z4⟩ := five j0
  rw [← hW3]
  clear hW3
  refine bodyPost_ret (v := .tuple #[(.agg #[.int .i64 0, .slice none 0 0, .slice none 0 0, .slice none 0 0, .slice none 0 0]), .int .i64 1]) (by simp [results, Try.results14, go_sem, z0, z1, z2, z3, z4]) rfl (AnsR.bad 1 (j2 _ _ (Nat.le_refl _) HBp.out))
set_option maxHeartbeats 2000000 in
theorem read_bad (u : ByteArray) (w : World) (h : ¬ 4096 < u.size) (m : ImgD) (E : Int) (hp : parse (bytes u) = some m) (hC : ∀ (W : World) a0 c0 a1 c1 a2 c2 a3 c3, Img W (.agg #[.int .i64 m.guest, .slice a0 m.root.length c0, .slice a1 m.slots.length c1, .slice a2 m.refs.length c2, .slice a3 m.snaps.length c3]) m → Calls Try.prog 42 #[(.agg #[.int .i64 m.guest, .slice a0 m.root.length c0, .slice a1 m.slots.length c1, .slice a2 m.refs.length c2, .slice a3 m.snaps.length c3])] W (AnsR W imgZ E)) : Calls Try.prog 14 #[.string u] w (AnsR w imgZ E) := by
  have m0 : (w.alloc (.cells #[.int .i64 0, .slice none 0 0, .slice none 0 0, .slice none 0 0, .slice none 0 0] 26)).heap[w.heap.size]? = some (.cells #[.int .i64 0, .slice none 0 0, .slice none 0 0, .slice none 0 0, .slice none 0 0] 26) := World.alloc_heap_new _ _
  have b0 : Below w.heap.size w (w.alloc (.cells #[.int .i64 0, .slice none 0 0, .slice none 0 0, .slice none 0 0, .slice none 0 0] 26)) := (Below.refl _ _).alloc (Nat.le_refl _) _
  have hi : ¬ (4096 : Int) < (u.size : Int) := by omega
  have hz : (w.alloc (.cells #[.int .i64 0, .slice none 0 0, .slice none 0 0, .slice none 0 0, .slice none 0 0] 26)).heap.size = w.heap.size + 1 := by simp
  have hlen : (bytes u).length ≤ 4096 := by rw [show (bytes u).length = u.size by unfold bytes; rfl]; omega
  have HP : Hid (Calls Try.prog 41 #[.string u] (w.alloc (.cells #[.int .i64 0, .slice none 0 0, .slice none 0 0, .slice none 0 0, .slice none 0 0] 26)) fun e W' => ∃ a0 c0 a1 c1 a2 c2 a3 c3, e = .returned (.tuple #[(.agg #[.int .i64 m.guest, .slice a0 m.root.length c0, .slice a1 m.slots.length c1, .slice a2 m.refs.length c2, .slice a3 m.snaps.length c3]), .bool true]) ∧ (∀ Y : World, (∀ q, (w.alloc (.cells #[.int .i64 0, .slice none 0 0, .slice none 0 0, .slice none 0 0, .slice none 0 0] 26)).heap.size ≤ q → q < W'.heap.size → Y.heap[q]? = W'.heap[q]?) → Img Y (.agg #[.int .i64 m.guest, .slice a0 m.root.length c0, .slice a1 m.slots.length c1, .slice a2 m.refs.length c2, .slice a3 m.snaps.length c3]) m) ∧ Below (w.alloc (.cells #[.int .i64 0, .slice none 0 0, .slice none 0 0, .slice none 0 0, .slice none 0 0] 26)).heap.size (w.alloc (.cells #[.int .i64 0, .slice none 0 0, .slice none 0 0, .slice none 0 0, .slice none 0 0] 26)) W') := by
    have := parsed_is (bytes u) (w.alloc (.cells #[.int .i64 0, .slice none 0 0, .slice none 0 0, .slice none 0 0, .slice none 0 0] 26)) hlen
    rw [bstr_bytes] at this
    refine this.mono fun e W' hA => ?_
    rcases hA with ⟨m', hq, hA⟩ | ⟨hq, _⟩
    · rw [hp] at hq; cases hq; exact hA
    · rw [hp] at hq; cases hq
  have HM := Hid_mkG (And.intro m0 (And.intro b0 hz))
  have HC := Hid_mkG hC
  have Hp := Hid_mkG hp
  clear m0 b0 hz hlen hp h hC
  go_enter Try.func14, Try.ntmps14
  go_wp2_with fail
  refine HP.out.mono ?_
  rintro e W' ⟨a0, c0, a1, c1, a2, c2, a3, c3, rfl, I1, b1⟩
  have k0 := cells_below HM.out.1 b1 (by rw [HM.out.2.2]; omega)
  have HB := Hid_mkG (show Below w.heap.size w W' from HM.out.2.1.trans (b1.mono (by rw [HM.out.2.2]; omega)))
  have ne : ¬ w.heap.size = W'.heap.size := by have := b1.size; rw [HM.out.2.2] at this; omega
  have ne2 : ¬ W'.heap.size = w.heap.size := fun e => ne e.symm
  have hB2 := HB.out.size
  have HK := Hid_mkG k0
  have I2 := I1 (W'.alloc (.cells #[.int .i64 m.guest, .slice a0 m.root.length c0, .slice a1 m.slots.length c1, .slice a2 m.refs.length c2, .slice a3 m.snaps.length c3] 26)) (fun q _ hl => Below.heap_alloc _ _ q hl)
  have HC2 := Hid_mkG (HC.out _ _ _ _ _ _ _ _ _ I2)
  have HI1 := Hid_mkG I1
  clear k0 b1 I1 I2 HC HP
  go_wp2_with fail
  refine HC2.out.mono ?_
  rintro e W2 ⟨d0, e0, d1, e1, d2, e2, d3, e3, rfl, I3, b3⟩
  have hz2 : ∀ o : Obj, (W'.alloc o).heap.size = W'.heap.size + 1 := fun o => by simp
  have k1 := cells_below (cells_alloc HK.out _) b3 (by rw [hz2]; omega)
  obtain ⟨y0, y1, y2, y3, y4⟩ := five k1
  have f0 := cells_frozen k1 0
  have f1 := cells_frozen k1 1
  have f2 := cells_frozen k1 2
  have f3 := cells_frozen k1 3
  have f4 := cells_frozen k1 4
  have HB3 := Hid_mkG (show Below w.heap.size w W2 from (HB.out.alloc hB2 _).trans (b3.mono (by rw [hz2]; omega)))
  have HK3 := Hid_mkG (show ∀ q, q < W'.heap.size → W2.heap[q]? = W'.heap[q]? from fun q hq => (b3.block q (by rw [hz2]; omega)).trans (Below.heap_alloc _ _ q hq))
  have HK1 := Hid_mkG k1
  have HI3 := Hid_mkG I3
  clear b3 I3 k1 HC2 hz2
  go_wp2_with fail
  obtain ⟨W3, hW3⟩ : ∃ X, X = ((((W2.setCell ⟨w.heap.size, 0, none⟩ (.int .i64 imgZ.guest)).setCell ⟨w.heap.size, 1, none⟩ (.slice d0 imgZ.root.length e0)).setCell ⟨w.heap.size, 2, none⟩ (.slice d1 imgZ.slots.length e1)).setCell ⟨w.heap.size, 3, none⟩ (.slice d2 imgZ.refs.length e2)).setCell ⟨w.heap.size, 4, none⟩ (.slice d3 imgZ.snaps.length e3) := ⟨_, rfl⟩
  obtain ⟨j0, j1, j2⟩ := set_five HK1.out hW3
  obtain ⟨z0, z1, z2, z3, z4⟩ := five j0
  rw [← hW3]
  clear hW3
  refine bodyPost_ret (v := .tuple #[.agg #[.int .i64 imgZ.guest, .slice d0 imgZ.root.length e0, .slice d1 imgZ.slots.length e1, .slice d2 imgZ.refs.length e2, .slice d3 imgZ.snaps.length e3], .int .i64 E]) (by simp [results, Try.results14, go_sem, z0, z1, z2, z3, z4]) rfl ⟨d0, e0, d1, e1, d2, e2, d3, e3, rfl, img_nil HI3.out, j2 _ _ (Nat.le_refl _) HB3.out⟩
set_option maxHeartbeats 2000000 in
theorem read_ok (u : ByteArray) (w : World) (h : ¬ 4096 < u.size) (m : ImgD) (hp : parse (bytes u) = some m) (hC : ∀ (W : World) a0 c0 a1 c1 a2 c2 a3 c3, Img W (.agg #[.int .i64 m.guest, .slice a0 m.root.length c0, .slice a1 m.slots.length c1, .slice a2 m.refs.length c2, .slice a3 m.snaps.length c3]) m → Calls Try.prog 42 #[(.agg #[.int .i64 m.guest, .slice a0 m.root.length c0, .slice a1 m.slots.length c1, .slice a2 m.refs.length c2, .slice a3 m.snaps.length c3])] W (AnsC W m a0 c0 a1 c1 a3 c3)) : Calls Try.prog 14 #[.string u] w (AnsR w (wcnt m) 0) := by
  have m0 : (w.alloc (.cells #[.int .i64 0, .slice none 0 0, .slice none 0 0, .slice none 0 0, .slice none 0 0] 26)).heap[w.heap.size]? = some (.cells #[.int .i64 0, .slice none 0 0, .slice none 0 0, .slice none 0 0, .slice none 0 0] 26) := World.alloc_heap_new _ _
  have b0 : Below w.heap.size w (w.alloc (.cells #[.int .i64 0, .slice none 0 0, .slice none 0 0, .slice none 0 0, .slice none 0 0] 26)) := (Below.refl _ _).alloc (Nat.le_refl _) _
  have hi : ¬ (4096 : Int) < (u.size : Int) := by omega
  have hz : (w.alloc (.cells #[.int .i64 0, .slice none 0 0, .slice none 0 0, .slice none 0 0, .slice none 0 0] 26)).heap.size = w.heap.size + 1 := by simp
  have hlen : (bytes u).length ≤ 4096 := by rw [show (bytes u).length = u.size by unfold bytes; rfl]; omega
  have HP : Hid (Calls Try.prog 41 #[.string u] (w.alloc (.cells #[.int .i64 0, .slice none 0 0, .slice none 0 0, .slice none 0 0, .slice none 0 0] 26)) fun e W' => ∃ a0 c0 a1 c1 a2 c2 a3 c3, e = .returned (.tuple #[(.agg #[.int .i64 m.guest, .slice a0 m.root.length c0, .slice a1 m.slots.length c1, .slice a2 m.refs.length c2, .slice a3 m.snaps.length c3]), .bool true]) ∧ (∀ Y : World, (∀ q, (w.alloc (.cells #[.int .i64 0, .slice none 0 0, .slice none 0 0, .slice none 0 0, .slice none 0 0] 26)).heap.size ≤ q → q < W'.heap.size → Y.heap[q]? = W'.heap[q]?) → Img Y (.agg #[.int .i64 m.guest, .slice a0 m.root.length c0, .slice a1 m.slots.length c1, .slice a2 m.refs.length c2, .slice a3 m.snaps.length c3]) m) ∧ Below (w.alloc (.cells #[.int .i64 0, .slice none 0 0, .slice none 0 0, .slice none 0 0, .slice none 0 0] 26)).heap.size (w.alloc (.cells #[.int .i64 0, .slice none 0 0, .slice none 0 0, .slice none 0 0, .slice none 0 0] 26)) W') := by
    have := parsed_is (bytes u) (w.alloc (.cells #[.int .i64 0, .slice none 0 0, .slice none 0 0, .slice none 0 0, .slice none 0 0] 26)) hlen
    rw [bstr_bytes] at this
    refine this.mono fun e W' hA => ?_
    rcases hA with ⟨m', hq, hA⟩ | ⟨hq, _⟩
    · rw [hp] at hq; cases hq; exact hA
    · rw [hp] at hq; cases hq
  have HM := Hid_mkG (And.intro m0 (And.intro b0 hz))
  have HC := Hid_mkG hC
  have Hp := Hid_mkG hp
  clear m0 b0 hz hlen hp h hC
  go_enter Try.func14, Try.ntmps14
  go_wp2_with fail
  refine HP.out.mono ?_
  rintro e W' ⟨a0, c0, a1, c1, a2, c2, a3, c3, rfl, I1, b1⟩
  have k0 := cells_below HM.out.1 b1 (by rw [HM.out.2.2]; omega)
  have HB := Hid_mkG (show Below w.heap.size w W' from HM.out.2.1.trans (b1.mono (by rw [HM.out.2.2]; omega)))
  have ne : ¬ w.heap.size = W'.heap.size := by have := b1.size; rw [HM.out.2.2] at this; omega
  have ne2 : ¬ W'.heap.size = w.heap.size := fun e => ne e.symm
  have hB2 := HB.out.size
  have HK := Hid_mkG k0
  have I2 := I1 (W'.alloc (.cells #[.int .i64 m.guest, .slice a0 m.root.length c0, .slice a1 m.slots.length c1, .slice a2 m.refs.length c2, .slice a3 m.snaps.length c3] 26)) (fun q _ hl => Below.heap_alloc _ _ q hl)
  have HC2 := Hid_mkG (HC.out _ _ _ _ _ _ _ _ _ I2)
  have HI1 := Hid_mkG I1
  clear k0 b1 I1 I2 HC HP
  go_wp2_with fail
  refine HC2.out.mono ?_
  rintro e W2 ⟨g, hg, rfl, L3, b3⟩
  have hz2 : ∀ o : Obj, (W'.alloc o).heap.size = W'.heap.size + 1 := fun o => by simp
  have k1 := cells_below (cells_alloc HK.out _) b3 (by rw [hz2]; omega)
  obtain ⟨y0, y1, y2, y3, y4⟩ := five k1
  have f0 := cells_frozen k1 0
  have f1 := cells_frozen k1 1
  have f2 := cells_frozen k1 2
  have f3 := cells_frozen k1 3
  have f4 := cells_frozen k1 4
  have HB3 := Hid_mkG (show Below w.heap.size w W2 from (HB.out.alloc hB2 _).trans (b3.mono (by rw [hz2]; omega)))
  have HK3 := Hid_mkG (show ∀ q, q < W'.heap.size → W2.heap[q]? = W'.heap[q]? from fun q hq => (b3.block q (by rw [hz2]; omega)).trans (Below.heap_alloc _ _ q hq))
  have HK1 := Hid_mkG k1
  have HL := Hid_mkG (And.intro L3 hg)
  clear b3 k1 HC2 hz2 L3 hg
  go_wp2_with fail
  obtain ⟨W3, hW3⟩ : ∃ X, X = ((((W2.setCell ⟨w.heap.size, 0, none⟩ (.int .i64 m.guest)).setCell ⟨w.heap.size, 1, none⟩ (.slice a0 m.root.length c0)).setCell ⟨w.heap.size, 2, none⟩ (.slice a1 m.slots.length c1)).setCell ⟨w.heap.size, 3, none⟩ (.slice (some ⟨g, 0, none⟩) m.slots.length m.slots.length)).setCell ⟨w.heap.size, 4, none⟩ (.slice a3 m.snaps.length c3) := ⟨_, rfl⟩
  obtain ⟨j0, j1, j2⟩ := set_five HK1.out hW3
  obtain ⟨z0, z1, z2, z3, z4⟩ := five j0
  rw [← hW3]
  clear hW3
  have hgz := HL.out.2
  have hgn : g ≠ w.heap.size := by simp at hgz; omega
  have hL3 : LAt W3 g (cntL m) := (j1 g hgn).trans HL.out.1
  have hI := HI1.out W3 (fun q hq hl => by
    rw [HM.out.2.2] at hq
    exact (j1 q (by omega)).trans (HK3.out q hl))
  have hlen : (wcnt m).refs.length = m.slots.length := cntL_length m
  have hs := parse_slots Hp.out
  refine bodyPost_ret (v := .tuple #[.agg #[.int .i64 m.guest, .slice a0 m.root.length c0, .slice a1 m.slots.length c1, .slice (some ⟨g, 0, none⟩) m.slots.length m.slots.length, .slice a3 m.snaps.length c3], .int .i64 0]) (by simp [results, Try.results14, go_sem, z0, z1, z2, z3, z4]) rfl ⟨a0, c0, a1, c1, some ⟨g, 0, none⟩, m.slots.length, a3, c3, by rw [hlen]; rfl, ?_, j2 _ _ (Nat.le_refl _) HB3.out⟩
  rw [hlen]
  exact img_refs hI (Below.refl _ _) (LAt.sl hL3 (cntL_length m) (by unfold maxLen; omega))
theorem wread_is (u : ByteArray) (w : World) : Calls Try.prog 14 #[.string u] w (AnsR w (rdE u).1 (rdE u).2) := by
  by_cases h : 4096 < u.size
  · rw [rdE_many h]; exact read_many u w h
  cases hp : parse (bytes u) with
  | none =>
    rw [rdE_none h (by unfold rdO; rw [hp]; rfl)]
    exact read_no u w h hp
  | some m =>
    have hs := parse_slots hp
    by_cases h1 : shapeE (wzer m) = 0
    · by_cases h2 : checkE (wcnt m) = 0
      · rw [rdE_some (m := wcnt m) h (by unfold rdO; rw [hp]; show (if fine m = true then some (wcnt m) else none) = _; rw [if_pos (by unfold fine; rw [h1, h2]; rfl)])]
        exact read_ok u w h m hp (fun W a0 c0 a1 c1 a2 c2 a3 c3 hI => counted_yes a0 c0 a1 c1 a2 c2 a3 c3 m W hI (by omega) h1 h2)
      · rw [rdE_none h (by unfold rdO; rw [hp]; show (if fine m = true then some (wcnt m) else none) = _; rw [if_neg (by unfold fine; intro x; simp only [Bool.and_eq_true, beq_iff_eq] at x; exact h2 x.2)])]
        exact read_bad u w h m 1 hp (fun W a0 c0 a1 c1 a2 c2 a3 c3 hI => counted_no a0 c0 a1 c1 a2 c2 a3 c3 m W hI (by omega) h1 _ rfl (by simpa using h2))
    · rw [rdE_none h (by unfold rdO; rw [hp]; show (if fine m = true then some (wcnt m) else none) = _; rw [if_neg (by unfold fine; intro x; simp only [Bool.and_eq_true, beq_iff_eq] at x; exact h1 x.1)])]
      exact read_bad u w h m 1 hp (fun W a0 c0 a1 c1 a2 c2 a3 c3 hI => counted_err a0 c0 a1 c1 a2 c2 a3 c3 m W hI (by omega) _ rfl (by simpa using h1))
end Go.Proofs.Ytehleeibgkpjmag
/- Contract of pair: the image that every beginning looks at. -/
namespace Go.Proofs.Ytehleeibgkpjmag
open Go.RowKit Go.Shelf
set_option maxRecDepth 20000

def aaaa : ByteArray := ⟨#[97, 97, 97, 97]⟩
def bbbb : ByteArray := ⟨#[98, 98, 98, 98]⟩
def nOld : ByteArray := ⟨#[111, 108, 100]⟩

def pairD (g : Int) (R T : List Int) : ImgD := ⟨g, [2, 4], [(0, ⟨#[]⟩, []), (1, aaaa, []), (2, ⟨#[]⟩, [1, 0, -1, 1]), (1, bbbb, []), (2, ⟨#[]⟩, T)], R, [(nOld, 4, [2])]⟩
structure PairW (n : Nat) (W : World) (R T : List Int) : Prop where
  root : LAt W (n + 1) [2, 4]
  ta : LAt W (n + 2) [1, 0, -1, 1]
  tb : LAt W (n + 3) T
  slots : W.heap[n + 4]? = some (.cells #[.int .i64 0, .string ⟨#[]⟩, .slice none 0 0, .int .i64 1, .string aaaa, .slice none 0 0, .int .i64 2, .string ⟨#[]⟩, .slice (some ⟨n + 2, 0, none⟩) 4 4, .int .i64 1, .string bbbb, .slice none 0 0, .int .i64 2, .string ⟨#[]⟩, .slice (some ⟨n + 3, 0, none⟩) 4 4] 60)
  refs : LAt W (n + 5) R
  sroot : LAt W (n + 6) [2]
  snaps : W.heap[n + 7]? = some (.cells #[.string nOld, .int .i64 4, .slice (some ⟨n + 6, 0, none⟩) 1 1] 74)

theorem alloc_get (W : World) (o : Obj) (i : Nat) : (W.alloc o).heap[i]? = if i = W.heap.size then some o else W.heap[i]? := by
  show (W.heap.push o)[i]? = _
  rw [Array.getElem?_push]

theorem size_alloc (W : World) (o : Obj) : (W.alloc o).heap.size = W.heap.size + 1 := by simp

set_option linter.unusedSimpArgs false in
theorem pair_at (w : World) : Calls Try.prog 32 #[] w fun r w' => r = .returned (.agg #[.int .i64 6, .slice (some ⟨w.heap.size + 1, 0, none⟩) 2 2, .slice (some ⟨w.heap.size + 4, 0, none⟩) 5 5, .slice (some ⟨w.heap.size + 5, 0, none⟩) 5 5, .slice (some ⟨w.heap.size + 7, 0, none⟩) 1 1]) ∧ PairW w.heap.size w' [0, 2, 2, 1, 1] [3, 0, 0, 0] ∧ Below w.heap.size w w' := by
  go_enter Try.func32, Try.ntmps32
  go_wp2
  refine bodyPost_ret (v := .agg #[.int .i64 6, .slice (some ⟨w.heap.size + 1, 0, none⟩) 2 2, .slice (some ⟨w.heap.size + 4, 0, none⟩) 5 5, .slice (some ⟨w.heap.size + 5, 0, none⟩) 5 5, .slice (some ⟨w.heap.size + 7, 0, none⟩) 1 1]) (by simp [results, Try.results32, go_sem]) rfl ⟨rfl, ⟨?_, ?_, ?_, ?_, ?_, ?_, ?_⟩, ?_⟩
  · show _ = _; simp only [alloc_get, size_alloc, Nat.add_right_cancel_iff, Nat.add_assoc, Nat.reduceAdd, Nat.add_left_cancel_iff, Nat.reduceEqDiff, ↓reduceIte, List.map, Nat.left_eq_add, reduceCtorEq, Nat.add_eq_left, Nat.succ_ne_self]
  · show _ = _; simp only [alloc_get, size_alloc, Nat.add_right_cancel_iff, Nat.add_assoc, Nat.reduceAdd, Nat.add_left_cancel_iff, Nat.reduceEqDiff, ↓reduceIte, List.map, Nat.left_eq_add, reduceCtorEq, Nat.add_eq_left, Nat.succ_ne_self]
  · show _ = _; simp only [alloc_get, size_alloc, Nat.add_right_cancel_iff, Nat.add_assoc, Nat.reduceAdd, Nat.add_left_cancel_iff, Nat.reduceEqDiff, ↓reduceIte, List.map, Nat.left_eq_add, reduceCtorEq, Nat.add_eq_left, Nat.succ_ne_self]
  · show _ = _; simp only [alloc_get, size_alloc, Nat.add_assoc, Nat.reduceAdd, Nat.add_left_cancel_iff, Nat.reduceEqDiff, ↓reduceIte, aaaa, bbbb]
  · show _ = _; simp only [alloc_get, size_alloc, Nat.add_right_cancel_iff, Nat.add_assoc, Nat.reduceAdd, Nat.add_left_cancel_iff, Nat.reduceEqDiff, ↓reduceIte, List.map, Nat.left_eq_add, reduceCtorEq, Nat.add_eq_left, Nat.succ_ne_self]
  · show _ = _; simp only [alloc_get, size_alloc, Nat.add_right_cancel_iff, Nat.add_assoc, Nat.reduceAdd, Nat.add_left_cancel_iff, Nat.reduceEqDiff, ↓reduceIte, List.map, Nat.left_eq_add, reduceCtorEq, Nat.add_eq_left, Nat.succ_ne_self]
  · show _ = _; simp only [alloc_get, size_alloc, Nat.add_assoc, Nat.reduceAdd, Nat.add_left_cancel_iff, Nat.reduceEqDiff, ↓reduceIte, nOld]
  · exact ((((((((Below.refl _ _).alloc (Nat.le_refl _) _).alloc (by simp) _).alloc (by simp; omega) _).alloc (by simp; omega) _).alloc (by simp; omega) _).alloc (by simp; omega) _).alloc (by simp; omega) _).alloc (by simp; omega) _

theorem PairW.below {n : Nat} {W W' : World} {R T : List Int} (h : PairW n W R T) {k : Nat} (hb : Below k W W') (hk : n + 8 ≤ k) : PairW n W' R T :=
  ⟨(hb.block _ (by omega)).trans h.root, (hb.block _ (by omega)).trans h.ta, (hb.block _ (by omega)).trans h.tb, (hb.block _ (by omega)).trans h.slots, (hb.block _ (by omega)).trans h.refs, (hb.block _ (by omega)).trans h.sroot, (hb.block _ (by omega)).trans h.snaps⟩
theorem PairW.size {n : Nat} {W : World} {R T : List Int} (h : PairW n W R T) : n + 8 ≤ W.heap.size := by
  have := (Array.getElem?_eq_some_iff.1 h.snaps).1; omega
theorem cell_of {W : World} {g : Nat} {A : Array Value} {t : TypeId} {fr : Nat × Nat} (h : W.heap[g]? = some (.cells A t fr)) {j : Nat} {v : Value} (hv : A[j]? = some v) : W.cell? ⟨g, j, none⟩ = some v := by
  simp [World.cell?, h, hv]
theorem PairW.img {n : Nat} {W : World} {R T : List Int} (h : PairW n W R T) (hR : R.length = 5) (hT : T.length = 4) (g : Int) :
    Img W (.agg #[.int .i64 g, .slice (some ⟨n + 1, 0, none⟩) 2 2, .slice (some ⟨n + 4, 0, none⟩) 5 5, .slice (some ⟨n + 5, 0, none⟩) 5 5, .slice (some ⟨n + 7, 0, none⟩) 1 1]) (pairD g R T) := by
  refine ⟨_, _, _, _, rfl, h.root.sl rfl (by decide), ⟨some ⟨n + 4, 0, none⟩, 5, rfl, show (5 : Nat) ≤ maxLen by decide, Nat.le_refl _, fun _ => ⟨n + 4, 0, rfl, (Array.getElem?_eq_some_iff.1 h.slots).1, ?_⟩⟩, h.refs.sl hR (by decide), ⟨some ⟨n + 7, 0, none⟩, 1, rfl, show (1 : Nat) ≤ maxLen by decide, Nat.le_refl _, fun _ => ⟨n + 7, 0, rfl, (Array.getElem?_eq_some_iff.1 h.snaps).1, ?_⟩⟩⟩
  · intro j hj
    have h5 : j < 5 := hj
    match j, h5 with
    | 0, _ => exact ⟨_, cell_of h.slots rfl, cell_of h.slots rfl, cell_of h.slots rfl, Sl.nil W⟩
    | 1, _ => exact ⟨_, cell_of h.slots rfl, cell_of h.slots rfl, cell_of h.slots rfl, Sl.nil W⟩
    | 2, _ => exact ⟨_, cell_of h.slots rfl, cell_of h.slots rfl, cell_of h.slots rfl, h.ta.sl rfl (by decide)⟩
    | 3, _ => exact ⟨_, cell_of h.slots rfl, cell_of h.slots rfl, cell_of h.slots rfl, Sl.nil W⟩
    | 4, _ => exact ⟨_, cell_of h.slots rfl, cell_of h.slots rfl, cell_of h.slots rfl, h.tb.sl hT (by decide)⟩
  · intro j hj
    have h1 : j < 1 := hj
    match j, h1 with
    | 0, _ => exact ⟨_, cell_of h.snaps rfl, cell_of h.snaps rfl, cell_of h.snaps rfl, h.sroot.sl rfl (by decide)⟩
theorem LAt.other {W : World} {g g' : Nat} {l : List Int} (h : LAt W g l) (hne : g ≠ g') (j : Nat) (v : Value) : LAt (W.setCell ⟨g', j, none⟩ v) g l := ((Only.set g' W j v).block g hne).trans h
theorem pair_is (w : World) : Calls Try.prog 32 #[] w fun r w' => (∃ v, r = .returned v ∧ Img w' v (pairD 6 [0, 2, 2, 1, 1] [3, 0, 0, 0])) ∧ Below w.heap.size w w' :=
  (pair_at w).mono fun _ _ h => ⟨⟨_, h.1, h.2.1.img rfl rfl 6⟩, h.2.2⟩
end Go.Proofs.Ytehleeibgkpjmag
/- The image of pair: what is decided of it. -/
namespace Go.Proofs.Ytehleeibgkpjmag
open Go.RowKit Go.Shelf
set_option maxRecDepth 20000

abbrev pD : ImgD := pairD 6 [0, 2, 2, 1, 1] [3, 0, 0, 0]
theorem pD_check : checkE pD = 0 := by decide +kernel
end Go.Proofs.Ytehleeibgkpjmag
/- Contract of SameImages: of one image, wherever it lies twice. -/
namespace Go.Proofs.Ytehleeibgkpjmag
open Go.RowKit Go.Shelf
set_option maxRecDepth 20000

set_option maxHeartbeats 4000000 in
theorem sameI_at (m : ImgD) (ra : Option Addr) (rc : Nat) (sa : Option Addr) (sc : Nat) (fa : Option Addr) (fc : Nat) (na : Option Addr) (nc : Nat) (rb : Option Addr) (rd : Nat) (sb : Option Addr) (sd : Nat) (fb : Option Addr) (fd : Nat) (nb : Option Addr) (nd : Nat) (w : World)
    (h1 : Sl w (.slice ra m.root.length rc) m.root) (h2 : Slots w (.slice sa m.slots.length sc) m.slots) (h3 : Sl w (.slice fa m.refs.length fc) m.refs) (h4 : Snaps w (.slice na m.snaps.length nc) m.snaps)
    (k1 : Sl w (.slice rb m.root.length rd) m.root) (k2 : Slots w (.slice sb m.slots.length sd) m.slots) (k3 : Sl w (.slice fb m.refs.length fd) m.refs) (k4 : Snaps w (.slice nb m.snaps.length nd) m.snaps) :
    Calls Try.prog 16 #[.agg #[.int .i64 m.guest, .slice ra m.root.length rc, .slice sa m.slots.length sc, .slice fa m.refs.length fc, .slice na m.snaps.length nc], .agg #[.int .i64 m.guest, .slice rb m.root.length rd, .slice sb m.slots.length sd, .slice fb m.refs.length fd, .slice nb m.snaps.length nd]] w fun r w' => r = .returned (.bool true) ∧ Below w.heap.size w w' := by
  have b0 : Below w.heap.size w ((w.alloc (.cells #[.int .i64 m.guest, .slice ra m.root.length rc, .slice sa m.slots.length sc, .slice fa m.refs.length fc, .slice na m.snaps.length nc] 26)).alloc (.cells #[.int .i64 m.guest, .slice rb m.root.length rd, .slice sb m.slots.length sd, .slice fb m.refs.length fd, .slice nb m.snaps.length nd] 26)) := ((Below.refl _ _).alloc (Nat.le_refl _) _).alloc (by simp) _
  have m0 : ((w.alloc (.cells #[.int .i64 m.guest, .slice ra m.root.length rc, .slice sa m.slots.length sc, .slice fa m.refs.length fc, .slice na m.snaps.length nc] 26)).alloc (.cells #[.int .i64 m.guest, .slice rb m.root.length rd, .slice sb m.slots.length sd, .slice fb m.refs.length fd, .slice nb m.snaps.length nd] 26)).heap[w.heap.size]? = some (.cells #[.int .i64 m.guest, .slice ra m.root.length rc, .slice sa m.slots.length sc, .slice fa m.refs.length fc, .slice na m.snaps.length nc] 26) := cells_alloc (World.alloc_heap_new _ _) _
  have m1 : ((w.alloc (.cells #[.int .i64 m.guest, .slice ra m.root.length rc, .slice sa m.slots.length sc, .slice fa m.refs.length fc, .slice na m.snaps.length nc] 26)).alloc (.cells #[.int .i64 m.guest, .slice rb m.root.length rd, .slice sb m.slots.length sd, .slice fb m.refs.length fd, .slice nb m.snaps.length nd] 26)).heap[w.heap.size + 1]? = some (.cells #[.int .i64 m.guest, .slice rb m.root.length rd, .slice sb m.slots.length sd, .slice fb m.refs.length fd, .slice nb m.snaps.length nd] 26) := by have := World.alloc_heap_new (w.alloc (.cells #[.int .i64 m.guest, .slice ra m.root.length rc, .slice sa m.slots.length sc, .slice fa m.refs.length fc, .slice na m.snaps.length nc] 26)) (.cells #[.int .i64 m.guest, .slice rb m.root.length rd, .slice sb m.slots.length sd, .slice fb m.refs.length fd, .slice nb m.snaps.length nd] 26); simpa using this
  obtain ⟨c0, c1, c2, c3, c4⟩ := five m0
  obtain ⟨d0, d1, d2, d3, d4⟩ := five m1
  have HR := same_any (h1.below b0) (k1.below b0)
  have HF := fun W (hW : Below w.heap.size w W) => same_any (h3.below hW) (k3.below hW)
  have HS : Hid (Slots w (.slice sa m.slots.length sc) m.slots ∧ Slots w (.slice sb m.slots.length sd) m.slots ∧ Snaps w (.slice na m.snaps.length nc) m.snaps ∧ Snaps w (.slice nb m.snaps.length nd) m.snaps) := ⟨h2, k2, h4, k4⟩
  have HL : Hid (m.slots.length ≤ 9223372036854775807 ∧ m.snaps.length ≤ 9223372036854775807) := ⟨h2.small, h4.small⟩
  clear h1 h2 h3 h4 k1 k2 k3 k4
  go_enter Try.func16, Try.ntmps16
  go_wp2_with (first
    | (go_at_call 33; refine (HF _ bw1).mono ?_; rintro e w2 ⟨rfl, b2⟩; have m4 := cells_below m2 b2 (Array.getElem?_eq_some_iff.1 m2).1; have m5 := cells_below m3 b2 (Array.getElem?_eq_some_iff.1 m3).1; obtain ⟨g0, g1, g2, g3, g4⟩ := five m4; obtain ⟨i0, i1, i2, i3, i4⟩ := five m5; have bw2 := Below.on bw1 b2)
    | (go_at_call 33; refine HR.mono ?_; rintro e w1 ⟨rfl, b1⟩; have m2 := cells_below m0 b1 (by simp <;> omega); have m3 := cells_below m1 b1 (by simp <;> omega); obtain ⟨e0, e1, e2, e3, e4⟩ := five m2; obtain ⟨f0, f1, f2, f3, f4⟩ := five m3; have bw1 := Below.on b0 b1))
  have HB : Hid (w2.heap[w.heap.size]? = some (.cells #[.int .i64 m.guest, .slice ra m.root.length rc, .slice sa m.slots.length sc, .slice fa m.refs.length fc, .slice na m.snaps.length nc] 26) ∧ w2.heap[w.heap.size + 1]? = some (.cells #[.int .i64 m.guest, .slice rb m.root.length rd, .slice sb m.slots.length sd, .slice fb m.refs.length fd, .slice nb m.snaps.length nd] 26) ∧ Below w.heap.size w w2) := ⟨m4, m5, bw2⟩
  clear c0 c1 c2 c3 c4 d0 d1 d2 d3 d4 e0 e1 e2 e3 e4 f0 f1 f2 f3 f4 g0 g1 g2 g3 g4 i0 i1 i2 i3 i4 m0 m1 m2 m3 m4 m5 b0 b1 b2 bw1 bw2 HR HF
  go_loopw [5] (fun i wr => ∃ k : Nat, k ≤ m.slots.length ∧ i = .int .i64 k ∧ Hid (wr.heap[w.heap.size]? = some (.cells #[.int .i64 m.guest, .slice ra m.root.length rc, .slice sa m.slots.length sc, .slice fa m.refs.length fc, .slice na m.snaps.length nc] 26) ∧ wr.heap[w.heap.size + 1]? = some (.cells #[.int .i64 m.guest, .slice rb m.root.length rd, .slice sb m.slots.length sd, .slice fb m.refs.length fd, .slice nb m.snaps.length nd] 26) ∧ Below w.heap.size w wr)) (fun i _ => m.slots.length - (intOf i).toNat)
  case atStart => exact ⟨0, Nat.zero_le _, rfl, HB⟩
  case round =>
    obtain ⟨k, hk, rfl, HC⟩ := hrel
    obtain ⟨mA, mB, hb⟩ := HC.out
    obtain ⟨c0, c1, c2, c3, c4⟩ := five mA
    obtain ⟨d0, d1, d2, d3, d4⟩ := five mB
    have hL := HL.out.1
    by_cases hlk : k < m.slots.length
    · have hki : (k : Int) < (m.slots.length : Int) := by omega
      have hL1 : (k : Int) + 1 ≤ 9223372036854775807 := by omega
      obtain ⟨pb, po, pc, e, _, hpl, hps⟩ := HS.out.1.open (by omega)
      simp at e
      obtain ⟨rfl, rfl⟩ := e
      obtain ⟨qb, qo, qc, e, _, hql, hqs⟩ := HS.out.2.1.open (by omega)
      simp at e
      obtain ⟨rfl, rfl⟩ := e
      obtain ⟨s, hs⟩ : ∃ s, m.slots[k] = s := ⟨_, rfl⟩
      obtain ⟨kk, dd, tt⟩ := s
      obtain ⟨tv, p0, p1, p2, ps⟩ := hps k hlk
      obtain ⟨uv, q0, q1, q2, qs⟩ := hqs k hlk
      rw [hs] at p0 p1 ps q0 q1 qs
      obtain ⟨ta, tc, rfl⟩ := ps.form
      obtain ⟨ua, uc, rfl⟩ := qs.form
      have p0 : wr.cell? ⟨pb, po + k * 3, none⟩ = some (.int .i64 kk) := (hb.cell (p := ⟨pb, po + k * 3, none⟩) hpl).trans p0
      have p1 : wr.cell? ⟨pb, po + k * 3 + 1, none⟩ = some (.string dd) := (hb.cell (p := ⟨pb, po + k * 3 + 1, none⟩) hpl).trans p1
      have p2 : wr.cell? ⟨pb, po + k * 3 + 1 + 1, none⟩ = some (.slice ta tt.length tc) := (hb.cell (p := ⟨pb, po + k * 3 + 1 + 1, none⟩) hpl).trans p2
      have q0 : wr.cell? ⟨qb, qo + k * 3, none⟩ = some (.int .i64 kk) := (hb.cell (p := ⟨qb, qo + k * 3, none⟩) hql).trans q0
      have q1 : wr.cell? ⟨qb, qo + k * 3 + 1, none⟩ = some (.string dd) := (hb.cell (p := ⟨qb, qo + k * 3 + 1, none⟩) hql).trans q1
      have q2 : wr.cell? ⟨qb, qo + k * 3 + 1 + 1, none⟩ = some (.slice ua tt.length uc) := (hb.cell (p := ⟨qb, qo + k * 3 + 1 + 1, none⟩) hql).trans q2
      have hcall := same_any (w := wr.drew) (ps.below (to_drew hb)) (qs.below (to_drew hb))
      have hpw : pb < wr.heap.size := Nat.lt_of_lt_of_le hpl hb.size
      have hqw : qb < wr.heap.size := Nat.lt_of_lt_of_le hql hb.size
      have HN : Hid (∀ W, Below wr.heap.size wr W → W.heap[w.heap.size]? = some (.cells #[.int .i64 m.guest, .slice ra m.root.length rc, .slice (some ⟨pb, po, none⟩) m.slots.length sc, .slice fa m.refs.length fc, .slice na m.snaps.length nc] 26) ∧ W.heap[w.heap.size + 1]? = some (.cells #[.int .i64 m.guest, .slice rb m.root.length rd, .slice (some ⟨qb, qo, none⟩) m.slots.length sd, .slice fb m.refs.length fd, .slice nb m.snaps.length nd] 26) ∧ Below w.heap.size w W) := fun W hW => ⟨cells_below mA hW (Array.getElem?_eq_some_iff.1 mA).1, cells_below mB hW (Array.getElem?_eq_some_iff.1 mB).1, Below.on hb hW⟩
      have HK : Hid (∀ W, Below wr.heap.size wr W → W.cell? ⟨w.heap.size, 0 + 1 + 1, none⟩ = some (.slice (some ⟨pb, po, none⟩) m.slots.length sc) ∧ W.cell? ⟨w.heap.size + 1, 0 + 1 + 1, none⟩ = some (.slice (some ⟨qb, qo, none⟩) m.slots.length sd) ∧ W.cell? ⟨pb, po + k * 3, none⟩ = some (.int .i64 kk) ∧ W.cell? ⟨pb, po + k * 3 + 1, none⟩ = some (.string dd) ∧ W.cell? ⟨pb, po + k * 3 + 1 + 1, none⟩ = some (.slice ta tt.length tc) ∧ W.cell? ⟨qb, qo + k * 3, none⟩ = some (.int .i64 kk) ∧ W.cell? ⟨qb, qo + k * 3 + 1, none⟩ = some (.string dd) ∧ W.cell? ⟨qb, qo + k * 3 + 1 + 1, none⟩ = some (.slice ua tt.length uc)) := fun W hW => ⟨(hW.cell (p := ⟨w.heap.size, 0 + 1 + 1, none⟩) (Array.getElem?_eq_some_iff.1 mA).1).trans c2, (hW.cell (p := ⟨w.heap.size + 1, 0 + 1 + 1, none⟩) (Array.getElem?_eq_some_iff.1 mB).1).trans d2, (hW.cell (p := ⟨pb, po + k * 3, none⟩) hpw).trans p0, (hW.cell (p := ⟨pb, po + k * 3 + 1, none⟩) hpw).trans p1, (hW.cell (p := ⟨pb, po + k * 3 + 1 + 1, none⟩) hpw).trans p2, (hW.cell (p := ⟨qb, qo + k * 3, none⟩) hqw).trans q0, (hW.cell (p := ⟨qb, qo + k * 3 + 1, none⟩) hqw).trans q1, (hW.cell (p := ⟨qb, qo + k * 3 + 1 + 1, none⟩) hqw).trans q2⟩
      clear hs mA mB ps qs hps hqs
      go_wp2_with fail
      go_region_held3 (fun W => W.cell? ⟨w.heap.size, 0 + 1 + 1, none⟩ = some (.slice (some ⟨pb, po, none⟩) m.slots.length sc) ∧ W.cell? ⟨w.heap.size + 1, 0 + 1 + 1, none⟩ = some (.slice (some ⟨qb, qo, none⟩) m.slots.length sd) ∧ W.cell? ⟨pb, po + k * 3, none⟩ = some (.int .i64 kk) ∧ W.cell? ⟨pb, po + k * 3 + 1, none⟩ = some (.string dd) ∧ W.cell? ⟨pb, po + k * 3 + 1 + 1, none⟩ = some (.slice ta tt.length tc) ∧ W.cell? ⟨qb, qo + k * 3, none⟩ = some (.int .i64 kk) ∧ W.cell? ⟨qb, qo + k * 3 + 1, none⟩ = some (.string dd) ∧ W.cell? ⟨qb, qo + k * 3 + 1 + 1, none⟩ = some (.slice ua tt.length uc)) (first | exact HK.out _ b3 | exact HK.out _ (to_drew (Below.refl _ _)))
        (first | (go_at_call 33; refine hcall.mono ?_; rintro e w3 ⟨rfl, b3⟩; have b3 := below_drew b3))
      go_wp2_with fail
      go_roundw
      case rel => exact ⟨k + 1, by omega, by go_num, HN.out _ b3⟩
      case measure => simp [intOf]; omega
    · have ek : k = m.slots.length := by omega
      subst ek
      obtain ⟨x, hrn⟩ : ∃ X, X = wr := ⟨_, rfl⟩
      subst hrn
      go_wp2_with fail
      clear c0 c1 c2 c3 c4 d0 d1 d2 d3 d4 mA mB hb hL
      go_loopw [6] (fun i wr => ∃ l : Nat, l ≤ m.snaps.length ∧ i = .int .i64 l ∧ Hid (wr.heap[w.heap.size]? = some (.cells #[.int .i64 m.guest, .slice ra m.root.length rc, .slice sa m.slots.length sc, .slice fa m.refs.length fc, .slice na m.snaps.length nc] 26) ∧ wr.heap[w.heap.size + 1]? = some (.cells #[.int .i64 m.guest, .slice rb m.root.length rd, .slice sb m.slots.length sd, .slice fb m.refs.length fd, .slice nb m.snaps.length nd] 26) ∧ Below w.heap.size w wr)) (fun i _ => m.snaps.length - (intOf i).toNat)
      case atStart => exact ⟨0, Nat.zero_le _, rfl, HC⟩
      case round =>
        obtain ⟨l, hl, rfl, HD⟩ := hrel
        obtain ⟨mA, mB, hb⟩ := HD.out
        obtain ⟨c0, c1, c2, c3, c4⟩ := five mA
        obtain ⟨d0, d1, d2, d3, d4⟩ := five mB
        have hL := HL.out.2
        by_cases hll : l < m.snaps.length
        · have hki : (l : Int) < (m.snaps.length : Int) := by omega
          have hL1 : (l : Int) + 1 ≤ 9223372036854775807 := by omega
          obtain ⟨pb, po, pc, e, _, hpl, hps⟩ := HS.out.2.2.1.open (by omega)
          simp at e
          obtain ⟨rfl, rfl⟩ := e
          obtain ⟨qb, qo, qc, e, _, hql, hqs⟩ := HS.out.2.2.2.open (by omega)
          simp at e
          obtain ⟨rfl, rfl⟩ := e
          obtain ⟨s, hs⟩ : ∃ s, m.snaps[l] = s := ⟨_, rfl⟩
          obtain ⟨nm, sg, tt⟩ := s
          obtain ⟨tv, p0, p1, p2, ps⟩ := hps l hll
          obtain ⟨uv, q0, q1, q2, qs⟩ := hqs l hll
          rw [hs] at p0 p1 ps q0 q1 qs
          obtain ⟨ta, tc, rfl⟩ := ps.form
          obtain ⟨ua, uc, rfl⟩ := qs.form
          have p0 : wr.cell? ⟨pb, po + l * 3, none⟩ = some (.string nm) := (hb.cell (p := ⟨pb, po + l * 3, none⟩) hpl).trans p0
          have p1 : wr.cell? ⟨pb, po + l * 3 + 1, none⟩ = some (.int .i64 sg) := (hb.cell (p := ⟨pb, po + l * 3 + 1, none⟩) hpl).trans p1
          have p2 : wr.cell? ⟨pb, po + l * 3 + 1 + 1, none⟩ = some (.slice ta tt.length tc) := (hb.cell (p := ⟨pb, po + l * 3 + 1 + 1, none⟩) hpl).trans p2
          have q0 : wr.cell? ⟨qb, qo + l * 3, none⟩ = some (.string nm) := (hb.cell (p := ⟨qb, qo + l * 3, none⟩) hql).trans q0
          have q1 : wr.cell? ⟨qb, qo + l * 3 + 1, none⟩ = some (.int .i64 sg) := (hb.cell (p := ⟨qb, qo + l * 3 + 1, none⟩) hql).trans q1
          have q2 : wr.cell? ⟨qb, qo + l * 3 + 1 + 1, none⟩ = some (.slice ua tt.length uc) := (hb.cell (p := ⟨qb, qo + l * 3 + 1 + 1, none⟩) hql).trans q2
          have hcall := same_any (w := wr.drew) (ps.below (to_drew hb)) (qs.below (to_drew hb))
          have hpw : pb < wr.heap.size := Nat.lt_of_lt_of_le hpl hb.size
          have hqw : qb < wr.heap.size := Nat.lt_of_lt_of_le hql hb.size
          have HN : Hid (∀ W, Below wr.heap.size wr W → W.heap[w.heap.size]? = some (.cells #[.int .i64 m.guest, .slice ra m.root.length rc, .slice sa m.slots.length sc, .slice fa m.refs.length fc, .slice (some ⟨pb, po, none⟩) m.snaps.length nc] 26) ∧ W.heap[w.heap.size + 1]? = some (.cells #[.int .i64 m.guest, .slice rb m.root.length rd, .slice sb m.slots.length sd, .slice fb m.refs.length fd, .slice (some ⟨qb, qo, none⟩) m.snaps.length nd] 26) ∧ Below w.heap.size w W) := fun W hW => ⟨cells_below mA hW (Array.getElem?_eq_some_iff.1 mA).1, cells_below mB hW (Array.getElem?_eq_some_iff.1 mB).1, Below.on hb hW⟩
          have HK : Hid (∀ W, Below wr.heap.size wr W → W.cell? ⟨w.heap.size, 0 + 1 + 1 + 1 + 1, none⟩ = some (.slice (some ⟨pb, po, none⟩) m.snaps.length nc) ∧ W.cell? ⟨w.heap.size + 1, 0 + 1 + 1 + 1 + 1, none⟩ = some (.slice (some ⟨qb, qo, none⟩) m.snaps.length nd) ∧ W.cell? ⟨pb, po + l * 3, none⟩ = some (.string nm) ∧ W.cell? ⟨pb, po + l * 3 + 1, none⟩ = some (.int .i64 sg) ∧ W.cell? ⟨pb, po + l * 3 + 1 + 1, none⟩ = some (.slice ta tt.length tc) ∧ W.cell? ⟨qb, qo + l * 3, none⟩ = some (.string nm) ∧ W.cell? ⟨qb, qo + l * 3 + 1, none⟩ = some (.int .i64 sg) ∧ W.cell? ⟨qb, qo + l * 3 + 1 + 1, none⟩ = some (.slice ua tt.length uc)) := fun W hW => ⟨(hW.cell (p := ⟨w.heap.size, 0 + 1 + 1 + 1 + 1, none⟩) (Array.getElem?_eq_some_iff.1 mA).1).trans c4, (hW.cell (p := ⟨w.heap.size + 1, 0 + 1 + 1 + 1 + 1, none⟩) (Array.getElem?_eq_some_iff.1 mB).1).trans d4, (hW.cell (p := ⟨pb, po + l * 3, none⟩) hpw).trans p0, (hW.cell (p := ⟨pb, po + l * 3 + 1, none⟩) hpw).trans p1, (hW.cell (p := ⟨pb, po + l * 3 + 1 + 1, none⟩) hpw).trans p2, (hW.cell (p := ⟨qb, qo + l * 3, none⟩) hqw).trans q0, (hW.cell (p := ⟨qb, qo + l * 3 + 1, none⟩) hqw).trans q1, (hW.cell (p := ⟨qb, qo + l * 3 + 1 + 1, none⟩) hqw).trans q2⟩
          clear hs mA mB ps qs hps hqs
          go_wp2_with fail
          go_region_held3 (fun W => W.cell? ⟨w.heap.size, 0 + 1 + 1 + 1 + 1, none⟩ = some (.slice (some ⟨pb, po, none⟩) m.snaps.length nc) ∧ W.cell? ⟨w.heap.size + 1, 0 + 1 + 1 + 1 + 1, none⟩ = some (.slice (some ⟨qb, qo, none⟩) m.snaps.length nd) ∧ W.cell? ⟨pb, po + l * 3, none⟩ = some (.string nm) ∧ W.cell? ⟨pb, po + l * 3 + 1, none⟩ = some (.int .i64 sg) ∧ W.cell? ⟨pb, po + l * 3 + 1 + 1, none⟩ = some (.slice ta tt.length tc) ∧ W.cell? ⟨qb, qo + l * 3, none⟩ = some (.string nm) ∧ W.cell? ⟨qb, qo + l * 3 + 1, none⟩ = some (.int .i64 sg) ∧ W.cell? ⟨qb, qo + l * 3 + 1 + 1, none⟩ = some (.slice ua tt.length uc)) (first | exact HK.out _ b3 | exact HK.out _ (to_drew (Below.refl _ _)))
            (first | (go_at_call 33; refine hcall.mono ?_; rintro e w3 ⟨rfl, b3⟩; have b3 := below_drew b3))
          go_wp2_with fail
          go_roundw
          case rel => exact ⟨l + 1, by omega, by go_num, HN.out _ b3⟩
          case measure => simp [intOf]; omega
        · have el : l = m.snaps.length := by omega
          subst el
          go_wp2_with fail
          go_ret
          exact ⟨rfl, hb⟩
theorem sameI_is {w : World} {v u : Value} {m : ImgD} (h : Img w v m) (k : Img w u m) : Calls Try.prog 16 #[v, u] w fun r w' => r = .returned (.bool true) ∧ Below w.heap.size w w' := by
  obtain ⟨ra, rc, sa, sc, fa, fc, na, nc, rfl, h1, h2, h3, h4⟩ := h.parts
  obtain ⟨rb, rd, sb, sd, fb, fd, nb, nd, rfl, k1, k2, k3, k4⟩ := k.parts
  exact sameI_at m ra rc sa sc fa fc na nc rb rd sb sd fb fd nb nd w h1 h2 h3 h4 k1 k2 k3 k4
end Go.Proofs.Ytehleeibgkpjmag
