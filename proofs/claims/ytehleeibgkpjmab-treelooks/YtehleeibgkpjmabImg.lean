/- Images: what they are as data, what it means that a value is one in a world, and what Shape, Counts, Check and Look answer of them. -/
import Derived.Test.YtehleeibgkpjmabUsed
namespace Go.Proofs.Ytehleeibgkpjmab
open Go.RowKit
set_option maxRecDepth 20000

/-- A snapshot as data: name, guest, root. -/
abbrev SnapD : Type := ByteArray × Int × List Int
structure ImgD where
  guest : Int
  root : List Int
  slots : List SlotD
  refs : List Int
  snaps : List SnapD

def SnAt (w : World) (b off : Nat) (s : SnapD) : Prop :=
  ∃ rv, w.cell? ⟨b, off, none⟩ = some (.string s.1) ∧ w.cell? ⟨b, off + 1, none⟩ = some (.int .i64 s.2.1) ∧ w.cell? ⟨b, off + 1 + 1, none⟩ = some rv ∧ Sl w rv s.2.2
def Snaps (w : World) (v : Value) (L : List SnapD) : Prop :=
  ∃ ao cap, v = .slice ao L.length cap ∧ L.length ≤ maxLen ∧ L.length ≤ cap ∧ (L ≠ [] → ∃ b off, ao = some ⟨b, off, none⟩ ∧ b < w.heap.size ∧ ∀ j, (h : j < L.length) → SnAt w b (off + j * 3) L[j])
def Img (w : World) (v : Value) (m : ImgD) : Prop :=
  ∃ rv sv fv nv, v = .agg #[.int .i64 m.guest, rv, sv, fv, nv] ∧ Sl w rv m.root ∧ Slots w sv m.slots ∧ Sl w fv m.refs ∧ Snaps w nv m.snaps

theorem SnAt.below {w w1 : World} {b off : Nat} {s : SnapD} (h : SnAt w b off s) (hlt : b < w.heap.size) (hb : Below w.heap.size w w1) : SnAt w1 b off s := by
  obtain ⟨tv, h1, h2, h3, h4⟩ := h
  exact ⟨tv, (hb.cell (p := ⟨b, off, none⟩) hlt).trans h1, (hb.cell (p := ⟨b, off + 1, none⟩) hlt).trans h2, (hb.cell (p := ⟨b, off + 1 + 1, none⟩) hlt).trans h3, h4.below hb⟩
theorem Snaps.below {w w1 : World} {v : Value} {L : List SnapD} (h : Snaps w v L) (hb : Below w.heap.size w w1) : Snaps w1 v L := by
  obtain ⟨ao, cap, hv, hm, hcp, hc⟩ := h
  refine ⟨ao, cap, hv, hm, hcp, fun hne => ?_⟩
  obtain ⟨b, off, ha, hlt, hcell⟩ := hc hne
  exact ⟨b, off, ha, Nat.lt_of_lt_of_le hlt hb.size, fun j hj => (hcell j hj).below hlt hb⟩
theorem Img.below {w w1 : World} {v : Value} {m : ImgD} (h : Img w v m) (hb : Below w.heap.size w w1) : Img w1 v m := by
  obtain ⟨rv, sv, fv, nv, hv, h1, h2, h3, h4⟩ := h
  exact ⟨rv, sv, fv, nv, hv, h1.below hb, h2.below hb, h3.below hb, h4.below hb⟩
theorem Slots.form {w : World} {v : Value} {L : List SlotD} (h : Slots w v L) : ∃ ao cap, v = .slice ao L.length cap := by
  obtain ⟨ao, cap, hv, _⟩ := h; exact ⟨ao, cap, hv⟩
theorem Snaps.form {w : World} {v : Value} {L : List SnapD} (h : Snaps w v L) : ∃ ao cap, v = .slice ao L.length cap := by
  obtain ⟨ao, cap, hv, _⟩ := h; exact ⟨ao, cap, hv⟩
theorem Snaps.small {w : World} {v : Value} {L : List SnapD} (h : Snaps w v L) : L.length ≤ 9223372036854775807 := by
  obtain ⟨ao, cap, hv, hm, _⟩ := h; unfold maxLen at hm; omega
theorem Slots.small {w : World} {v : Value} {L : List SlotD} (h : Slots w v L) : L.length ≤ 9223372036854775807 := by
  obtain ⟨ao, cap, hv, hm, _⟩ := h; unfold maxLen at hm; omega
theorem Sl.small {w : World} {v : Value} {xs : List Int} (h : Sl w v xs) : xs.length ≤ 9223372036854775807 := by
  obtain ⟨ao, cap, hv, hm, _⟩ := h; unfold maxLen at hm; omega
theorem Snaps.open {w : World} {v : Value} {L : List SnapD} (h : Snaps w v L) (h1 : 1 ≤ L.length) : ∃ b off cap, v = .slice (some ⟨b, off, none⟩) L.length cap ∧ L.length ≤ cap ∧ b < w.heap.size ∧ ∀ j, (h : j < L.length) → SnAt w b (off + j * 3) L[j] := by
  obtain ⟨ao, cap, rfl, hm, hcp, hc⟩ := h
  obtain ⟨b, off, rfl, hlt, hcell⟩ := hc (by intro e; rw [e] at h1; simp at h1)
  exact ⟨b, off, cap, rfl, hcp, hlt, hcell⟩
theorem Sl.open {w : World} {v : Value} {xs : List Int} (h : Sl w v xs) (h1 : 1 ≤ xs.length) : ∃ b off cap, v = .slice (some ⟨b, off, none⟩) xs.length cap ∧ xs.length ≤ cap ∧ b < w.heap.size ∧ ∀ j, j < xs.length → w.cell? ⟨b, off + j, none⟩ = some (.int .i64 (xs.getD j 0)) := by
  obtain ⟨ao, cap, rfl, hm, hcp, hc⟩ := h
  obtain ⟨b, off, rfl, hlt, hcell⟩ := hc (by intro e; rw [e] at h1; simp at h1)
  exact ⟨b, off, cap, rfl, hcp, hlt, hcell⟩

/-! ### What is answered -/
def isLetter (b : UInt8) : Bool := decide (97 ≤ b.toNat ∧ b.toNat ≤ 122)
def isNm (s : ByteArray) : Bool := decide (1 ≤ s.size ∧ s.size ≤ 8) && s.data.toList.all isLetter
/-- The first k names are right, and rise. -/
def nmAt (L : List SnapD) (k : Nat) : Bool := isNm (L.getD k default).1 && (k == 0 || Op.bytesLess (L.getD (k - 1) default).1.toList (L.getD k default).1.toList)
def namesOK (L : List SnapD) : Bool := (List.range L.length).all (nmAt L)
def isKd (L : List SlotD) (k kind : Int) : Bool := decide (0 ≤ k ∧ k < L.length) && ((L.getD k.toNat default).1 == kind)
def tabE (L : List SlotD) (e : Int) : Bool := !(e != 0 && e != -1 && !isKd L e 1)
def tabFit (L : List SlotD) : Bool := L.all (fun s => s.2.2.all (tabE L))
def rootE (L : List SlotD) (k : Int) : Bool := !(k != 0 && !isKd L k 2)
def tabOf (L : List SlotD) (k : Int) : List Int := (L.getD k.toNat default).2.2
def lastFit (L : List SlotD) (g : Int) (r : List Int) : Bool :=
  g % 4 == 0 || (r.getD (r.length - 1) 0 == 0 || ((tabOf L (r.getD (r.length - 1) 0)).drop (g % 4).toNat).all (fun k => k == 0))
def rootFit (L : List SlotD) (g : Int) (r : List Int) : Bool := decide ((r.length : Int) = (g + 3) / 4) && (r.all (rootE L) && lastFit L g r)
/-- All Roots: the image's, as if it were a snapshot without a name, and the snapshots'. -/
def rootsOf (m : ImgD) : List SnapD := (⟨#[]⟩, m.guest, m.root) :: m.snaps
def guestOK (g : Int) : Bool := decide (0 ≤ g ∧ g ≤ 16)
def shapeE (m : ImgD) : Int :=
  if 3 < m.snaps.length then 2 else if slotsE m.slots ≠ 0 then slotsE m.slots else if m.refs.length ≠ m.slots.length ∨ namesOK m.snaps = false then 1
  else if (rootsOf m).all (fun s => guestOK s.2.1) = false then 3 else if tabFit m.slots = false then 1 else if (rootsOf m).all (fun s => rootFit m.slots s.2.1 s.2.2) = false then 1 else 0
end Go.Proofs.Ytehleeibgkpjmab
