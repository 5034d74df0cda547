/- Texts joined: OfI, TakI, TakJ, TakL, TakK, First, With, WrI, WrJ, WrK, WrL, WrS, WrT, WrM, WrN, WrO, WrX, FitP, MendI, WrV, SCheck, WrY, WrW, WrU, Cut, WrE, WrZ, WrRz, WrB, RefF, PutI, PChk, PgPlain, Shelf, PgZero, RdA, Pair, RdP, RdB, SameInts, WoA, RoA, RoB, SnQ. -/
import Derived.Test.YtehleeibgkpjmadSnapsTellsJ8
import Derived.Defers
import Derived.Recover
import Derived.Test.YtehleeibgkpjmadSnapsTellsJ4
import Derived.Deep.RegionHeld3
import Derived.Deep.RegionLaw
import Derived.Deep.CutRange
import Derived.Test.YtehleeibgkpjmadSnapsTellsJ1
import Derived.Laws.CopyOwn
import Derived.Deep.RegionHeld
import Derived.BigQuiet
import Derived.Test.YtehleeibgkpjmadSnapsTellsJ3
import Derived.Deep.RegionWith
import Derived.Laws.CopyRow
import Derived.Laws.IdiomCopy
import Derived.Test.YtehleeibgkpjmadSnapsTellsJ7
import Derived.Test.YtehleeibgkpjmadRows
import Derived.WalkLawsBesides
import Derived.Deep.QuietTactic
import Derived.Lib.Strings
import Derived.Lib.Join
import Derived.Lib.Repeat
import Derived.Shelf.Strings.Builder1
import Derived.Shelf.Strings.Builder2
import Derived.Shelf.Small.Strs
import Derived.Shelf.Strings.BuilderF
import Derived.Shelf.Strings.Prefix
import Derived.Shelf.Bits.Mul64
import Derived.Shelf.Strings.Repeat
import Derived.Test.YtehleeibgkpjmadProg
import Derived.Deep.AppendLies
import Derived.Test.YtehleeibgkpjmadSnapsTellsJ5
/- Contract of Of: a copy is turned, and settled; where no slot is left, the panic is caught. -/
namespace Go.Proofs.Ytehleeibgkpjmad
open Go.RowKit Go.Shelf
set_option maxRecDepth 20000

theorem catch_idle (p : Addr) (w : World) :
    CallsD Try.prog 66 #[.pointer (some p)] .returning w fun e u' w' => e = .returned (.tuple #[]) ∧ u' = .returning ∧ w' = w := by
  refine callsD_of_wpS Try.func66 rfl fun c₀ cs hu => ?_
  apply wpS_seq
  apply wpS_region
  simp [wpOpsS, go_sem, recoverD, hu, Try.ntmps66, Exit.thenS]
  refine wpS_of_wp ?_
  simp only [Array.replicate_succ, Array.replicate_zero, List.push_toArray, List.append_toArray, List.nil_append, List.cons_append, List.setIfInBounds_toArray, List.set_cons_zero, List.set_cons_succ]
  go_wp2
  cases c₀
  simp_all [bodyPostS, results, Try.results66]
set_option maxHeartbeats 1000000 in
theorem catch_full (b : Nat) (x : Int) (older : List PanicEntry) (w : World) (hc : w.cell? ⟨b, 0, none⟩ = some (.int .i64 x)) (hz : w.frozen? ⟨b, 0, none⟩ = false) (hb : b < w.heap.size) :
    CallsD Try.prog 66 #[.pointer (some ⟨b, 0, none⟩)] (.panicking ({ v := .iface 88 (.agg #[]), recovered := false } :: older)) w fun e u' w' =>
      e = .returned (.tuple #[]) ∧ u' = .panicking ({ v := .iface 88 (.agg #[]), recovered := true } :: older) ∧ w' = (w.setCell ⟨b, 0, none⟩ (.int .i64 7)).alloc (.cells #[] 88) := by
  have hta : ∀ w, (Instr.typeAssert (.iface 88 (.agg #[])) 20 88 true).run Try.prog w = .ok (.tuple #[.agg #[], .bool true]) w := fun w => by kernel_rfl
  have hcA : (w.alloc (.cells #[] 88)).cell? ⟨b, 0, none⟩ = some (.int .i64 x) := (World.cell?_alloc_past _ _ _ hb).trans hc
  have hbn : ¬ b = w.heap.size := by omega
  refine callsD_of_wpS Try.func66 rfl fun c₀ cs hu => ?_
  apply wpS_seq
  apply wpS_region
  simp [wpOpsS, go_sem, recoverD, hu, Try.ntmps66, Exit.thenS]
  refine wpS_of_wp ?_
  simp only [Array.replicate_succ, Array.replicate_zero, List.push_toArray, List.append_toArray, List.nil_append, List.cons_append, List.setIfInBounds_toArray, List.set_cons_zero, List.set_cons_succ]
  go_wp2
  cases c₀
  simp_all [bodyPostS, results, Try.results66]

abbrev noSlotP : List PanicEntry := [{ v := .iface 88 (.agg #[]), recovered := false }]
def Turns (w : World) (N : Nat) (caps : Array Value) (m : ImgD) (o : Option ImgD) : Prop :=
  ∀ (W : World) (D B : Nat) (val : Nm → Value), Below w.heap.size w W → w.heap.size ≤ B → B ≤ W.heap.size → DK W B D val m →
    Calls Try.prog N (#[.pointer (some ⟨D, 0, none⟩)] ++ caps) W fun r W' => match o with
      | some m' => ∃ val', r = .returned (.tuple #[]) ∧ DTo W W' B D m val nilV m' val'
      | none => r = .panicked noSlotP ∧ Below B W W'
theorem desk_new {w : World} {B : Nat} {val : Nm → Value} {m : ImgD} (h : OI w B val m) (hB : B ≤ w.heap.size) : DK (w.alloc (.cells #[.int .i64 m.guest, val .root, val .slots, val .refs, val .snaps] 57)) B w.heap.size val m :=
  ⟨h.alloc _, World.alloc_heap_new _ _, hB, h.lt (Nat.le_refl _)⟩

set_option maxHeartbeats 4000000 in
theorem of_full (m : ImgD) (ra : Option Addr) (rn rc : Nat) (sa : Option Addr) (sn sc : Nat) (fa : Option Addr) (fn fc : Nat) (na : Option Addr) (nn nc : Nat) (N : Nat) (caps : Array Value) (w : World) (h : Img w (.agg #[.int .i64 m.guest, .slice ra rn rc, .slice sa sn sc, .slice fa fn fc, .slice na nn nc]) m) (hF : Fits m) (hN : ∀ (args : Array Value) (w : World), (callFunc N args).run Try.prog w = .ok (.enter N args) w) (ht : Turns w N caps m none) :
    Calls Try.prog 33 #[.agg #[.int .i64 m.guest, .slice ra rn rc, .slice sa sn sc, .slice fa fn fc, .slice na nn nc], .func (.func N) #[] caps] w (AnsI w w.heap.size imgZ 7) := by
  have hmf : ∀ (fn : Fn) (first cap : Array Value) (w : World), (Instr.makeFunc fn first cap).run Try.prog w = .ok (.func fn first cap) w := fun _ _ _ _ => rfl
  have b0 : Below w.heap.size w (((w.alloc (.cells #[.int .i64 m.guest, .slice ra rn rc, .slice sa sn sc, .slice fa fn fc, .slice na nn nc] 26)).alloc (.cells #[.int .i64 0, .slice none 0 0, .slice none 0 0, .slice none 0 0, .slice none 0 0] 26)).alloc (.cells #[.int .i64 0] 27)) := (((Below.refl _ _).alloc (Nat.le_refl _) _).alloc (by simp) _).alloc (by simp <;> omega) _
  have m0 : (((w.alloc (.cells #[.int .i64 m.guest, .slice ra rn rc, .slice sa sn sc, .slice fa fn fc, .slice na nn nc] 26)).alloc (.cells #[.int .i64 0, .slice none 0 0, .slice none 0 0, .slice none 0 0, .slice none 0 0] 26)).alloc (.cells #[.int .i64 0] 27)).heap[w.heap.size]? = some (.cells #[.int .i64 m.guest, .slice ra rn rc, .slice sa sn sc, .slice fa fn fc, .slice na nn nc] 26) := cells_alloc (cells_alloc (World.alloc_heap_new _ _) _) _
  have m1 : (((w.alloc (.cells #[.int .i64 m.guest, .slice ra rn rc, .slice sa sn sc, .slice fa fn fc, .slice na nn nc] 26)).alloc (.cells #[.int .i64 0, .slice none 0 0, .slice none 0 0, .slice none 0 0, .slice none 0 0] 26)).alloc (.cells #[.int .i64 0] 27)).heap[w.heap.size + 1]? = some (.cells #[.int .i64 0, .slice none 0 0, .slice none 0 0, .slice none 0 0, .slice none 0 0] 26) := cells_alloc (by have := World.alloc_heap_new (w.alloc (.cells #[.int .i64 m.guest, .slice ra rn rc, .slice sa sn sc, .slice fa fn fc, .slice na nn nc] 26)) (.cells #[.int .i64 0, .slice none 0 0, .slice none 0 0, .slice none 0 0, .slice none 0 0] 26); simpa using this) _
  have m2 : (((w.alloc (.cells #[.int .i64 m.guest, .slice ra rn rc, .slice sa sn sc, .slice fa fn fc, .slice na nn nc] 26)).alloc (.cells #[.int .i64 0, .slice none 0 0, .slice none 0 0, .slice none 0 0, .slice none 0 0] 26)).alloc (.cells #[.int .i64 0] 27)).heap[w.heap.size + 1 + 1]? = some (.cells #[.int .i64 0] 27) := by have := World.alloc_heap_new ((w.alloc (.cells #[.int .i64 m.guest, .slice ra rn rc, .slice sa sn sc, .slice fa fn fc, .slice na nn nc] 26)).alloc (.cells #[.int .i64 0, .slice none 0 0, .slice none 0 0, .slice none 0 0, .slice none 0 0] 26)) (.cells #[.int .i64 0] 27); simpa using this
  have hz3 : (((w.alloc (.cells #[.int .i64 m.guest, .slice ra rn rc, .slice sa sn sc, .slice fa fn fc, .slice na nn nc] 26)).alloc (.cells #[.int .i64 0, .slice none 0 0, .slice none 0 0, .slice none 0 0, .slice none 0 0] 26)).alloc (.cells #[.int .i64 0] 27)).heap.size = w.heap.size + 1 + 1 + 1 := by simp
  obtain ⟨c0, c1, c2, c3, c4⟩ := five m0
  have hcp := copied_is (h.below b0) hF
  have HX : Hid (True) := trivial
  clear h
  go_enter_defers Try.func33, Try.ntmps33
  go_wp2_with (go_at_call 67; refine hcp.mono ?_; rintro e w1 ⟨val, rfl, hO, b1⟩; obtain ⟨qa, qc, q0, _⟩ := hO.forms .root (Live.root m); obtain ⟨pa, pc, q1, _⟩ := hO.forms .slots (Live.slots m); obtain ⟨ka, kc, q2, _⟩ := hO.forms .refs (Live.refs m); obtain ⟨ja, jc, q3, _⟩ := hO.forms .snaps (Live.snaps m); unfold imgV; rw [q0, q1, q2, q3])
  have hD := desk_new hO b1.size
  rw [q0, q1, q2, q3] at hD
  have b1' : Below (((w.alloc (.cells #[.int .i64 m.guest, .slice ra rn rc, .slice sa sn sc, .slice fa fn fc, .slice na nn nc] 26)).alloc (.cells #[.int .i64 0, .slice none 0 0, .slice none 0 0, .slice none 0 0, .slice none 0 0] 26)).alloc (.cells #[.int .i64 0] 27)).heap.size (((w.alloc (.cells #[.int .i64 m.guest, .slice ra rn rc, .slice sa sn sc, .slice fa fn fc, .slice na nn nc] 26)).alloc (.cells #[.int .i64 0, .slice none 0 0, .slice none 0 0, .slice none 0 0, .slice none 0 0] 26)).alloc (.cells #[.int .i64 0] 27)) (w1.alloc (.cells #[.int .i64 m.guest, .slice qa (rowN m .root) qc, .slice pa (rowN m .slots) pc, .slice ka (rowN m .refs) kc, .slice ja (rowN m .snaps) jc] 57)) := b1.alloc b1.size _
  have hbw := Below.on b0 b1'
  refine (ht _ _ _ _ hbw b0.size b1'.size hD).mono ?_
  rintro e w2 ⟨rfl, b2⟩
  dsimp only
  have b3 := b1'.trans b2
  have k1 := cells_below m1 b3 (by rw [hz3]; omega)
  have k2 := cells_below m2 b3 (by rw [hz3]; omega)
  have b4 : Below w.heap.size w w2 := b0.trans (b3.mono (by rw [hz3]; omega))
  obtain ⟨z0, z1, z2, z3, z4⟩ := five k1
  have ce : w2.cell? ⟨w.heap.size + 1 + 1, 0, none⟩ = some (.int .i64 0) := by simp [World.cell?, k2]
  have ne : ¬ w.heap.size + 1 = w.heap.size + 1 + 1 := by omega
  have hlt : w.heap.size + 1 + 1 < w2.heap.size := (Array.getElem?_eq_some_iff.1 k2).1
  have hlt1 : w.heap.size + 1 < w2.heap.size := by omega
  refine leaves_cons (f := 66) (args := #[.pointer (some ⟨w.heap.size + 1 + 1, 0, none⟩)]) (by simp) (by simp [go_sem]) ?_
  refine (catch_full (w.heap.size + 1 + 1) 0 [] w2 ce (cells_frozen k2 0) hlt).mono ?_
  rintro e u' w'' ⟨rfl, rfl, rfl⟩
  have k3 : ((w2.setCell ⟨w.heap.size + 1 + 1, 0, none⟩ (.int .i64 7)).alloc (.cells #[] 88)).heap[w.heap.size + 1]? = some (.cells #[.int .i64 0, .slice none 0 0, .slice none 0 0, .slice none 0 0, .slice none 0 0] 26) := cells_alloc (cells_other k1 ne _ _) _
  have k4 : ((w2.setCell ⟨w.heap.size + 1 + 1, 0, none⟩ (.int .i64 7)).alloc (.cells #[] 88)).heap[w.heap.size + 1 + 1]? = some (.cells #[.int .i64 7] 27) := cells_alloc (cells_set k2 0 _) _
  obtain ⟨z0, z1, z2, z3, z4⟩ := five k3
  have ce : ((w2.setCell ⟨w.heap.size + 1 + 1, 0, none⟩ (.int .i64 7)).alloc (.cells #[] 88)).cell? ⟨w.heap.size + 1 + 1, 0, none⟩ = some (.int .i64 7) := by simp only [World.cell?, k4]; rfl
  refine ⟨_, ?_, AnsI.bad 7 ((b4.setCell (by show _ ≤ w.heap.size + 1 + 1; omega) _).alloc (by simp [World.setCell]; have := b4.size; omega) _)⟩
  clear k3 k4
  generalize (w2.setCell ⟨w.heap.size + 1 + 1, 0, none⟩ (.int .i64 7)).alloc (.cells #[] 88) = Wf at z0 z1 z2 z3 z4 ce ⊢
  simp [results, Try.results33, go_sem, z0, z1, z2, z3, z4, ce]
set_option maxHeartbeats 4000000 in
theorem of_bad (m M : ImgD) (ra : Option Addr) (rn rc : Nat) (sa : Option Addr) (sn sc : Nat) (fa : Option Addr) (fn fc : Nat) (na : Option Addr) (nn nc : Nat) (N : Nat) (caps : Array Value) (w : World) (h : Img w (.agg #[.int .i64 m.guest, .slice ra rn rc, .slice sa sn sc, .slice fa fn fc, .slice na nn nc]) m) (hF : Fits m) (hN : ∀ (args : Array Value) (w : World), (callFunc N args).run Try.prog w = .ok (.enter N args) w) (ht : Turns w N caps m (some M)) (E : Int) (hE : shapeE M = E) (hne : E ≠ 0) :
    Calls Try.prog 33 #[.agg #[.int .i64 m.guest, .slice ra rn rc, .slice sa sn sc, .slice fa fn fc, .slice na nn nc], .func (.func N) #[] caps] w (AnsI w w.heap.size imgZ E) := by
  have hmf : ∀ (fn : Fn) (first cap : Array Value) (w : World), (Instr.makeFunc fn first cap).run Try.prog w = .ok (.func fn first cap) w := fun _ _ _ _ => rfl
  have b0 : Below w.heap.size w (((w.alloc (.cells #[.int .i64 m.guest, .slice ra rn rc, .slice sa sn sc, .slice fa fn fc, .slice na nn nc] 26)).alloc (.cells #[.int .i64 0, .slice none 0 0, .slice none 0 0, .slice none 0 0, .slice none 0 0] 26)).alloc (.cells #[.int .i64 0] 27)) := (((Below.refl _ _).alloc (Nat.le_refl _) _).alloc (by simp) _).alloc (by simp <;> omega) _
  have m0 : (((w.alloc (.cells #[.int .i64 m.guest, .slice ra rn rc, .slice sa sn sc, .slice fa fn fc, .slice na nn nc] 26)).alloc (.cells #[.int .i64 0, .slice none 0 0, .slice none 0 0, .slice none 0 0, .slice none 0 0] 26)).alloc (.cells #[.int .i64 0] 27)).heap[w.heap.size]? = some (.cells #[.int .i64 m.guest, .slice ra rn rc, .slice sa sn sc, .slice fa fn fc, .slice na nn nc] 26) := cells_alloc (cells_alloc (World.alloc_heap_new _ _) _) _
  have m1 : (((w.alloc (.cells #[.int .i64 m.guest, .slice ra rn rc, .slice sa sn sc, .slice fa fn fc, .slice na nn nc] 26)).alloc (.cells #[.int .i64 0, .slice none 0 0, .slice none 0 0, .slice none 0 0, .slice none 0 0] 26)).alloc (.cells #[.int .i64 0] 27)).heap[w.heap.size + 1]? = some (.cells #[.int .i64 0, .slice none 0 0, .slice none 0 0, .slice none 0 0, .slice none 0 0] 26) := cells_alloc (by have := World.alloc_heap_new (w.alloc (.cells #[.int .i64 m.guest, .slice ra rn rc, .slice sa sn sc, .slice fa fn fc, .slice na nn nc] 26)) (.cells #[.int .i64 0, .slice none 0 0, .slice none 0 0, .slice none 0 0, .slice none 0 0] 26); simpa using this) _
  have m2 : (((w.alloc (.cells #[.int .i64 m.guest, .slice ra rn rc, .slice sa sn sc, .slice fa fn fc, .slice na nn nc] 26)).alloc (.cells #[.int .i64 0, .slice none 0 0, .slice none 0 0, .slice none 0 0, .slice none 0 0] 26)).alloc (.cells #[.int .i64 0] 27)).heap[w.heap.size + 1 + 1]? = some (.cells #[.int .i64 0] 27) := by have := World.alloc_heap_new ((w.alloc (.cells #[.int .i64 m.guest, .slice ra rn rc, .slice sa sn sc, .slice fa fn fc, .slice na nn nc] 26)).alloc (.cells #[.int .i64 0, .slice none 0 0, .slice none 0 0, .slice none 0 0, .slice none 0 0] 26)) (.cells #[.int .i64 0] 27); simpa using this
  have hz3 : (((w.alloc (.cells #[.int .i64 m.guest, .slice ra rn rc, .slice sa sn sc, .slice fa fn fc, .slice na nn nc] 26)).alloc (.cells #[.int .i64 0, .slice none 0 0, .slice none 0 0, .slice none 0 0, .slice none 0 0] 26)).alloc (.cells #[.int .i64 0] 27)).heap.size = w.heap.size + 1 + 1 + 1 := by simp
  obtain ⟨c0, c1, c2, c3, c4⟩ := five m0
  have hcp := copied_is (h.below b0) hF
  have HX : Hid (shapeE M = E ∧ E ≠ 0) := ⟨hE, hne⟩
  clear h hE hne
  go_enter_defers Try.func33, Try.ntmps33
  go_wp2_with (go_at_call 67; refine hcp.mono ?_; rintro e w1 ⟨val, rfl, hO, b1⟩; obtain ⟨qa, qc, q0, _⟩ := hO.forms .root (Live.root m); obtain ⟨pa, pc, q1, _⟩ := hO.forms .slots (Live.slots m); obtain ⟨ka, kc, q2, _⟩ := hO.forms .refs (Live.refs m); obtain ⟨ja, jc, q3, _⟩ := hO.forms .snaps (Live.snaps m); unfold imgV; rw [q0, q1, q2, q3])
  have hD := desk_new hO b1.size
  rw [q0, q1, q2, q3] at hD
  have b1' : Below (((w.alloc (.cells #[.int .i64 m.guest, .slice ra rn rc, .slice sa sn sc, .slice fa fn fc, .slice na nn nc] 26)).alloc (.cells #[.int .i64 0, .slice none 0 0, .slice none 0 0, .slice none 0 0, .slice none 0 0] 26)).alloc (.cells #[.int .i64 0] 27)).heap.size (((w.alloc (.cells #[.int .i64 m.guest, .slice ra rn rc, .slice sa sn sc, .slice fa fn fc, .slice na nn nc] 26)).alloc (.cells #[.int .i64 0, .slice none 0 0, .slice none 0 0, .slice none 0 0, .slice none 0 0] 26)).alloc (.cells #[.int .i64 0] 27)) (w1.alloc (.cells #[.int .i64 m.guest, .slice qa (rowN m .root) qc, .slice pa (rowN m .slots) pc, .slice ka (rowN m .refs) kc, .slice ja (rowN m .snaps) jc] 57)) := b1.alloc b1.size _
  have hbw := Below.on b0 b1'
  refine (ht _ _ _ _ hbw b0.size b1'.size hD).mono ?_
  rintro e w2 ⟨val2, rfl, hT⟩
  dsimp only
  have b3 := b1'.trans hT.bel
  have k1 := cells_below m1 b3 (by rw [hz3]; omega)
  have k2 := cells_below m2 b3 (by rw [hz3]; omega)
  have b4 : Below w.heap.size w w2 := b0.trans (b3.mono (by rw [hz3]; omega))
  have hcall := settled_bad hT.dk HX.out.1 HX.out.2
  clear hT hD
  go_wp2_with (go_at_call 68; refine hcall.mono ?_; rintro e w3 ⟨rfl, b5⟩; have r1 := cells_below k1 b5 (Array.getElem?_eq_some_iff.1 k1).1; have r2 := cells_below k2 b5 (Array.getElem?_eq_some_iff.1 k2).1; obtain ⟨z0, z1, z2, z3, z4⟩ := five r1; have y0 := cells_frozen r1 0; have y1 := cells_frozen r1 1; have y2 := cells_frozen r1 2; have y3 := cells_frozen r1 3; have y4 := cells_frozen r1 4; have x0 := cells_frozen r2 0; have ce : w3.cell? ⟨w.heap.size + 1 + 1, 0, none⟩ = some (.int .i64 0) := by simp [World.cell?, r2])
  refine leaves_cons (f := 66) (args := #[.pointer (some ⟨w.heap.size + 1 + 1, 0, none⟩)]) (by simp) (by simp [go_sem]) ?_
  refine (catch_idle ⟨w.heap.size + 1 + 1, 0, none⟩ _).mono ?_
  rintro e u' w'' ⟨rfl, rfl, rfl⟩
  have b6 := Below.on b4 b5
  have i1 : w.heap.size ≤ w.heap.size + 1 := Nat.le_succ _
  have i2 : w.heap.size ≤ w.heap.size + 1 + 1 := by omega
  refine ⟨_, ?_, AnsI.bad E ((((((b6.setCell i1 _).setCell i1 _).setCell i1 _).setCell i1 _).setCell i1 _).setCell i2 _)⟩
  simp [results, Try.results33, go_sem, z0, z1, z2, z3, z4, ce]
set_option maxHeartbeats 4000000 in
theorem of_ok (m M : ImgD) (ra : Option Addr) (rn rc : Nat) (sa : Option Addr) (sn sc : Nat) (fa : Option Addr) (fn fc : Nat) (na : Option Addr) (nn nc : Nat) (N : Nat) (caps : Array Value) (w : World) (h : Img w (.agg #[.int .i64 m.guest, .slice ra rn rc, .slice sa sn sc, .slice fa fn fc, .slice na nn nc]) m) (hF : Fits m) (hN : ∀ (args : Array Value) (w : World), (callFunc N args).run Try.prog w = .ok (.enter N args) w) (ht : Turns w N caps m (some M)) (hE : shapeE M = 0) :
    Calls Try.prog 33 #[.agg #[.int .i64 m.guest, .slice ra rn rc, .slice sa sn sc, .slice fa fn fc, .slice na nn nc], .func (.func N) #[] caps] w (AnsI w w.heap.size (countedD M) 0) := by
  have hmf : ∀ (fn : Fn) (first cap : Array Value) (w : World), (Instr.makeFunc fn first cap).run Try.prog w = .ok (.func fn first cap) w := fun _ _ _ _ => rfl
  have b0 : Below w.heap.size w (((w.alloc (.cells #[.int .i64 m.guest, .slice ra rn rc, .slice sa sn sc, .slice fa fn fc, .slice na nn nc] 26)).alloc (.cells #[.int .i64 0, .slice none 0 0, .slice none 0 0, .slice none 0 0, .slice none 0 0] 26)).alloc (.cells #[.int .i64 0] 27)) := (((Below.refl _ _).alloc (Nat.le_refl _) _).alloc (by simp) _).alloc (by simp <;> omega) _
  have m0 : (((w.alloc (.cells #[.int .i64 m.guest, .slice ra rn rc, .slice sa sn sc, .slice fa fn fc, .slice na nn nc] 26)).alloc (.cells #[.int .i64 0, .slice none 0 0, .slice none 0 0, .slice none 0 0, .slice none 0 0] 26)).alloc (.cells #[.int .i64 0] 27)).heap[w.heap.size]? = some (.cells #[.int .i64 m.guest, .slice ra rn rc, .slice sa sn sc, .slice fa fn fc, .slice na nn nc] 26) := cells_alloc (cells_alloc (World.alloc_heap_new _ _) _) _
  have m1 : (((w.alloc (.cells #[.int .i64 m.guest, .slice ra rn rc, .slice sa sn sc, .slice fa fn fc, .slice na nn nc] 26)).alloc (.cells #[.int .i64 0, .slice none 0 0, .slice none 0 0, .slice none 0 0, .slice none 0 0] 26)).alloc (.cells #[.int .i64 0] 27)).heap[w.heap.size + 1]? = some (.cells #[.int .i64 0, .slice none 0 0, .slice none 0 0, .slice none 0 0, .slice none 0 0] 26) := cells_alloc (by have := World.alloc_heap_new (w.alloc (.cells #[.int .i64 m.guest, .slice ra rn rc, .slice sa sn sc, .slice fa fn fc, .slice na nn nc] 26)) (.cells #[.int .i64 0, .slice none 0 0, .slice none 0 0, .slice none 0 0, .slice none 0 0] 26); simpa using this) _
  have m2 : (((w.alloc (.cells #[.int .i64 m.guest, .slice ra rn rc, .slice sa sn sc, .slice fa fn fc, .slice na nn nc] 26)).alloc (.cells #[.int .i64 0, .slice none 0 0, .slice none 0 0, .slice none 0 0, .slice none 0 0] 26)).alloc (.cells #[.int .i64 0] 27)).heap[w.heap.size + 1 + 1]? = some (.cells #[.int .i64 0] 27) := by have := World.alloc_heap_new ((w.alloc (.cells #[.int .i64 m.guest, .slice ra rn rc, .slice sa sn sc, .slice fa fn fc, .slice na nn nc] 26)).alloc (.cells #[.int .i64 0, .slice none 0 0, .slice none 0 0, .slice none 0 0, .slice none 0 0] 26)) (.cells #[.int .i64 0] 27); simpa using this
  have hz3 : (((w.alloc (.cells #[.int .i64 m.guest, .slice ra rn rc, .slice sa sn sc, .slice fa fn fc, .slice na nn nc] 26)).alloc (.cells #[.int .i64 0, .slice none 0 0, .slice none 0 0, .slice none 0 0, .slice none 0 0] 26)).alloc (.cells #[.int .i64 0] 27)).heap.size = w.heap.size + 1 + 1 + 1 := by simp
  obtain ⟨c0, c1, c2, c3, c4⟩ := five m0
  have hcp := copied_is (h.below b0) hF
  have HX : Hid (shapeE M = 0) := hE
  clear h hE
  go_enter_defers Try.func33, Try.ntmps33
  go_wp2_with (go_at_call 67; refine hcp.mono ?_; rintro e w1 ⟨val, rfl, hO, b1⟩; obtain ⟨qa, qc, q0, _⟩ := hO.forms .root (Live.root m); obtain ⟨pa, pc, q1, _⟩ := hO.forms .slots (Live.slots m); obtain ⟨ka, kc, q2, _⟩ := hO.forms .refs (Live.refs m); obtain ⟨ja, jc, q3, _⟩ := hO.forms .snaps (Live.snaps m); unfold imgV; rw [q0, q1, q2, q3])
  have hD := desk_new hO b1.size
  rw [q0, q1, q2, q3] at hD
  have b1' : Below (((w.alloc (.cells #[.int .i64 m.guest, .slice ra rn rc, .slice sa sn sc, .slice fa fn fc, .slice na nn nc] 26)).alloc (.cells #[.int .i64 0, .slice none 0 0, .slice none 0 0, .slice none 0 0, .slice none 0 0] 26)).alloc (.cells #[.int .i64 0] 27)).heap.size (((w.alloc (.cells #[.int .i64 m.guest, .slice ra rn rc, .slice sa sn sc, .slice fa fn fc, .slice na nn nc] 26)).alloc (.cells #[.int .i64 0, .slice none 0 0, .slice none 0 0, .slice none 0 0, .slice none 0 0] 26)).alloc (.cells #[.int .i64 0] 27)) (w1.alloc (.cells #[.int .i64 m.guest, .slice qa (rowN m .root) qc, .slice pa (rowN m .slots) pc, .slice ka (rowN m .refs) kc, .slice ja (rowN m .snaps) jc] 57)) := b1.alloc b1.size _
  have hbw := Below.on b0 b1'
  refine (ht _ _ _ _ hbw b0.size b1'.size hD).mono ?_
  rintro e w2 ⟨val2, rfl, hT⟩
  dsimp only
  have b3 := b1'.trans hT.bel
  have k1 := cells_below m1 b3 (by rw [hz3]; omega)
  have k2 := cells_below m2 b3 (by rw [hz3]; omega)
  have b4 : Below w.heap.size w w2 := b0.trans (b3.mono (by rw [hz3]; omega))
  have hcall := settled_ok hT.dk (Nat.le_trans b1'.size hT.bel.size) HX.out
  go_wp2_with fail
  refine hcall.mono ?_
  rintro e w3 ⟨val3, rfl, hT3⟩
  dsimp only
  have hO3 := hT3.dk.own
  have b5 := hT3.bel
  rw [hz3] at b5
  have r1 := cells_below k1 b5 (by omega)
  have r2 := cells_below k2 b5 (by omega)
  obtain ⟨z0, z1, z2, z3, z4⟩ := five r1
  have y0 := cells_frozen r1 0
  have y1 := cells_frozen r1 1
  have y2 := cells_frozen r1 2
  have y3 := cells_frozen r1 3
  have y4 := cells_frozen r1 4
  have x0 := cells_frozen r2 0
  have ce : w3.cell? ⟨w.heap.size + 1 + 1, 0, none⟩ = some (.int .i64 0) := by simp [World.cell?, r2]
  obtain ⟨ga, gc, g0, _⟩ := hO3.forms .root (Live.root _)
  obtain ⟨la, lc, g1, _⟩ := hO3.forms .slots (Live.slots _)
  obtain ⟨oa, oc, g2, _⟩ := hO3.forms .refs (Live.refs _)
  obtain ⟨ta, tc, g3, _⟩ := hO3.forms .snaps (Live.snaps _)
  unfold imgV
  rw [g0, g1, g2, g3]
  have HO : Hid (OI w3 (w.heap.size + 3) val3 (countedD M) ∧ val3 .root = _ ∧ val3 .slots = _ ∧ val3 .refs = _ ∧ val3 .snaps = _) := ⟨by rw [hz3] at hO3; exact hO3, g0, g1, g2, g3⟩
  have HB : Hid (Below w.heap.size w w3) := b4.trans (b5.mono (by omega))
  clear hO3 hT hT3 hD hcall g0 g1 g2 g3 b5 b4 b3 b1 b1' hbw hO q0 q1 q2 q3
  go_wp2_with fail
  refine leaves_cons (f := 66) (args := #[.pointer (some ⟨w.heap.size + 1 + 1, 0, none⟩)]) (by simp) (by simp [go_sem]) ?_
  refine (catch_idle ⟨w.heap.size + 1 + 1, 0, none⟩ _).mono ?_
  rintro e u' w'' ⟨rfl, rfl, rfl⟩
  obtain ⟨hO, g0, g1, g2, g3⟩ := HO.out
  have b6 := HB.out
  have i1 : w.heap.size ≤ w.heap.size + 1 := Nat.le_succ _
  have i2 : w.heap.size ≤ w.heap.size + 1 + 1 := by omega
  have hf1 : ∀ a, Live (countedD M) a → (val3 a).ownBlock ≠ some (w.heap.size + 1) := fun a ha e => by have := ((hO.row a ha).lt _ e).1; omega
  have hf2 : ∀ a, Live (countedD M) a → (val3 a).ownBlock ≠ some (w.heap.size + 1 + 1) := fun a ha e => by have := ((hO.row a ha).lt _ e).1; omega
  refine ⟨.tuple #[.agg #[.int .i64 M.guest, .slice ga (rowN (countedD M) .root) gc, .slice la (rowN (countedD M) .slots) lc, .slice oa (rowN (countedD M) .refs) oc, .slice ta (rowN (countedD M) .snaps) tc], .int .i64 0], ?_, val3, ?_, OI.mono ((((((hO.far hf1).far hf1).far hf1).far hf1).far hf1).far hf2) (by omega), ((((((b6.setCell i1 _).setCell i1 _).setCell i1 _).setCell i1 _).setCell i1 _).setCell i2 _)⟩
  · simp [results, Try.results33, go_sem, z0, z1, z2, z3, z4, ce]
  · unfold imgV
    rw [g0, g1, g2, g3]
    rfl
def ofM (o : Option ImgD) : ImgD := match o with | none => imgZ | some M => if shapeE M = 0 then countedD M else imgZ
def ofE (o : Option ImgD) : Int := match o with | none => 7 | some M => shapeE M
theorem of_is {w : World} {v : Value} {m : ImgD} {o : Option ImgD} {N : Nat} {caps : Array Value} (h : Img w v m) (hF : Fits m) (hN : ∀ (args : Array Value) (w : World), (callFunc N args).run Try.prog w = .ok (.enter N args) w) (ht : Turns w N caps m o) :
    Calls Try.prog 33 #[v, .func (.func N) #[] caps] w (AnsI w w.heap.size (ofM o) (ofE o)) := by
  have h' := h
  obtain ⟨ra, rc, sa, sc, fa, fc, na, nc, rfl, _⟩ := h.parts
  cases o with
  | none => exact of_full m ra _ rc sa _ sc fa _ fc na _ nc N caps w h' hF hN ht
  | some M =>
    unfold ofM ofE
    dsimp only
    by_cases hE : shapeE M = 0
    · rw [if_pos hE, hE]
      exact of_ok m M ra _ rc sa _ sc fa _ fc na _ nc N caps w h' hF hN ht hE
    · rw [if_neg hE]
      exact of_bad m M ra _ rc sa _ sc fa _ fc na _ nc N caps w h' hF hN ht _ rfl hE
end Go.Proofs.Ytehleeibgkpjmad
/- Contract of Take: a slot is grabbed and laid, or there is none. -/
namespace Go.Proofs.Ytehleeibgkpjmad
open Go.RowKit Go.Shelf
end Go.Proofs.Ytehleeibgkpjmad
/- Take: a slot is put behind all. -/
namespace Go.Proofs.Ytehleeibgkpjmad
open Go.RowKit Go.Shelf
set_option maxRecDepth 20000

abbrev z3 : List Value := [.int .i64 0, .string ⟨#[]⟩, .slice none 0 0]
abbrev z1 : List Value := [.int .i64 0]
structure TkI (w1 : World) (B : Nat) (sv0 fv0 : Value) (n : Nat) (xs ys : List Value) (sv fv : Value) (cS cR : Bool) (W : World) : Prop where
  bel : Below B w1 W
  bB : B ≤ w1.heap.size
  s : W.ownsRow B 52 3 sv (if cS then n + 1 else n) (if cS then xs ++ z3 else xs)
  r : W.ownsRow B 3 1 fv (if cR then n + 1 else n) (if cR then ys ++ z1 else ys)
  keep : ∀ q, q < w1.heap.size → sv0.ownBlock ≠ some q → fv0.ownBlock ≠ some q → W.heap[q]? = w1.heap[q]?
  sb : sv.ownBlock = sv0.ownBlock ∨ ∀ g, sv.ownBlock = some g → w1.heap.size ≤ g
  fb : fv.ownBlock = fv0.ownBlock ∨ ∀ g, fv.ownBlock = some g → w1.heap.size ≤ g
  ap : ∀ g, sv.ownBlock = some g → fv.ownBlock ≠ some g
theorem TkI.alloc {w1 : World} {B : Nat} {sv0 fv0 : Value} {n : Nat} {xs ys : List Value} {sv fv : Value} {cS cR : Bool} {W : World} (h : TkI w1 B sv0 fv0 n xs ys sv fv cS cR W) (o : Obj) : TkI w1 B sv0 fv0 n xs ys sv fv cS cR (W.alloc o) :=
  ⟨h.bel.alloc (Nat.le_trans h.bB h.bel.size) o, h.bB, h.s.alloc o, h.r.alloc o, fun q hq h1 h2 => (Below.heap_alloc W o q (Nat.lt_of_lt_of_le hq h.bel.size)).trans (h.keep q hq h1 h2), h.sb, h.fb, h.ap⟩
theorem TkI.drew {w1 : World} {B : Nat} {sv0 fv0 : Value} {n : Nat} {xs ys : List Value} {sv fv : Value} {cS cR : Bool} {W : World} (h : TkI w1 B sv0 fv0 n xs ys sv fv cS cR W) : TkI w1 B sv0 fv0 n xs ys sv fv cS cR W.drew :=
  ⟨h.bel.drew, h.bB, h.s.drew, h.r.drew, h.keep, h.sb, h.fb, h.ap⟩
end Go.Proofs.Ytehleeibgkpjmad
/- Take: both rows have been put one behind, and the desk tells so. -/
namespace Go.Proofs.Ytehleeibgkpjmad
open Go.RowKit Go.Shelf
set_option maxRecDepth 20000

theorem row_blk {W W' : World} {B n size : Nat} {e : TypeId} {v : Value} {xs : List Value} (h : W.ownsRow B e size v n xs) (hb : ∀ g, v.ownBlock = some g → W'.heap[g]? = W.heap[g]?) : W'.ownsRow B e size v n xs := by
  refine ⟨h.1, ?_⟩
  rcases h.2 with hn | ⟨g, cap, cur, hv, hb', hg, rest⟩
  · exact .inl hn
  · exact .inr ⟨g, cap, cur, hv, hb', (hb g (by rw [hv]; rfl)).trans hg, rest⟩
end Go.Proofs.Ytehleeibgkpjmad
/- Take: the walk where a slot is put behind all. -/
namespace Go.Proofs.Ytehleeibgkpjmad
open Go.RowKit Go.Shelf
end Go.Proofs.Ytehleeibgkpjmad
/- Contract of firstEntries: a list of its own, the first n as they were, 0 behind. -/
namespace Go.Proofs.Ytehleeibgkpjmad
open Go.RowKit
end Go.Proofs.Ytehleeibgkpjmad
/- Contracts of With and Cut, and of the document's WithOf and CutOf: the same answers, each in a list of its own. -/
namespace Go.Proofs.Ytehleeibgkpjmad
open Go.RowKit
end Go.Proofs.Ytehleeibgkpjmad
/- Contracts of what is done on a desk: entries, lay, put. -/
namespace Go.Proofs.Ytehleeibgkpjmad
open Go.RowKit Go.Shelf


end Go.Proofs.Ytehleeibgkpjmad
/- Contracts of what is done on a desk: lay, put. -/
namespace Go.Proofs.Ytehleeibgkpjmad
open Go.RowKit Go.Shelf
end Go.Proofs.Ytehleeibgkpjmad
/- Contracts of what is done on a desk: Take, all ways. -/
namespace Go.Proofs.Ytehleeibgkpjmad
open Go.RowKit Go.Shelf
set_option maxRecDepth 20000


end Go.Proofs.Ytehleeibgkpjmad
/- Contracts of what is done on a desk: lay that finds no slot. -/
namespace Go.Proofs.Ytehleeibgkpjmad
open Go.RowKit Go.Shelf
end Go.Proofs.Ytehleeibgkpjmad
/- What the program makes on its desk is what the document asks: the plain part. -/
namespace Go.Proofs.Ytehleeibgkpjmad
open Go.RowKit Go.Shelf
set_option maxRecDepth 20000

structure Kin (a b : ImgD) : Prop where
  guest : a.guest = b.guest
  root : a.root = b.root
  slots : a.slots = b.slots
  snaps : a.snaps = b.snaps
  refs : a.refs.length = b.refs.length
theorem Kin.roots {a b : ImgD} (h : Kin a b) : rootsOf a = rootsOf b := by unfold rootsOf; rw [h.guest, h.root, h.snaps]
theorem Kin.shape {a b : ImgD} (h : Kin a b) : shapeE a = shapeE b := by
  unfold shapeE
  rw [h.roots, h.slots, h.snaps, h.refs]
structure Meets (o p : Option ImgD) : Prop where
  none : o = none → p = none
  some : ∀ M, o = some M → shapeE M = 0 ∧ p = some (countedD M)
theorem Meets.m {o p : Option ImgD} (h : Meets o p) : ofM o = p.getD imgZ := by
  cases ho : o with
  | none => rw [h.none ho]; rfl
  | some M =>
    obtain ⟨h1, h2⟩ := h.some M ho
    rw [h2]
    unfold ofM
    dsimp only
    rw [if_pos h1]
    rfl
end Go.Proofs.Ytehleeibgkpjmad
/- What the program writes on its desk is what the document asks: the plain part of Write. -/
namespace Go.Proofs.Ytehleeibgkpjmad
open Go.RowKit Go.Shelf
end Go.Proofs.Ytehleeibgkpjmad
/- Contracts of what is done on a desk: lay, all ways; put; vacate's closure. -/
namespace Go.Proofs.Ytehleeibgkpjmad
open Go.RowKit Go.Shelf
end Go.Proofs.Ytehleeibgkpjmad
/- What the two turns of a page's table need of the image: plain. -/
namespace Go.Proofs.Ytehleeibgkpjmad
open Go.RowKit Go.Shelf
end Go.Proofs.Ytehleeibgkpjmad
/- Contracts of writing: Write's closure. -/
namespace Go.Proofs.Ytehleeibgkpjmad
open Go.RowKit Go.Shelf
end Go.Proofs.Ytehleeibgkpjmad
/- Contracts of writing: Write's closure, in place; joined. -/
namespace Go.Proofs.Ytehleeibgkpjmad
open Go.RowKit Go.Shelf
theorem DK.drewN {W : World} {B D : Nat} {val : Nm → Value} {m : ImgD} (h : DK W B D val m) (q : Nat) : DK (W.drewN q) B D val m := h.below (below_drewN (Below.refl _ _) q)

end Go.Proofs.Ytehleeibgkpjmad
/- An image of right shape is not too wide to be copied. -/
namespace Go.Proofs.Ytehleeibgkpjmad
open Go.RowKit
set_option maxRecDepth 20000

theorem okD_len {s : SlotD} (h : okD s = true) : s.2.2.length ≤ 4 := by
  unfold okD slotOK at h
  split at h
  · simp at h; rw [h.2]; exact Nat.zero_le _
  · split at h
    · simp at h; rw [h.2]; exact Nat.zero_le _
    · split at h
      · simp at h; rw [ckE_len h.1]; exact Nat.le_refl _
      · cases h
theorem fits_of_shape {m : ImgD} (h : shapeE m = 0) : Fits m := by
  obtain ⟨h1, h2, h3, h4, h5, h6, h7⟩ := shapeE_zero h
  have hs := slotsE_parts h2
  have hR : ∀ s ∈ rootsOf m, s.2.2.length ≤ 5 := fun s hs => by
    have hg := List.all_eq_true.1 h5 s hs
    have hf := List.all_eq_true.1 h7 s hs
    unfold guestOK at hg
    unfold rootFit at hf
    simp only [Bool.and_eq_true, decide_eq_true_eq] at hg hf
    omega
  have hroot := hR (⟨#[]⟩, m.guest, m.root) List.mem_cons_self
  have hroot : m.root.length ≤ 5 := hroot
  have hr : room = 140737488355328 := room_is
  refine ⟨by omega, by omega, by omega, by omega, fun j hj => ?_, fun j hj => ?_⟩
  · have ok := slotsE_all h2 hj
    have e : m.slots.getD j default = m.slots[j] := by simp [List.getD, hj]
    rw [e]
    have : m.slots[j].2.2.length ≤ 4 := okD_len ok
    omega
  · have e : m.snaps.getD j default = m.snaps[j] := by simp [List.getD, hj]
    rw [e]
    have := hR m.snaps[j] (List.mem_cons_of_mem _ (List.getElem_mem hj))
    omega
end Go.Proofs.Ytehleeibgkpjmad
/- Contracts of mending: Repair and Leaks. -/
namespace Go.Proofs.Ytehleeibgkpjmad
open Go.RowKit Go.Shelf
theorem AnsI.open {w w' : World} {B : Nat} {m : ImgD} {err : Int} {r : Ending} (h : AnsI w B m err r w') : ∃ val ra rc sa sc fa fc na nc, r = .returned (.tuple #[.agg #[.int .i64 m.guest, .slice ra m.root.length rc, .slice sa m.slots.length sc, .slice fa m.refs.length fc, .slice na m.snaps.length nc], .int .i64 err]) ∧ OI w' B val m ∧ Below B w w' ∧ imgV m.guest val = .agg #[.int .i64 m.guest, .slice ra m.root.length rc, .slice sa m.slots.length sc, .slice fa m.refs.length fc, .slice na m.snaps.length nc] := by
  obtain ⟨val, rfl, hO, hb⟩ := h
  obtain ⟨ra, rc, e0, _⟩ := hO.forms .root (Live.root m)
  obtain ⟨sa, sc, e1, _⟩ := hO.forms .slots (Live.slots m)
  obtain ⟨fa, fc, e2, _⟩ := hO.forms .refs (Live.refs m)
  obtain ⟨na, nc, e3, _⟩ := hO.forms .snaps (Live.snaps m)
  have e : imgV m.guest val = .agg #[.int .i64 m.guest, .slice ra m.root.length rc, .slice sa m.slots.length sc, .slice fa m.refs.length fc, .slice na m.snaps.length nc] := by
    unfold imgV
    rw [e0, e1, e2, e3]
    rfl
  exact ⟨val, ra, rc, sa, sc, fa, fc, na, nc, by rw [e], hO, hb, e⟩


end Go.Proofs.Ytehleeibgkpjmad
/- Contracts of writing: vacate, Wipe, Punch. -/
namespace Go.Proofs.Ytehleeibgkpjmad
open Go.RowKit Go.Shelf
end Go.Proofs.Ytehleeibgkpjmad
/- Contract of slots.Check. -/
namespace Go.Proofs.Ytehleeibgkpjmad
open Go.RowKit
end Go.Proofs.Ytehleeibgkpjmad
/- Contracts of writing: Write. -/
namespace Go.Proofs.Ytehleeibgkpjmad
open Go.RowKit Go.Shelf
end Go.Proofs.Ytehleeibgkpjmad
/- Contracts of writing: Wipe, Punch. -/
namespace Go.Proofs.Ytehleeibgkpjmad
open Go.RowKit Go.Shelf
end Go.Proofs.Ytehleeibgkpjmad
/- What the program resizes on its desk is what the document asks: the plain part of Resize. -/
namespace Go.Proofs.Ytehleeibgkpjmad
open Go.RowKit Go.Shelf
end Go.Proofs.Ytehleeibgkpjmad
/- Contracts of Cut, and of the document's WithOf and CutOf. -/
namespace Go.Proofs.Ytehleeibgkpjmad
open Go.RowKit
end Go.Proofs.Ytehleeibgkpjmad
/- Contracts of writing: slices.Equal at entries, Cut with its row, cut. -/
namespace Go.Proofs.Ytehleeibgkpjmad
open Go.RowKit Go.Shelf
end Go.Proofs.Ytehleeibgkpjmad
/- Contracts of writing: Resize. -/
namespace Go.Proofs.Ytehleeibgkpjmad
open Go.RowKit Go.Shelf
end Go.Proofs.Ytehleeibgkpjmad
/- Contracts of writing: Resize. -/
namespace Go.Proofs.Ytehleeibgkpjmad
open Go.RowKit Go.Shelf
end Go.Proofs.Ytehleeibgkpjmad
/- What Write, Wipe, Punch and Resize answer, errors too, and what it is to the image that was handed in. -/
namespace Go.Proofs.Ytehleeibgkpjmad
open Go.RowKit Go.Shelf
end Go.Proofs.Ytehleeibgkpjmad
/- Contracts of the document's CheckImage, look, LookError, LookOf. -/
namespace Go.Proofs.Ytehleeibgkpjmad
open Go.RowKit Go.Shelf
set_option maxRecDepth 20000

theorem checkImage_bad (gm : Int) (ra : Option Addr) (rn rc : Nat) (sa : Option Addr) (sn sc : Nat) (fa : Option Addr) (fn fc : Nat) (na : Option Addr) (nn nc : Nat) (m : ImgD) (E : Int) (w : World) (h : Img w (.agg #[.int .i64 gm, .slice ra rn rc, .slice sa sn sc, .slice fa fn fc, .slice na nn nc]) m) (hE : shapeE m = E) (hne : (E != 0) = true) :
    Calls Try.prog 59 #[.agg #[.int .i64 gm, .slice ra rn rc, .slice sa sn sc, .slice fa fn fc, .slice na nn nc]] w fun r w' => r = .returned (.int .i64 E) ∧ Below w.heap.size w w' := by
  have b0 : Below w.heap.size w (w.alloc (.cells #[.int .i64 gm, .slice ra rn rc, .slice sa sn sc, .slice fa fn fc, .slice na nn nc] 26)) := (Below.refl _ _).alloc (Nat.le_refl _) _
  have hcall := shapeOf_is (h.below b0) hE
  clear h hE
  go_enter Try.func59, Try.ntmps59
  go_wp2_with (go_at_call 89; refine hcall.mono ?_; rintro e w1 ⟨rfl, b1⟩)
  go_ret
  exact ⟨rfl, Below.on b0 b1⟩

set_option linter.unusedSimpArgs false in
set_option maxHeartbeats 4000000 in
theorem checkImage_at (gm : Int) (ra : Option Addr) (rn rc : Nat) (sb so : Nat) (sn sc : Nat) (fa : Option Addr) (fn fc : Nat) (na : Option Addr) (nn nc : Nat) (m : ImgD) (E : Int) (w : World) (h : Img w (.agg #[.int .i64 gm, .slice ra rn rc, .slice (some ⟨sb, so, none⟩) sn sc, .slice fa fn fc, .slice na nn nc]) m) (hsn : m.slots.length = sn) (hsb : sb < w.heap.size) (hcl : ∀ j, (h : j < m.slots.length) → SlAt w sb (so + j * 3) m.slots[j]) (hf : Sl w (.slice fa fn fc) m.refs) (hfn : fn = sn)
    (h0 : shapeE m = 0) (hE : checkE m = E) :
    Calls Try.prog 59 #[.agg #[.int .i64 gm, .slice ra rn rc, .slice (some ⟨sb, so, none⟩) sn sc, .slice fa fn fc, .slice na nn nc]] w fun r w' => r = .returned (.int .i64 E) ∧ Below w.heap.size w w' := by
  have b0 : Below w.heap.size w (w.alloc (.cells #[.int .i64 gm, .slice ra rn rc, .slice (some ⟨sb, so, none⟩) sn sc, .slice fa fn fc, .slice na nn nc] 26)) := (Below.refl _ _).alloc (Nat.le_refl _) _
  have m0 : (w.alloc (.cells #[.int .i64 gm, .slice ra rn rc, .slice (some ⟨sb, so, none⟩) sn sc, .slice fa fn fc, .slice na nn nc] 26)).heap[w.heap.size]? = some (.cells #[.int .i64 gm, .slice ra rn rc, .slice (some ⟨sb, so, none⟩) sn sc, .slice fa fn fc, .slice na nn nc] 26) := World.alloc_heap_new _ _
  have h40 : sn ≤ 40 := by rw [← hsn]; exact (slotsE_parts (shapeE_zero h0).2.1).2
  have hrl : m.refs.length = sn := by rw [(shapeE_zero h0).2.2.1, hsn]
  have HE : Hid (E = if cntL m ≠ m.refs then 9 else if (List.range m.slots.length).all (freeAt m) = true then 0 else 9) := by
    show _ = _
    rw [← hE]; unfold checkE; rw [if_neg (by simpa using h0)]
  have FB : Hid (∀ n, n < sn → (m.refs.getD n 0 ≠ (cntL m).getD n 0 ∨ freeAt m n = false) → E = 9) := fun n hn hor => by
    rw [HE.out]
    by_cases hq : cntL m ≠ m.refs
    · rw [if_pos hq]
    · rw [if_neg hq, if_neg]
      intro e
      rcases hor with hh | hh
      · exact hh (by rw [Classical.not_not.1 hq])
      · have := List.all_eq_true.1 e n (by rw [hsn]; simpa using hn)
        rw [hh] at this; cases this
  have FG : Hid ((∀ n, n < sn → m.refs.getD n 0 = (cntL m).getD n 0 ∧ freeAt m n = true) → E = 0) := fun hall => by
    rw [HE.out, if_neg, if_pos]
    · rw [List.all_eq_true]; intro j hj; exact (hall j (by rw [← hsn]; simpa using hj)).2
    · rw [Classical.not_not]
      apply List.ext_getElem
      · rw [cntL_length, hrl, hsn]
      · intro j h1 h2
        have := (hall j (by rw [← hrl]; exact h2)).1
        simpa [List.getD, h1, h2] using this.symm
  have hcall := shapeOf_is (h.below b0) h0
  have hcnt := fun W (hW : Below w.heap.size w W) => countsOf_is (h.below hW) h0
  rw [hsn] at hcnt
  have H1 : Hid (m.slots.length = sn) := hsn
  have H2 : Hid (∀ j, (h : j < m.slots.length) → SlAt w sb (so + j * 3) m.slots[j]) := hcl
  have H3 : Hid (Sl w (.slice fa fn fc) m.refs) := hf
  subst hfn
  have H4 : Hid (m.refs.length = fn) := hrl
  clear HE hsn hcl hf hrl h h0 hE
  go_enter Try.func59, Try.ntmps59
  go_wp2_with fail
  refine hcall.mono ?_
  rintro e w1 ⟨rfl, b1⟩
  have m1 := cells_below m0 b1 (by simp)
  obtain ⟨c0, c1, c2, c3, c4⟩ := five m1
  have hb1 := Below.on b0 b1
  have hcnt := hcnt w1 hb1
  clear hcall
  go_wp2_with fail
  refine hcnt.mono ?_
  rintro e w2 ⟨⟨rfl, hL⟩, b2⟩
  have m2 := cells_below m1 b2 (Array.getElem?_eq_some_iff.1 m1).1
  clear c0 c1 c2 c3 c4 hcnt
  obtain ⟨c0, c1, c2, c3, c4⟩ := five m2
  have hbw := Below.on hb1 b2
  obtain ⟨g, hg⟩ : ∃ g, w1.heap.size + 1 = g := ⟨_, rfl⟩
  rw [hg] at hL ⊢
  clear hg
  go_wp2_with fail
  go_loopw [5] (fun i wq => ∃ k : Nat, k ≤ fn ∧ i = .int .i64 k ∧ Hid (∀ j, j < k → m.refs.getD j 0 = (cntL m).getD j 0 ∧ freeAt m j = true) ∧ (Hid (∀ a, wq.cell? a = w2.cell? a) ∧ Below w.heap.size w wq)) (fun i _ => fn - (intOf i).toNat)
  case atStart => exact ⟨0, Nat.zero_le _, rfl, fun j hj => absurd hj (by omega), fun _ => rfl, hbw⟩
  case round =>
    obtain ⟨k, hk, rfl, HA, hsame, hbr⟩ := hrel
    have c0 := (hsame.out _).trans c0
    have c1 := (hsame.out _).trans c1
    have c2 := (hsame.out _).trans c2
    have c3 := (hsame.out _).trans c3
    have c4 := (hsame.out _).trans c4
    by_cases hlk : k < fn
    · have hki : (k : Int) < (fn : Int) := by omega
      have hkm : k < m.slots.length := by rw [H1.out]; exact hlk
      obtain ⟨tv, s1, _⟩ := H2.out k hkm
      have ekd : m.slots[k].1 = kd m.slots k := by unfold kd; simp [List.getD, hkm]
      rw [ekd] at s1
      have s1 := (hbr.cell (p := ⟨sb, so + k * 3, none⟩) hsb).trans s1
      obtain ⟨b, off, rfl, hlt, hcf⟩ := H3.out.cells.2.2.2 k hlk
      have hcf := (hbr.cell (p := ⟨b, off + k, none⟩) hlt).trans hcf
      have hcc := (hsame.out _).trans (hL.cell (by rw [cntL_length, H1.out]; exact hlk))
      obtain ⟨x, hx⟩ : ∃ x, m.refs.getD k 0 = x := ⟨_, rfl⟩
      obtain ⟨y, hy⟩ : ∃ y, (cntL m).getD k 0 = y := ⟨_, rfl⟩
      obtain ⟨z, hz⟩ : ∃ z, kd m.slots k = z := ⟨_, rfl⟩
      have HF : Hid (freeAt m k = ((z == 0) == (y == 0))) := by
        show _ = _
        unfold freeAt
        rw [hy, ← hz]; rfl
      rw [hx] at hcf
      rw [hy] at hcc
      rw [hz] at s1
      have HXY : Hid (m.refs.getD k 0 = x ∧ (cntL m).getD k 0 = y) := ⟨hx, hy⟩
      clear hx hy hz ekd
      by_cases hxy : x = y
      · have hxyb : (x != y) = false := by simp [hxy]
        have HE2 : Hid (x = y) := hxy
        clear hxy
        cases hy0 : y == 0 with
        | true =>
          cases hz0 : z == 0 with
          | true =>
            go_wp2_with fail
            go_quiet (fail)
            go_wp2_with fail
            go_roundw
            case rel => exact ⟨k + 1, by omega, by go_num, fun j hj => by
              by_cases e : j = k
              · subst e; exact ⟨by rw [HXY.out.1, HXY.out.2, HE2.out], by rw [HF.out, hz0, hy0]; rfl⟩
              · exact HA.out j (by omega), fun a => hsame.out a, ⟨hbr.os, hbr.tape, hbr.output, hbr.size, hbr.block⟩⟩
            case measure => simp [intOf]; omega
          | false =>
            have HB : Hid (E = 9) := FB.out k hlk (.inr (by rw [HF.out, hz0, hy0]; rfl))
            go_wp2_with fail
            go_quiet (fail)
            go_wp2_with fail
            go_ret
            exact ⟨ret_int HB.out.symm, ⟨hbr.os, hbr.tape, hbr.output, hbr.size, hbr.block⟩⟩
        | false =>
          cases hz0 : z == 0 with
          | true =>
            have HB : Hid (E = 9) := FB.out k hlk (.inr (by rw [HF.out, hz0, hy0]; rfl))
            go_wp2_with fail
            go_quiet (fail)
            go_wp2_with fail
            go_ret
            exact ⟨ret_int HB.out.symm, ⟨hbr.os, hbr.tape, hbr.output, hbr.size, hbr.block⟩⟩
          | false =>
            go_wp2_with fail
            go_quiet (fail)
            go_wp2_with fail
            go_roundw
            case rel => exact ⟨k + 1, by omega, by go_num, fun j hj => by
              by_cases e : j = k
              · subst e; exact ⟨by rw [HXY.out.1, HXY.out.2, HE2.out], by rw [HF.out, hz0, hy0]; rfl⟩
              · exact HA.out j (by omega), fun a => hsame.out a, ⟨hbr.os, hbr.tape, hbr.output, hbr.size, hbr.block⟩⟩
            case measure => simp [intOf]; omega
      · have hxyb : (x != y) = true := by simp [hxy]
        have HB : Hid (E = 9) := FB.out k hlk (.inl (by rw [HXY.out.1, HXY.out.2]; exact hxy))
        clear hxy
        go_wp2_with fail
        go_quiet (fail)
        go_wp2_with fail
        go_ret
        exact ⟨ret_int HB.out.symm, ⟨hbr.os, hbr.tape, hbr.output, hbr.size, hbr.block⟩⟩
    · have HB : Hid (E = 0) := FG.out (fun n hn => HA.out n (by omega))
      have e5 : k = fn := by omega
      subst e5
      go_wp2_with fail
      go_ret
      exact ⟨ret_int HB.out.symm, hbr⟩

theorem checkImage_is {w : World} {v : Value} {m : ImgD} (h : Img w v m) {E : Int} (hE : checkE m = E) :
    Calls Try.prog 59 #[v] w fun r w' => r = .returned (.int .i64 E) ∧ Below w.heap.size w w' := by
  have h' := h
  obtain ⟨ra, rc, sa, sc, fa, fc, na, nc, rfl, h1, h2, h3, h4⟩ := h.parts
  by_cases h0 : shapeE m = 0
  · obtain ⟨z1, z2, z3, _⟩ := shapeE_zero h0
    obtain ⟨sb, so, sc', e, hcp, hlt, hcell⟩ := h2.open (slotsE_parts z2).1
    simp at e
    obtain ⟨rfl, rfl⟩ := e
    exact checkImage_at m.guest ra _ rc sb so _ sc fa _ fc na _ nc m E w h' rfl hlt hcell h3 z3 h0 hE
  · have e : shapeE m = E := by rw [← hE]; unfold checkE; rw [if_pos h0]
    exact checkImage_bad m.guest ra _ rc sa _ sc fa _ fc na _ nc m E w h' e (by rw [← e]; simpa using h0)

end Go.Proofs.Ytehleeibgkpjmad
/- Contract of the document's putOf. -/
namespace Go.Proofs.Ytehleeibgkpjmad
open Go.RowKit Go.Shelf
set_option maxRecDepth 20000
set_option linter.unusedVariables false
set_option linter.unusedSimpArgs false

def AnsJ (w : World) (M : ImgD) (err : Int) (r : Ending) (w' : World) : Prop := ∃ a0 c0 a1 c1 a2 c2 a3 c3, r = .returned (.tuple #[.agg #[.int .i64 M.guest, .slice a0 M.root.length c0, .slice a1 M.slots.length c1, .slice a2 M.refs.length c2, .slice a3 M.snaps.length c3], .int .i64 err]) ∧ (∀ W', (∀ q, w.heap.size ≤ q → W'.heap[q]? = w'.heap[q]?) → Img W' (.agg #[.int .i64 M.guest, .slice a0 M.root.length c0, .slice a1 M.slots.length c1, .slice a2 M.refs.length c2, .slice a3 M.snaps.length c3]) M) ∧ Below w.heap.size w w'
theorem imgZ_im (W : World) : Img W (.agg #[.int .i64 0, .slice none 0 0, .slice none 0 0, .slice none 0 0, .slice none 0 0]) imgZ := (OI.zero W 0).img
theorem OX.four' {W : World} {B : Nat} {val : Nm → Value} {m : ImgD} (h : OX W B val m) : ∃ a0 c0 a1 c1 a2 c2 a3 c3, val .root = .slice a0 m.root.length c0 ∧ val .slots = .slice a1 m.slots.length c1 ∧ val .refs = .slice a2 m.refs.length c2 ∧ val .snaps = .slice a3 m.snaps.length c3 := by
  obtain ⟨a0, c0, h0, _⟩ := h.forms .root (LiveX.root _)
  obtain ⟨a1, c1, h1, _⟩ := h.forms .slots (LiveX.slots _)
  obtain ⟨a2, c2, h2, _⟩ := h.forms .refs (LiveX.refs _)
  obtain ⟨a3, c3, h3, _⟩ := h.forms .snaps (LiveX.snaps _)
  exact ⟨a0, c0, a1, c1, a2, c2, a3, c3, h0, h1, h2, h3⟩
theorem OX.five {W : World} {B D : Nat} {val : Nm → Value} {m : ImgD} (h : OX W B val m) (hf : ∀ a, LiveX m a → (val a).ownBlock ≠ some D) (a0 a1 a2 a3 a4 : Value) : OX (((((W.setCell ⟨D, 0, none⟩ a0).setCell ⟨D, 1, none⟩ a1).setCell ⟨D, 2, none⟩ a2).setCell ⟨D, 3, none⟩ a3).setCell ⟨D, 4, none⟩ a4) B val m := ((((h.far hf).far hf).far hf).far hf).far hf
theorem below_five {w W : World} {B D : Nat} (h : Below B w W) (hD : B ≤ D) (a0 a1 a2 a3 a4 : Value) : Below B w (((((W.setCell ⟨D, 0, none⟩ a0).setCell ⟨D, 1, none⟩ a1).setCell ⟨D, 2, none⟩ a2).setCell ⟨D, 3, none⟩ a3).setCell ⟨D, 4, none⟩ a4) :=
  ((((h.setCell (p := ⟨D, 0, none⟩) hD _).setCell (p := ⟨D, 1, none⟩) hD _).setCell (p := ⟨D, 2, none⟩) hD _).setCell (p := ⟨D, 3, none⟩) hD _).setCell (p := ⟨D, 4, none⟩) hD _
theorem shape_rfq {m : ImgD} (h : shapeE m = 0) : shapeE { m with refs := rfZ m.slots } = 0 := by
  obtain ⟨z1, z2, z3, z4, z5, z6, z7⟩ := shapeE_zero h
  unfold shapeE
  rw [if_neg (by show ¬ 3 < m.snaps.length; omega), if_neg (by show ¬ slotsE m.slots ≠ 0; simpa using z2), if_neg, if_neg (by show ¬ (rootsOf m).all _ = false; rw [z5]; decide), if_neg (by show ¬ tabFit m.slots = false; rw [z6]; decide), if_neg (by show ¬ (rootsOf m).all _ = false; rw [z7]; decide)]
  rintro (x | x)
  · apply x; show (rfZ m.slots).length = m.slots.length; simp [rfZ]
  · have : namesOK m.snaps = false := x
    rw [z4] at this; cases this
end Go.Proofs.Ytehleeibgkpjmad
/- Contracts of isPage, Check, and of the document's CheckPages, SamePages, ZeroPage. -/
namespace Go.Proofs.Ytehleeibgkpjmad
open Go.RowKit
end Go.Proofs.Ytehleeibgkpjmad
/- Pages, plainly: which pages some bytes are, and what is joined; lists of bytes alone. -/
namespace Go.Proofs.Ytehleeibgkpjmad
open Go.RowKit
end Go.Proofs.Ytehleeibgkpjmad
/- The library's contracts that are used here, at this program: strings.Repeat, strings.Join. -/
namespace Go.Proofs
open Go.Shelf
end Go.Proofs
/- Contracts of zeros and Zero; the law of an append of one string. -/
namespace Go.Proofs.Ytehleeibgkpjmad
open Go.RowKit
end Go.Proofs.Ytehleeibgkpjmad
/- Contracts of reads.page, allPages, Read, All. -/
namespace Go.Proofs.Ytehleeibgkpjmad
open Go.RowKit Go.Shelf
set_option maxRecDepth 20000

def SAt (W : World) (g : Nat) (l : List ByteArray) : Prop := W.heap[g]? = some (.cells (l.map Value.string).toArray 9)
theorem SAt.cell {W : World} {g : Nat} {l : List ByteArray} (h : SAt W g l) {j : Nat} (hj : j < l.length) : W.cell? ⟨g, j, none⟩ = some (.string (l.getD j ByteArray.empty)) := by
  have h' : W.heap[g]? = some (.cells (l.map Value.string).toArray 9) := h
  simp [World.cell?, h', List.getD, hj]
theorem SAt.frozen {W : World} {g : Nat} {l : List ByteArray} (h : SAt W g l) (j : Nat) : W.frozen? ⟨g, j, none⟩ = false := by
  have h' : W.heap[g]? = some (.cells (l.map Value.string).toArray 9) := h
  simp [World.frozen?, h']
theorem SAt.lt {W : World} {g : Nat} {l : List ByteArray} (h : SAt W g l) : g < W.heap.size := (Array.getElem?_eq_some_iff.1 h).1
theorem SAt.set {W : World} {g : Nat} {l : List ByteArray} (h : SAt W g l) (j : Nat) (x : ByteArray) : SAt (W.setCell ⟨g, j, none⟩ (.string x)) g (l.set j x) := by
  obtain ⟨hlt, hk⟩ := Array.getElem?_eq_some_iff.1 h
  show (W.heap.modify g _)[g]? = _
  rw [Array.getElem?_eq_getElem (by rw [Array.size_modify]; exact hlt), Array.getElem_modify_self, hk]
  simp [List.map_set]
theorem SAt.below {W W' : World} {g n : Nat} {l : List ByteArray} (h : SAt W g l) (hb : Below n W W') (hg : g < n) : SAt W' g l := (hb.block _ hg).trans h

end Go.Proofs.Ytehleeibgkpjmad
/- Contract of pair: the image that every beginning looks at. -/
namespace Go.Proofs.Ytehleeibgkpjmad
open Go.RowKit Go.Shelf
set_option maxRecDepth 20000

def aaaa : ByteArray := ⟨#[97, 97, 97, 97]⟩
def bbbb : ByteArray := ⟨#[98, 98, 98, 98]⟩
def nOld : ByteArray := ⟨#[111, 108, 100]⟩

def pairD (g : Int) (R T : List Int) : ImgD := ⟨g, [2, 4], [(0, ⟨#[]⟩, []), (1, aaaa, []), (2, ⟨#[]⟩, [1, 0, -1, 1]), (1, bbbb, []), (2, ⟨#[]⟩, T)], R, [(nOld, 4, [2])]⟩
structure PairW (n : Nat) (W : World) (R T : List Int) : Prop where
  root : LAt W (n + 1) [2, 4]
  ta : LAt W (n + 2) [1, 0, -1, 1]
  tb : LAt W (n + 3) T
  slots : W.heap[n + 4]? = some (.cells #[.int .i64 0, .string ⟨#[]⟩, .slice none 0 0, .int .i64 1, .string aaaa, .slice none 0 0, .int .i64 2, .string ⟨#[]⟩, .slice (some ⟨n + 2, 0, none⟩) 4 4, .int .i64 1, .string bbbb, .slice none 0 0, .int .i64 2, .string ⟨#[]⟩, .slice (some ⟨n + 3, 0, none⟩) 4 4] 52)
  refs : LAt W (n + 5) R
  sroot : LAt W (n + 6) [2]
  snaps : W.heap[n + 7]? = some (.cells #[.string nOld, .int .i64 4, .slice (some ⟨n + 6, 0, none⟩) 1 1] 72)

theorem alloc_get (W : World) (o : Obj) (i : Nat) : (W.alloc o).heap[i]? = if i = W.heap.size then some o else W.heap[i]? := by
  show (W.heap.push o)[i]? = _
  rw [Array.getElem?_push]

theorem size_alloc (W : World) (o : Obj) : (W.alloc o).heap.size = W.heap.size + 1 := by simp

set_option linter.unusedSimpArgs false in
theorem pair_at (w : World) : Calls Try.prog 42 #[] w fun r w' => r = .returned (.agg #[.int .i64 6, .slice (some ⟨w.heap.size + 1, 0, none⟩) 2 2, .slice (some ⟨w.heap.size + 4, 0, none⟩) 5 5, .slice (some ⟨w.heap.size + 5, 0, none⟩) 5 5, .slice (some ⟨w.heap.size + 7, 0, none⟩) 1 1]) ∧ PairW w.heap.size w' [0, 2, 2, 1, 1] [3, 0, 0, 0] ∧ Below w.heap.size w w' := by
  go_enter Try.func42, Try.ntmps42
  go_wp2
  refine bodyPost_ret (v := .agg #[.int .i64 6, .slice (some ⟨w.heap.size + 1, 0, none⟩) 2 2, .slice (some ⟨w.heap.size + 4, 0, none⟩) 5 5, .slice (some ⟨w.heap.size + 5, 0, none⟩) 5 5, .slice (some ⟨w.heap.size + 7, 0, none⟩) 1 1]) (by simp [results, Try.results42, go_sem]) rfl ⟨rfl, ⟨?_, ?_, ?_, ?_, ?_, ?_, ?_⟩, ?_⟩
  · show _ = _; simp only [alloc_get, size_alloc, Nat.add_right_cancel_iff, Nat.add_assoc, Nat.reduceAdd, Nat.add_left_cancel_iff, Nat.reduceEqDiff, ↓reduceIte, List.map, Nat.left_eq_add, reduceCtorEq, Nat.add_eq_left, Nat.succ_ne_self]
  · show _ = _; simp only [alloc_get, size_alloc, Nat.add_right_cancel_iff, Nat.add_assoc, Nat.reduceAdd, Nat.add_left_cancel_iff, Nat.reduceEqDiff, ↓reduceIte, List.map, Nat.left_eq_add, reduceCtorEq, Nat.add_eq_left, Nat.succ_ne_self]
  · show _ = _; simp only [alloc_get, size_alloc, Nat.add_right_cancel_iff, Nat.add_assoc, Nat.reduceAdd, Nat.add_left_cancel_iff, Nat.reduceEqDiff, ↓reduceIte, List.map, Nat.left_eq_add, reduceCtorEq, Nat.add_eq_left, Nat.succ_ne_self]
  · show _ = _; simp only [alloc_get, size_alloc, Nat.add_assoc, Nat.reduceAdd, Nat.add_left_cancel_iff, Nat.reduceEqDiff, ↓reduceIte, aaaa, bbbb]
  · show _ = _; simp only [alloc_get, size_alloc, Nat.add_right_cancel_iff, Nat.add_assoc, Nat.reduceAdd, Nat.add_left_cancel_iff, Nat.reduceEqDiff, ↓reduceIte, List.map, Nat.left_eq_add, reduceCtorEq, Nat.add_eq_left, Nat.succ_ne_self]
  · show _ = _; simp only [alloc_get, size_alloc, Nat.add_right_cancel_iff, Nat.add_assoc, Nat.reduceAdd, Nat.add_left_cancel_iff, Nat.reduceEqDiff, ↓reduceIte, List.map, Nat.left_eq_add, reduceCtorEq, Nat.add_eq_left, Nat.succ_ne_self]
  · show _ = _; simp only [alloc_get, size_alloc, Nat.add_assoc, Nat.reduceAdd, Nat.add_left_cancel_iff, Nat.reduceEqDiff, ↓reduceIte, nOld]
  · exact ((((((((Below.refl _ _).alloc (Nat.le_refl _) _).alloc (by simp) _).alloc (by simp; omega) _).alloc (by simp; omega) _).alloc (by simp; omega) _).alloc (by simp; omega) _).alloc (by simp; omega) _).alloc (by simp; omega) _

theorem PairW.below {n : Nat} {W W' : World} {R T : List Int} (h : PairW n W R T) {k : Nat} (hb : Below k W W') (hk : n + 8 ≤ k) : PairW n W' R T :=
  ⟨(hb.block _ (by omega)).trans h.root, (hb.block _ (by omega)).trans h.ta, (hb.block _ (by omega)).trans h.tb, (hb.block _ (by omega)).trans h.slots, (hb.block _ (by omega)).trans h.refs, (hb.block _ (by omega)).trans h.sroot, (hb.block _ (by omega)).trans h.snaps⟩
theorem PairW.size {n : Nat} {W : World} {R T : List Int} (h : PairW n W R T) : n + 8 ≤ W.heap.size := by
  have := (Array.getElem?_eq_some_iff.1 h.snaps).1; omega
theorem cell_of {W : World} {g : Nat} {A : Array Value} {t : TypeId} {fr : Nat × Nat} (h : W.heap[g]? = some (.cells A t fr)) {j : Nat} {v : Value} (hv : A[j]? = some v) : W.cell? ⟨g, j, none⟩ = some v := by
  simp [World.cell?, h, hv]
theorem PairW.img {n : Nat} {W : World} {R T : List Int} (h : PairW n W R T) (hR : R.length = 5) (hT : T.length = 4) (g : Int) :
    Img W (.agg #[.int .i64 g, .slice (some ⟨n + 1, 0, none⟩) 2 2, .slice (some ⟨n + 4, 0, none⟩) 5 5, .slice (some ⟨n + 5, 0, none⟩) 5 5, .slice (some ⟨n + 7, 0, none⟩) 1 1]) (pairD g R T) := by
  refine ⟨_, _, _, _, rfl, h.root.sl rfl (by decide), ⟨some ⟨n + 4, 0, none⟩, 5, rfl, show (5 : Nat) ≤ maxLen by decide, Nat.le_refl _, fun _ => ⟨n + 4, 0, rfl, (Array.getElem?_eq_some_iff.1 h.slots).1, ?_⟩⟩, h.refs.sl hR (by decide), ⟨some ⟨n + 7, 0, none⟩, 1, rfl, show (1 : Nat) ≤ maxLen by decide, Nat.le_refl _, fun _ => ⟨n + 7, 0, rfl, (Array.getElem?_eq_some_iff.1 h.snaps).1, ?_⟩⟩⟩
  · intro j hj
    have h5 : j < 5 := hj
    match j, h5 with
    | 0, _ => exact ⟨_, cell_of h.slots rfl, cell_of h.slots rfl, cell_of h.slots rfl, Sl.nil W⟩
    | 1, _ => exact ⟨_, cell_of h.slots rfl, cell_of h.slots rfl, cell_of h.slots rfl, Sl.nil W⟩
    | 2, _ => exact ⟨_, cell_of h.slots rfl, cell_of h.slots rfl, cell_of h.slots rfl, h.ta.sl rfl (by decide)⟩
    | 3, _ => exact ⟨_, cell_of h.slots rfl, cell_of h.slots rfl, cell_of h.slots rfl, Sl.nil W⟩
    | 4, _ => exact ⟨_, cell_of h.slots rfl, cell_of h.slots rfl, cell_of h.slots rfl, h.tb.sl hT (by decide)⟩
  · intro j hj
    have h1 : j < 1 := hj
    match j, h1 with
    | 0, _ => exact ⟨_, cell_of h.snaps rfl, cell_of h.snaps rfl, cell_of h.snaps rfl, h.sroot.sl rfl (by decide)⟩
theorem pair_is (w : World) : Calls Try.prog 42 #[] w fun r w' => (∃ v, r = .returned v ∧ Img w' v (pairD 6 [0, 2, 2, 1, 1] [3, 0, 0, 0])) ∧ Below w.heap.size w w' :=
  (pair_at w).mono fun _ _ h => ⟨⟨_, h.1, h.2.1.img rfl rfl 6⟩, h.2.2⟩
end Go.Proofs.Ytehleeibgkpjmad
/- Contracts of slices.IndexFunc over snapshots, and of Past. -/
namespace Go.Proofs.Ytehleeibgkpjmad
open Go.RowKit Go.Shelf
theorem find_hit {p : SnapD → Bool} {L : List SnapD} {k : Nat} (hk : k < L.length) (h : p L[k] = true) (ha : ∀ j, (hj : j < L.length) → j < k → p L[j] = false) : L.findIdx? p = some k := by
  rw [List.findIdx?_eq_some_iff_getElem]
  exact ⟨hk, h, fun j hj => by rw [ha j (by omega) hj]; decide⟩
theorem find_none {p : SnapD → Bool} {L : List SnapD} (ha : ∀ j, (hj : j < L.length) → p L[j] = false) : L.findIdx? p = none := by
  rw [List.findIdx?_eq_none_iff]
  intro x hx
  obtain ⟨j, hj, rfl⟩ := List.getElem_of_mem hx
  exact ha j hj

end Go.Proofs.Ytehleeibgkpjmad
/- Contracts of the document's pageOf, ReadOf, AllOf, snapAt, PastOf. -/
namespace Go.Proofs.Ytehleeibgkpjmad
open Go.RowKit Go.Shelf
set_option maxHeartbeats 1000000 in
theorem snapAt_at (gm : Int) (ra : Option Addr) (rn rc : Nat) (sa : Option Addr) (sn sc : Nat) (fa : Option Addr) (fn fc : Nat) (na : Option Addr) (nn nc : Nat) (S : List SnapD) (nm : ByteArray) (w : World) (hN : Snaps w (.slice na nn nc) S) (hnn : S.length = nn) (hn3 : nn ≤ 1000) (i : Int) (hi : ixOf (snapIx S nm) = i) :
    Calls Try.prog 61 #[.agg #[.int .i64 gm, .slice ra rn rc, .slice sa sn sc, .slice fa fn fc, .slice na nn nc], .string nm] w fun r w' => r = .returned (.int .i64 i) ∧ Below w.heap.size w w' := by
  have b0 : Below w.heap.size w (w.alloc (.cells #[.int .i64 gm, .slice ra rn rc, .slice sa sn sc, .slice fa fn fc, .slice na nn nc] 26)) := (Below.refl _ _).alloc (Nat.le_refl _) _
  have m0 : (w.alloc (.cells #[.int .i64 gm, .slice ra rn rc, .slice sa sn sc, .slice fa fn fc, .slice na nn nc] 26)).heap[w.heap.size]? = some (.cells #[.int .i64 gm, .slice ra rn rc, .slice sa sn sc, .slice fa fn fc, .slice na nn nc] 26) := World.alloc_heap_new _ _
  have z0 : w.heap.size < (w.alloc (.cells #[.int .i64 gm, .slice ra rn rc, .slice sa sn sc, .slice fa fn fc, .slice na nn nc] 26)).heap.size := by simp
  have H1 : Hid (Snaps w (.slice na nn nc) S ∧ S.length = nn ∧ ixOf (snapIx S nm) = i) := ⟨hN, hnn, hi⟩
  obtain ⟨c0, c1, c2, c3, c4⟩ := five m0
  clear hN hnn hi
  go_enter Try.func61, Try.ntmps61
  go_wp2_with fail
  go_loopw [5] (fun i wq => ∃ k : Nat, k ≤ nn ∧ i = .int .i64 k ∧ Hid (∀ j, (h : j < S.length) → j < k → (S[j].1.toList == nm.toList) = false) ∧ wq = (w.alloc (.cells #[.int .i64 gm, .slice ra rn rc, .slice sa sn sc, .slice fa fn fc, .slice na nn nc] 26))) (fun i _ => nn - (intOf i).toNat)
  case atStart => exact ⟨0, Nat.zero_le _, rfl, fun j h hj => absurd hj (by omega), rfl⟩
  case round =>
    obtain ⟨k, hk, rfl, HA, hw⟩ := hrel
    subst hw
    by_cases hlk : k < nn
    · have hkL : k < S.length := by rw [H1.out.2.1]; exact hlk
      obtain ⟨b, off, rfl, hlt, hS⟩ := H1.out.1.at k hkL
      have hki : (k : Int) < (nn : Int) := by omega
      obtain ⟨s, hs⟩ : ∃ s, s = S[k] := ⟨_, rfl⟩
      obtain ⟨kk, dd, tt⟩ := s
      rw [← hs] at hS
      obtain ⟨tv, s1, _⟩ := hS
      have HX : Hid (S[k] = (kk, dd, tt)) := hs.symm
      have s1 := (b0.cell (p := ⟨b, off + k * 3, none⟩) hlt).trans s1
      clear hs
      cases hq : kk.toList == nm.toList with
      | true =>
        go_wp2_with fail
        go_ret
        exact ⟨by rw [← H1.out.2.2]; unfold snapIx; rw [find_hit (p := fun s => s.1.toList == nm.toList) hkL (by rw [HX.out]; exact hq) HA.out]; rfl, b0⟩
      | false =>
        go_wp2_with fail
        go_roundw
        case rel => exact ⟨k + 1, by omega, by go_num, fun j h hj => by
          by_cases e : j = k
          · subst e; rw [HX.out]; exact hq
          · exact HA.out j h (by omega), trivial⟩
        case measure => simp [intOf]; omega
    · have e4 : k = nn := by omega
      subst e4
      go_wp2_with fail
      go_ret
      exact ⟨by rw [← H1.out.2.2]; unfold snapIx; rw [find_none (p := fun s => s.1.toList == nm.toList) (fun j hj => HA.out j hj (by rw [H1.out.2.1] at hj; exact hj))]; rfl, b0⟩
theorem snapAt_is {w : World} {v : Value} {m : ImgD} (h : Img w v m) (nm : ByteArray) (hn : m.snaps.length ≤ 1000) {i : Int} (hi : ixOf (snapIx m.snaps nm) = i) :
    Calls Try.prog 61 #[v, .string nm] w fun r w' => r = .returned (.int .i64 i) ∧ Below w.heap.size w w' := by
  obtain ⟨ra, rc, sa, sc, fa, fc, na, nc, rfl, h1, h2, h3, h4⟩ := h.parts
  exact snapAt_at m.guest ra _ rc sa _ sc fa _ fc na _ nc m.snaps nm w h4 rfl hn i hi
end Go.Proofs.Ytehleeibgkpjmad
/- Contract of SameInts. -/
namespace Go.Proofs.Ytehleeibgkpjmad
open Go.RowKit
set_option maxRecDepth 20000

theorem same_at (ao bo : Option Addr) (n cap cap' : Nat) (xs : List Int) (w : World) (hn : xs.length = n) (hm : n ≤ 9223372036854775807)
    (hc : ∀ j, j < n → ∃ b off, ao = some ⟨b, off, none⟩ ∧ b < w.heap.size ∧ w.cell? ⟨b, off + j, none⟩ = some (.int .i64 (xs.getD j 0)))
    (hd : ∀ j, j < n → ∃ b off, bo = some ⟨b, off, none⟩ ∧ b < w.heap.size ∧ w.cell? ⟨b, off + j, none⟩ = some (.int .i64 (xs.getD j 0))) :
    Calls Try.prog 22 #[.slice ao n cap, .slice bo n cap'] w fun r w' => r = .returned (.bool true) ∧ Below w.heap.size w w' := by
  have HC : Hid (∀ j, j < n → ∃ b off, ao = some ⟨b, off, none⟩ ∧ b < w.heap.size ∧ w.cell? ⟨b, off + j, none⟩ = some (.int .i64 (xs.getD j 0))) := hc
  have HD : Hid (∀ j, j < n → ∃ b off, bo = some ⟨b, off, none⟩ ∧ b < w.heap.size ∧ w.cell? ⟨b, off + j, none⟩ = some (.int .i64 (xs.getD j 0))) := hd
  clear hc hd
  have HN : Hid (xs.length = n) := hn
  clear hn
  go_enter Try.func22, Try.ntmps22
  go_wp2
  go_loopw [5] (fun i wr => ∃ k : Nat, k ≤ n ∧ i = .int .i64 k ∧ Below w.heap.size w wr) (fun i _ => n - (intOf i).toNat)
  case atStart => exact ⟨0, by omega, rfl, Below.refl _ _⟩
  case round =>
    obtain ⟨k, hk, rfl, hbel⟩ := hrel
    by_cases hlt : k < n
    · obtain ⟨x, hx⟩ : ∃ x, xs.getD k 0 = x := ⟨_, rfl⟩
      obtain ⟨b, off, hao, hl1, hck⟩ := HC.out k hlt
      obtain ⟨b', off', hbo, hl2, hck'⟩ := HD.out k hlt
      rw [hx] at hck hck'
      clear hx
      have g1 : wr.cell? ⟨b, off + k, none⟩ = some (.int .i64 x) := (hbel.cell (p := ⟨b, off + k, none⟩) hl1).trans hck
      have g2 : wr.cell? ⟨b', off' + k, none⟩ = some (.int .i64 x) := (hbel.cell (p := ⟨b', off' + k, none⟩) hl2).trans hck'
      have i1 : (k : Int) < (n : Int) := by omega
      go_wp2
      go_quiet (fail)
      go_wp2
      go_roundw
      case rel => exact ⟨k + 1, by omega, by go_num, below_drewN hbel _⟩
      case measure => simp [intOf]; omega
    · have e4 : k = n := by omega
      subst e4
      go_wp2
      go_ret
      exact ⟨rfl, hbel⟩
theorem same_any {v u : Value} {xs : List Int} {w : World} (h : Sl w v xs) (k : Sl w u xs) :
    Calls Try.prog 22 #[v, u] w fun r w' => r = .returned (.bool true) ∧ Below w.heap.size w w' := by
  obtain ⟨ao, cap, rfl⟩ := h.form
  obtain ⟨bo, cap', rfl⟩ := k.form
  obtain ⟨hn, hm, _, hc⟩ := h.cells
  obtain ⟨_, _, _, hd⟩ := k.cells
  exact same_at ao bo _ cap cap' xs w hn hm hc hd

end Go.Proofs.Ytehleeibgkpjmad
/- The document's WriteOf: what lies in memory between its steps; plain facts. -/
namespace Go.Proofs.Ytehleeibgkpjmad
open Go.RowKit Go.Shelf


end Go.Proofs.Ytehleeibgkpjmad
/- The document's ResizeOf: the calls it leans on (CutOf's row is one's own; SameInts of two lists that differ). -/
namespace Go.Proofs.Ytehleeibgkpjmad
open Go.RowKit Go.Shelf

theorem OX.blk {W W' : World} {B : Nat} {val : Nm → Value} {m : ImgD} (h : OX W B val m) (hk : ∀ a, LiveX m a → ∀ q, (val a).ownBlock = some q → W'.heap[q]? = W.heap[q]?) : OX W' B val m := ⟨fun a ha => row_blk (h.row a ha) (fun q e => hk a ha q e), h.apart, h.loose⟩
theorem ow_newroot {V X W : World} {D : Nat} {val : Nm → Value} {m : ImgD} (hX : OX X V.heap.size val m) (hbox : X.heap[D]? = some (.cells #[.int .i64 m.guest, val .root, val .slots, val .refs, val .snaps] 26)) (hge : V.heap.size ≤ D) (hfar : ∀ a, LiveX m a → (val a).ownBlock ≠ some D)
    {v : Value} {r : List Int} (hown : W.ownsRow V.heap.size 3 1 v r.length (ints r)) (hblk : ∀ q, q < X.heap.size → (val .root).ownBlock ≠ some q → W.heap[q]? = X.heap[q]?) (hbel : Below V.heap.size V W) (hv : v.ownBlock = (val .root).ownBlock ∨ ∀ q, v.ownBlock = some q → X.heap.size ≤ q) :
    OwR V (W.setCell ⟨D, 1, none⟩ v) D { m with root := r } := by
  have hDl : D < X.heap.size := (Array.getElem?_eq_some_iff.1 hbox).1
  have hlive : ∀ (r' : List Int) a, LiveX { m with root := r' } a → LiveX m a := fun r' a ha => (liveX_iff (m := m) (m' := { m with root := r' }) rfl rfl (fun _ => Iff.rfl) a).1 ha
  have h0 := hX.swapRoot (v := .slice none 0 0) (r := []) (World.ownsRow_nil _ _ _ _) (farX_nil _ _ _ _ _) m.guest
  have h1 : OX W V.heap.size (upd val .root (.slice none 0 0)) { m with guest := m.guest, root := [] } := h0.blk (fun a ha q hq => by
    by_cases ea : a = .root
    · subst ea; rw [upd_same] at hq; cases hq
    · rw [upd_other _ _ ea] at hq
      have ha' := hlive [] a ha
      exact hblk q ((hX.row a ha').lt q hq).2 (fun e => hX.apart .root a (LiveX.root m) ha' (fun x => ea x.symm) q e hq))
  have h2 := h1.swapRoot (v := v) (r := r) hown (fun b hb hne g hg e => by
    rw [upd_other _ _ hne] at e
    have hb' := hlive [] b hb
    rcases hv with x | x
    · exact hX.apart .root b (LiveX.root m) hb' (fun y => hne y.symm) g (x ▸ hg) e
    · have := x g hg; have := ((hX.row b hb').lt g e).2; omega) m.guest
  have hfar2 : ∀ a, LiveX { m with guest := m.guest, root := r } a → (upd (upd val .root (.slice none 0 0)) .root v a).ownBlock ≠ some D := fun a ha e => by
    by_cases ea : a = .root
    · subst ea; rw [upd_same] at e
      rcases hv with x | x
      · exact hfar .root (LiveX.root m) (x ▸ e)
      · have := x D e; omega
    · rw [upd_other _ _ ea, upd_other _ _ ea] at e
      exact hfar a (hlive r a ha) e
  refine ⟨⟨_, h2.far hfar2, ?_, hfar2⟩, hge, hbel.setCell (p := ⟨D, 1, none⟩) hge _⟩
  rw [upd_same, upd_other _ v (a := .root) (b := .slots) (by intro x; cases x), upd_other _ _ (a := .root) (b := .slots) (by intro x; cases x), upd_other _ v (a := .root) (b := .refs) (by intro x; cases x), upd_other _ _ (a := .root) (b := .refs) (by intro x; cases x), upd_other _ v (a := .root) (b := .snaps) (by intro x; cases x), upd_other _ _ (a := .root) (b := .snaps) (by intro x; cases x)]
  exact cells_set ((hblk D hDl (hfar .root (LiveX.root m))).trans hbox) 1 v
theorem OwR.drew {V X : World} {D : Nat} {p : ImgD} (h : OwR V X D p) : OwR V X.drew D p := by
  obtain ⟨val, h1, h2, h3⟩ := h.ex
  exact ⟨⟨val, h1.drew, h2, h3⟩, h.ge, to_drew h.bel⟩
end Go.Proofs.Ytehleeibgkpjmad
/- Contract of the document's ResizeOf. -/
namespace Go.Proofs.Ytehleeibgkpjmad
open Go.RowKit Go.Shelf
theorem OwR.below {V X X' : World} {D : Nat} {p : ImgD} (h : OwR V X D p) (hb : Below X.heap.size X X') : OwR V X' D p := by
  obtain ⟨val, h1, h2, h3⟩ := h.ex
  exact ⟨⟨val, h1.below hb, cells_below h2 hb (Array.getElem?_eq_some_iff.1 h2).1, h3⟩, h.ge, h.bel.trans (hb.mono h.bel.size)⟩
theorem ow_guest {V X : World} {D : Nat} {val : Nm → Value} {m : ImgD} (hX : OX X V.heap.size val m) (hbel : Below V.heap.size V X) (hbox : X.heap[D]? = some (.cells #[.int .i64 m.guest, val .root, val .slots, val .refs, val .snaps] 26)) (hge : V.heap.size ≤ D) (hfar : ∀ a, LiveX m a → (val a).ownBlock ≠ some D)
    (g : Int) : OwR V (X.setCell ⟨D, 0, none⟩ (.int .i64 g)) D { m with guest := g } := by
  have h1 : OX (X.setCell ⟨D, 0, none⟩ (.int .i64 g)) V.heap.size val m := hX.far hfar
  exact ⟨⟨val, ⟨h1.row, h1.apart, h1.loose⟩, cells_set hbox 0 _, hfar⟩, hge, hbel.setCell (p := ⟨D, 0, none⟩) hge _⟩
end Go.Proofs.Ytehleeibgkpjmad
/- Snapshots: what Create, Revert and Delete answer, and how that is read. Plain lists. -/
namespace Go.Proofs.Ytehleeibgkpjmad
open Go.RowKit Go.Shelf
set_option maxRecDepth 20000
set_option linter.unusedVariables false
set_option linter.unusedSimpArgs false

def crE (m : ImgD) (nm : ByteArray) : Int := if checkE m ≠ 0 then checkE m else if isNm nm = false then 4 else if (snapIx m.snaps nm).isSome = true then 6 else if m.snaps.length = 3 then 2 else 0
def crM (m : ImgD) (nm : ByteArray) : ImgD := if crE m nm = 0 then countedD (createM m nm) else imgZ
def rvM (m : ImgD) (nm : ByteArray) : ImgD := if checkE m ≠ 0 then imgZ else match snapIx m.snaps nm with | some k => countedD (revertM m k) | none => imgZ
def dlM (m : ImgD) (nm : ByteArray) : ImgD := if checkE m ≠ 0 then imgZ else match snapIx m.snaps nm with | some k => countedD (deleteM m k) | none => imgZ
theorem isSome_false {α : Type} {o : Option α} (h : ¬ o.isSome = true) : o = none := by cases o with | none => rfl | some x => exact absurd rfl h
theorem cr_ok {m : ImgD} {nm : ByteArray} (h : crE m nm = 0) : checkE m = 0 ∧ isNm nm = true ∧ snapIx m.snaps nm = none ∧ m.snaps.length < 3 ∧ crM m nm = countedD (createM m nm) ∧ shapeE (createM m nm) = 0 ∧ checkE (crM m nm) = 0 ∧ (crM m nm).slots = m.slots := by
  have e : crM m nm = countedD (createM m nm) := by unfold crM; rw [if_pos h]
  unfold crE at h
  by_cases hC : checkE m = 0
  · rw [if_neg (fun x => x hC)] at h
    by_cases hn : isNm nm = false
    · rw [if_pos hn] at h; cases h
    · rw [if_neg hn] at h
      by_cases hx : (snapIx m.snaps nm).isSome = true
      · rw [if_pos hx] at h; cases h
      · rw [if_neg hx] at h
        by_cases h3 : m.snaps.length = 3
        · rw [if_pos h3] at h; cases h
        · have hn : isNm nm = true := by simpa using hn
          have hx := isSome_false hx
          have h3 : m.snaps.length < 3 := by have := (shapeE_zero (checkE_shape hC)).1; omega
          have hs := create_shape (checkE_shape hC) hn hx h3
          exact ⟨hC, hn, hx, h3, e, hs, e ▸ counted_right hs, e ▸ slots_more hC hs rfl (flat_create m nm)⟩
  · rw [if_pos hC] at h; exact absurd h hC
theorem cr_bad {m : ImgD} {nm : ByteArray} (h : crE m nm ≠ 0) : crM m nm = imgZ := by unfold crM; rw [if_neg h]
theorem pastE_ok {m : ImgD} {nm : ByteArray} (h : pastE m nm = 0) : checkE m = 0 ∧ ∃ k, snapIx m.snaps nm = some k ∧ k < m.snaps.length := by
  unfold pastE at h
  by_cases hC : checkE m = 0
  · rw [if_neg (fun x => x hC)] at h
    cases e : snapIx m.snaps nm with
    | none => rw [e] at h; cases h
    | some k => exact ⟨hC, k, rfl, snapIx_some e⟩
  · rw [if_pos hC] at h; exact absurd h hC
theorem rv_ok {m : ImgD} {nm : ByteArray} (h : pastE m nm = 0) : checkE m = 0 ∧ ∃ k, snapIx m.snaps nm = some k ∧ k < m.snaps.length ∧ rvM m nm = countedD (revertM m k) ∧ shapeE (revertM m k) = 0 ∧ checkE (rvM m nm) = 0 ∧ usedN (rvM m nm).slots ≤ usedN m.slots := by
  obtain ⟨hC, k, hk, hl⟩ := pastE_ok h
  have e : rvM m nm = countedD (revertM m k) := by unfold rvM; rw [if_neg (fun x => x hC), hk]
  have hs := revert_shape (checkE_shape hC) hl
  exact ⟨hC, k, hk, hl, e, hs, e ▸ counted_right hs, e ▸ used_fewer _ _⟩
theorem dl_ok {m : ImgD} {nm : ByteArray} (h : pastE m nm = 0) : checkE m = 0 ∧ ∃ k, snapIx m.snaps nm = some k ∧ k < m.snaps.length ∧ dlM m nm = countedD (deleteM m k) ∧ shapeE (deleteM m k) = 0 ∧ checkE (dlM m nm) = 0 ∧ usedN (dlM m nm).slots ≤ usedN m.slots := by
  obtain ⟨hC, k, hk, hl⟩ := pastE_ok h
  have e : dlM m nm = countedD (deleteM m k) := by unfold dlM; rw [if_neg (fun x => x hC), hk]
  have hs := delete_shape (checkE_shape hC) k
  exact ⟨hC, k, hk, hl, e, hs, e ▸ counted_right hs, e ▸ used_fewer _ _⟩
theorem rv_bad {m : ImgD} {nm : ByteArray} (h : pastE m nm ≠ 0) : rvM m nm = imgZ := by
  unfold rvM; unfold pastE at h
  split
  · rfl
  · rename_i hC
    rw [if_neg hC] at h
    cases e : snapIx m.snaps nm with
    | none => rfl
    | some k => rw [e] at h; exact absurd rfl h
theorem dl_bad {m : ImgD} {nm : ByteArray} (h : pastE m nm ≠ 0) : dlM m nm = imgZ := by
  unfold dlM; unfold pastE at h
  split
  · rfl
  · rename_i hC
    rw [if_neg hC] at h
    cases e : snapIx m.snaps nm with
    | none => rfl
    | some k => rw [e] at h; exact absurd rfl h


theorem createM_insN (m : ImgD) (nm : ByteArray) : createM m nm = insM m (posS m.snaps nm) (nm, m.guest, m.root) := by
  unfold createM insM; rw [insS_insN]


end Go.Proofs.Ytehleeibgkpjmad
