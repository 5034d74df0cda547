/- Texts joined: OfI, PkU, PkR, PkG, PkH. -/
import Derived.Test.YtehleeibgkpjmagMoveRoomJ5
import Derived.Defers
import Derived.Recover
import Derived.Test.YtehleeibgkpjmagMoveRoomJ4
import Derived.Test.YtehleeibgkpjmagMoveRoomJ3
/- Contract of Of: a copy is turned, and settled; where no slot is left, the panic is caught. -/
namespace Go.Proofs.Ytehleeibgkpjmag
open Go.RowKit Go.Shelf
set_option maxRecDepth 20000

theorem catch_idle (p : Addr) (w : World) :
    CallsD Try.prog 49 #[.pointer (some p)] .returning w fun e u' w' => e = .returned (.tuple #[]) ∧ u' = .returning ∧ w' = w := by
  refine callsD_of_wpS Try.func49 rfl fun c₀ cs hu => ?_
  apply wpS_seq
  apply wpS_region
  simp [wpOpsS, go_sem, recoverD, hu, Try.ntmps49, Exit.thenS]
  refine wpS_of_wp ?_
  simp only [Array.replicate_succ, Array.replicate_zero, List.push_toArray, List.append_toArray, List.nil_append, List.cons_append, List.setIfInBounds_toArray, List.set_cons_zero, List.set_cons_succ]
  go_wp2
  cases c₀
  simp_all [bodyPostS, results, Try.results49]
set_option maxHeartbeats 1000000 in
theorem catch_full (b : Nat) (x : Int) (older : List PanicEntry) (w : World) (hc : w.cell? ⟨b, 0, none⟩ = some (.int .i64 x)) (hz : w.frozen? ⟨b, 0, none⟩ = false) (hb : b < w.heap.size) :
    CallsD Try.prog 49 #[.pointer (some ⟨b, 0, none⟩)] (.panicking ({ v := .iface 87 (.agg #[]), recovered := false } :: older)) w fun e u' w' =>
      e = .returned (.tuple #[]) ∧ u' = .panicking ({ v := .iface 87 (.agg #[]), recovered := true } :: older) ∧ w' = (w.setCell ⟨b, 0, none⟩ (.int .i64 7)).alloc (.cells #[] 87) := by
  have hta : ∀ w, (Instr.typeAssert (.iface 87 (.agg #[])) 20 87 true).run Try.prog w = .ok (.tuple #[.agg #[], .bool true]) w := fun w => by kernel_rfl
  have hcA : (w.alloc (.cells #[] 87)).cell? ⟨b, 0, none⟩ = some (.int .i64 x) := (World.cell?_alloc_past _ _ _ hb).trans hc
  have hbn : ¬ b = w.heap.size := by omega
  refine callsD_of_wpS Try.func49 rfl fun c₀ cs hu => ?_
  apply wpS_seq
  apply wpS_region
  simp [wpOpsS, go_sem, recoverD, hu, Try.ntmps49, Exit.thenS]
  refine wpS_of_wp ?_
  simp only [Array.replicate_succ, Array.replicate_zero, List.push_toArray, List.append_toArray, List.nil_append, List.cons_append, List.setIfInBounds_toArray, List.set_cons_zero, List.set_cons_succ]
  go_wp2
  cases c₀
  simp_all [bodyPostS, results, Try.results49]

abbrev noSlotP : List PanicEntry := [{ v := .iface 87 (.agg #[]), recovered := false }]
def Turns (w : World) (N : Nat) (caps : Array Value) (m : ImgD) (o : Option ImgD) : Prop :=
  ∀ (W : World) (D B : Nat) (val : Nm → Value), Below w.heap.size w W → w.heap.size ≤ B → B ≤ W.heap.size → DK W B D val m →
    Calls Try.prog N (#[.pointer (some ⟨D, 0, none⟩)] ++ caps) W fun r W' => match o with
      | some m' => ∃ val', r = .returned (.tuple #[]) ∧ DTo W W' B D m val nilV m' val'
      | none => r = .panicked noSlotP ∧ Below B W W'
theorem desk_new {w : World} {B : Nat} {val : Nm → Value} {m : ImgD} (h : OI w B val m) (hB : B ≤ w.heap.size) : DK (w.alloc (.cells #[.int .i64 m.guest, val .root, val .slots, val .refs, val .snaps] 51)) B w.heap.size val m :=
  ⟨h.alloc _, World.alloc_heap_new _ _, hB, h.lt (Nat.le_refl _)⟩

set_option maxHeartbeats 4000000 in
theorem of_full (m : ImgD) (ra : Option Addr) (rn rc : Nat) (sa : Option Addr) (sn sc : Nat) (fa : Option Addr) (fn fc : Nat) (na : Option Addr) (nn nc : Nat) (N : Nat) (caps : Array Value) (w : World) (h : Img w (.agg #[.int .i64 m.guest, .slice ra rn rc, .slice sa sn sc, .slice fa fn fc, .slice na nn nc]) m) (hF : Fits m) (hN : ∀ (args : Array Value) (w : World), (callFunc N args).run Try.prog w = .ok (.enter N args) w) (ht : Turns w N caps m none) :
    Calls Try.prog 19 #[.agg #[.int .i64 m.guest, .slice ra rn rc, .slice sa sn sc, .slice fa fn fc, .slice na nn nc], .func (.func N) #[] caps] w (AnsI w w.heap.size imgZ 7) := by
  have hmf : ∀ (fn : Fn) (first cap : Array Value) (w : World), (Instr.makeFunc fn first cap).run Try.prog w = .ok (.func fn first cap) w := fun _ _ _ _ => rfl
  have b0 : Below w.heap.size w (((w.alloc (.cells #[.int .i64 m.guest, .slice ra rn rc, .slice sa sn sc, .slice fa fn fc, .slice na nn nc] 26)).alloc (.cells #[.int .i64 0, .slice none 0 0, .slice none 0 0, .slice none 0 0, .slice none 0 0] 26)).alloc (.cells #[.int .i64 0] 27)) := (((Below.refl _ _).alloc (Nat.le_refl _) _).alloc (by simp) _).alloc (by simp <;> omega) _
  have m0 : (((w.alloc (.cells #[.int .i64 m.guest, .slice ra rn rc, .slice sa sn sc, .slice fa fn fc, .slice na nn nc] 26)).alloc (.cells #[.int .i64 0, .slice none 0 0, .slice none 0 0, .slice none 0 0, .slice none 0 0] 26)).alloc (.cells #[.int .i64 0] 27)).heap[w.heap.size]? = some (.cells #[.int .i64 m.guest, .slice ra rn rc, .slice sa sn sc, .slice fa fn fc, .slice na nn nc] 26) := cells_alloc (cells_alloc (World.alloc_heap_new _ _) _) _
  have m1 : (((w.alloc (.cells #[.int .i64 m.guest, .slice ra rn rc, .slice sa sn sc, .slice fa fn fc, .slice na nn nc] 26)).alloc (.cells #[.int .i64 0, .slice none 0 0, .slice none 0 0, .slice none 0 0, .slice none 0 0] 26)).alloc (.cells #[.int .i64 0] 27)).heap[w.heap.size + 1]? = some (.cells #[.int .i64 0, .slice none 0 0, .slice none 0 0, .slice none 0 0, .slice none 0 0] 26) := cells_alloc (by have := World.alloc_heap_new (w.alloc (.cells #[.int .i64 m.guest, .slice ra rn rc, .slice sa sn sc, .slice fa fn fc, .slice na nn nc] 26)) (.cells #[.int .i64 0, .slice none 0 0, .slice none 0 0, .slice none 0 0, .slice none 0 0] 26); simpa using this) _
  have m2 : (((w.alloc (.cells #[.int .i64 m.guest, .slice ra rn rc, .slice sa sn sc, .slice fa fn fc, .slice na nn nc] 26)).alloc (.cells #[.int .i64 0, .slice none 0 0, .slice none 0 0, .slice none 0 0, .slice none 0 0] 26)).alloc (.cells #[.int .i64 0] 27)).heap[w.heap.size + 1 + 1]? = some (.cells #[.int .i64 0] 27) := by have := World.alloc_heap_new ((w.alloc (.cells #[.int .i64 m.guest, .slice ra rn rc, .slice sa sn sc, .slice fa fn fc, .slice na nn nc] 26)).alloc (.cells #[.int .i64 0, .slice none 0 0, .slice none 0 0, .slice none 0 0, .slice none 0 0] 26)) (.cells #[.int .i64 0] 27); simpa using this
  have hz3 : (((w.alloc (.cells #[.int .i64 m.guest, .slice ra rn rc, .slice sa sn sc, .slice fa fn fc, .slice na nn nc] 26)).alloc (.cells #[.int .i64 0, .slice none 0 0, .slice none 0 0, .slice none 0 0, .slice none 0 0] 26)).alloc (.cells #[.int .i64 0] 27)).heap.size = w.heap.size + 1 + 1 + 1 := by simp
  obtain ⟨c0, c1, c2, c3, c4⟩ := five m0
  have hcp := copied_is (h.below b0) hF
  have HX : Hid (True) := trivial
  clear h
  go_enter_defers Try.func19, Try.ntmps19
  go_wp2_with (go_at_call 50; refine hcp.mono ?_; rintro e w1 ⟨val, rfl, hO, b1⟩; obtain ⟨qa, qc, q0, _⟩ := hO.forms .root (Live.root m); obtain ⟨pa, pc, q1, _⟩ := hO.forms .slots (Live.slots m); obtain ⟨ka, kc, q2, _⟩ := hO.forms .refs (Live.refs m); obtain ⟨ja, jc, q3, _⟩ := hO.forms .snaps (Live.snaps m); unfold imgV; rw [q0, q1, q2, q3])
  have hD := desk_new hO b1.size
  rw [q0, q1, q2, q3] at hD
  have b1' : Below (((w.alloc (.cells #[.int .i64 m.guest, .slice ra rn rc, .slice sa sn sc, .slice fa fn fc, .slice na nn nc] 26)).alloc (.cells #[.int .i64 0, .slice none 0 0, .slice none 0 0, .slice none 0 0, .slice none 0 0] 26)).alloc (.cells #[.int .i64 0] 27)).heap.size (((w.alloc (.cells #[.int .i64 m.guest, .slice ra rn rc, .slice sa sn sc, .slice fa fn fc, .slice na nn nc] 26)).alloc (.cells #[.int .i64 0, .slice none 0 0, .slice none 0 0, .slice none 0 0, .slice none 0 0] 26)).alloc (.cells #[.int .i64 0] 27)) (w1.alloc (.cells #[.int .i64 m.guest, .slice qa (rowN m .root) qc, .slice pa (rowN m .slots) pc, .slice ka (rowN m .refs) kc, .slice ja (rowN m .snaps) jc] 51)) := b1.alloc b1.size _
  have hbw := Below.on b0 b1'
  refine (ht _ _ _ _ hbw b0.size b1'.size hD).mono ?_
  rintro e w2 ⟨rfl, b2⟩
  dsimp only
  have b3 := b1'.trans b2
  have k1 := cells_below m1 b3 (by rw [hz3]; omega)
  have k2 := cells_below m2 b3 (by rw [hz3]; omega)
  have b4 : Below w.heap.size w w2 := b0.trans (b3.mono (by rw [hz3]; omega))
  obtain ⟨z0, z1, z2, z3, z4⟩ := five k1
  have ce : w2.cell? ⟨w.heap.size + 1 + 1, 0, none⟩ = some (.int .i64 0) := by simp [World.cell?, k2]
  have ne : ¬ w.heap.size + 1 = w.heap.size + 1 + 1 := by omega
  have hlt : w.heap.size + 1 + 1 < w2.heap.size := (Array.getElem?_eq_some_iff.1 k2).1
  have hlt1 : w.heap.size + 1 < w2.heap.size := by omega
  refine leaves_cons (f := 49) (args := #[.pointer (some ⟨w.heap.size + 1 + 1, 0, none⟩)]) (by simp) (by simp [go_sem]) ?_
  refine (catch_full (w.heap.size + 1 + 1) 0 [] w2 ce (cells_frozen k2 0) hlt).mono ?_
  rintro e u' w'' ⟨rfl, rfl, rfl⟩
  have k3 : ((w2.setCell ⟨w.heap.size + 1 + 1, 0, none⟩ (.int .i64 7)).alloc (.cells #[] 87)).heap[w.heap.size + 1]? = some (.cells #[.int .i64 0, .slice none 0 0, .slice none 0 0, .slice none 0 0, .slice none 0 0] 26) := cells_alloc (cells_other k1 ne _ _) _
  have k4 : ((w2.setCell ⟨w.heap.size + 1 + 1, 0, none⟩ (.int .i64 7)).alloc (.cells #[] 87)).heap[w.heap.size + 1 + 1]? = some (.cells #[.int .i64 7] 27) := cells_alloc (cells_set k2 0 _) _
  obtain ⟨z0, z1, z2, z3, z4⟩ := five k3
  have ce : ((w2.setCell ⟨w.heap.size + 1 + 1, 0, none⟩ (.int .i64 7)).alloc (.cells #[] 87)).cell? ⟨w.heap.size + 1 + 1, 0, none⟩ = some (.int .i64 7) := by simp only [World.cell?, k4]; rfl
  refine ⟨_, ?_, AnsI.bad 7 ((b4.setCell (by show _ ≤ w.heap.size + 1 + 1; omega) _).alloc (by simp [World.setCell]; have := b4.size; omega) _)⟩
  clear k3 k4
  generalize (w2.setCell ⟨w.heap.size + 1 + 1, 0, none⟩ (.int .i64 7)).alloc (.cells #[] 87) = Wf at z0 z1 z2 z3 z4 ce ⊢
  simp [results, Try.results19, go_sem, z0, z1, z2, z3, z4, ce]
set_option maxHeartbeats 4000000 in
theorem of_bad (m M : ImgD) (ra : Option Addr) (rn rc : Nat) (sa : Option Addr) (sn sc : Nat) (fa : Option Addr) (fn fc : Nat) (na : Option Addr) (nn nc : Nat) (N : Nat) (caps : Array Value) (w : World) (h : Img w (.agg #[.int .i64 m.guest, .slice ra rn rc, .slice sa sn sc, .slice fa fn fc, .slice na nn nc]) m) (hF : Fits m) (hN : ∀ (args : Array Value) (w : World), (callFunc N args).run Try.prog w = .ok (.enter N args) w) (ht : Turns w N caps m (some M)) (E : Int) (hE : shapeE M = E) (hne : E ≠ 0) :
    Calls Try.prog 19 #[.agg #[.int .i64 m.guest, .slice ra rn rc, .slice sa sn sc, .slice fa fn fc, .slice na nn nc], .func (.func N) #[] caps] w (AnsI w w.heap.size imgZ E) := by
  have hmf : ∀ (fn : Fn) (first cap : Array Value) (w : World), (Instr.makeFunc fn first cap).run Try.prog w = .ok (.func fn first cap) w := fun _ _ _ _ => rfl
  have b0 : Below w.heap.size w (((w.alloc (.cells #[.int .i64 m.guest, .slice ra rn rc, .slice sa sn sc, .slice fa fn fc, .slice na nn nc] 26)).alloc (.cells #[.int .i64 0, .slice none 0 0, .slice none 0 0, .slice none 0 0, .slice none 0 0] 26)).alloc (.cells #[.int .i64 0] 27)) := (((Below.refl _ _).alloc (Nat.le_refl _) _).alloc (by simp) _).alloc (by simp <;> omega) _
  have m0 : (((w.alloc (.cells #[.int .i64 m.guest, .slice ra rn rc, .slice sa sn sc, .slice fa fn fc, .slice na nn nc] 26)).alloc (.cells #[.int .i64 0, .slice none 0 0, .slice none 0 0, .slice none 0 0, .slice none 0 0] 26)).alloc (.cells #[.int .i64 0] 27)).heap[w.heap.size]? = some (.cells #[.int .i64 m.guest, .slice ra rn rc, .slice sa sn sc, .slice fa fn fc, .slice na nn nc] 26) := cells_alloc (cells_alloc (World.alloc_heap_new _ _) _) _
  have m1 : (((w.alloc (.cells #[.int .i64 m.guest, .slice ra rn rc, .slice sa sn sc, .slice fa fn fc, .slice na nn nc] 26)).alloc (.cells #[.int .i64 0, .slice none 0 0, .slice none 0 0, .slice none 0 0, .slice none 0 0] 26)).alloc (.cells #[.int .i64 0] 27)).heap[w.heap.size + 1]? = some (.cells #[.int .i64 0, .slice none 0 0, .slice none 0 0, .slice none 0 0, .slice none 0 0] 26) := cells_alloc (by have := World.alloc_heap_new (w.alloc (.cells #[.int .i64 m.guest, .slice ra rn rc, .slice sa sn sc, .slice fa fn fc, .slice na nn nc] 26)) (.cells #[.int .i64 0, .slice none 0 0, .slice none 0 0, .slice none 0 0, .slice none 0 0] 26); simpa using this) _
  have m2 : (((w.alloc (.cells #[.int .i64 m.guest, .slice ra rn rc, .slice sa sn sc, .slice fa fn fc, .slice na nn nc] 26)).alloc (.cells #[.int .i64 0, .slice none 0 0, .slice none 0 0, .slice none 0 0, .slice none 0 0] 26)).alloc (.cells #[.int .i64 0] 27)).heap[w.heap.size + 1 + 1]? = some (.cells #[.int .i64 0] 27) := by have := World.alloc_heap_new ((w.alloc (.cells #[.int .i64 m.guest, .slice ra rn rc, .slice sa sn sc, .slice fa fn fc, .slice na nn nc] 26)).alloc (.cells #[.int .i64 0, .slice none 0 0, .slice none 0 0, .slice none 0 0, .slice none 0 0] 26)) (.cells #[.int .i64 0] 27); simpa using this
  have hz3 : (((w.alloc (.cells #[.int .i64 m.guest, .slice ra rn rc, .slice sa sn sc, .slice fa fn fc, .slice na nn nc] 26)).alloc (.cells #[.int .i64 0, .slice none 0 0, .slice none 0 0, .slice none 0 0, .slice none 0 0] 26)).alloc (.cells #[.int .i64 0] 27)).heap.size = w.heap.size + 1 + 1 + 1 := by simp
  obtain ⟨c0, c1, c2, c3, c4⟩ := five m0
  have hcp := copied_is (h.below b0) hF
  have HX : Hid (shapeE M = E ∧ E ≠ 0) := ⟨hE, hne⟩
  clear h hE hne
  go_enter_defers Try.func19, Try.ntmps19
  go_wp2_with (go_at_call 50; refine hcp.mono ?_; rintro e w1 ⟨val, rfl, hO, b1⟩; obtain ⟨qa, qc, q0, _⟩ := hO.forms .root (Live.root m); obtain ⟨pa, pc, q1, _⟩ := hO.forms .slots (Live.slots m); obtain ⟨ka, kc, q2, _⟩ := hO.forms .refs (Live.refs m); obtain ⟨ja, jc, q3, _⟩ := hO.forms .snaps (Live.snaps m); unfold imgV; rw [q0, q1, q2, q3])
  have hD := desk_new hO b1.size
  rw [q0, q1, q2, q3] at hD
  have b1' : Below (((w.alloc (.cells #[.int .i64 m.guest, .slice ra rn rc, .slice sa sn sc, .slice fa fn fc, .slice na nn nc] 26)).alloc (.cells #[.int .i64 0, .slice none 0 0, .slice none 0 0, .slice none 0 0, .slice none 0 0] 26)).alloc (.cells #[.int .i64 0] 27)).heap.size (((w.alloc (.cells #[.int .i64 m.guest, .slice ra rn rc, .slice sa sn sc, .slice fa fn fc, .slice na nn nc] 26)).alloc (.cells #[.int .i64 0, .slice none 0 0, .slice none 0 0, .slice none 0 0, .slice none 0 0] 26)).alloc (.cells #[.int .i64 0] 27)) (w1.alloc (.cells #[.int .i64 m.guest, .slice qa (rowN m .root) qc, .slice pa (rowN m .slots) pc, .slice ka (rowN m .refs) kc, .slice ja (rowN m .snaps) jc] 51)) := b1.alloc b1.size _
  have hbw := Below.on b0 b1'
  refine (ht _ _ _ _ hbw b0.size b1'.size hD).mono ?_
  rintro e w2 ⟨val2, rfl, hT⟩
  dsimp only
  have b3 := b1'.trans hT.bel
  have k1 := cells_below m1 b3 (by rw [hz3]; omega)
  have k2 := cells_below m2 b3 (by rw [hz3]; omega)
  have b4 : Below w.heap.size w w2 := b0.trans (b3.mono (by rw [hz3]; omega))
  have hcall := settled_bad hT.dk HX.out.1 HX.out.2
  clear hT hD
  go_wp2_with (go_at_call 51; refine hcall.mono ?_; rintro e w3 ⟨rfl, b5⟩; have r1 := cells_below k1 b5 (Array.getElem?_eq_some_iff.1 k1).1; have r2 := cells_below k2 b5 (Array.getElem?_eq_some_iff.1 k2).1; obtain ⟨z0, z1, z2, z3, z4⟩ := five r1; have y0 := cells_frozen r1 0; have y1 := cells_frozen r1 1; have y2 := cells_frozen r1 2; have y3 := cells_frozen r1 3; have y4 := cells_frozen r1 4; have x0 := cells_frozen r2 0; have ce : w3.cell? ⟨w.heap.size + 1 + 1, 0, none⟩ = some (.int .i64 0) := by simp [World.cell?, r2])
  refine leaves_cons (f := 49) (args := #[.pointer (some ⟨w.heap.size + 1 + 1, 0, none⟩)]) (by simp) (by simp [go_sem]) ?_
  refine (catch_idle ⟨w.heap.size + 1 + 1, 0, none⟩ _).mono ?_
  rintro e u' w'' ⟨rfl, rfl, rfl⟩
  have b6 := Below.on b4 b5
  have i1 : w.heap.size ≤ w.heap.size + 1 := Nat.le_succ _
  have i2 : w.heap.size ≤ w.heap.size + 1 + 1 := by omega
  refine ⟨_, ?_, AnsI.bad E ((((((b6.setCell i1 _).setCell i1 _).setCell i1 _).setCell i1 _).setCell i1 _).setCell i2 _)⟩
  simp [results, Try.results19, go_sem, z0, z1, z2, z3, z4, ce]
set_option maxHeartbeats 4000000 in
theorem of_ok (m M : ImgD) (ra : Option Addr) (rn rc : Nat) (sa : Option Addr) (sn sc : Nat) (fa : Option Addr) (fn fc : Nat) (na : Option Addr) (nn nc : Nat) (N : Nat) (caps : Array Value) (w : World) (h : Img w (.agg #[.int .i64 m.guest, .slice ra rn rc, .slice sa sn sc, .slice fa fn fc, .slice na nn nc]) m) (hF : Fits m) (hN : ∀ (args : Array Value) (w : World), (callFunc N args).run Try.prog w = .ok (.enter N args) w) (ht : Turns w N caps m (some M)) (hE : shapeE M = 0) :
    Calls Try.prog 19 #[.agg #[.int .i64 m.guest, .slice ra rn rc, .slice sa sn sc, .slice fa fn fc, .slice na nn nc], .func (.func N) #[] caps] w (AnsI w w.heap.size (countedD M) 0) := by
  have hmf : ∀ (fn : Fn) (first cap : Array Value) (w : World), (Instr.makeFunc fn first cap).run Try.prog w = .ok (.func fn first cap) w := fun _ _ _ _ => rfl
  have b0 : Below w.heap.size w (((w.alloc (.cells #[.int .i64 m.guest, .slice ra rn rc, .slice sa sn sc, .slice fa fn fc, .slice na nn nc] 26)).alloc (.cells #[.int .i64 0, .slice none 0 0, .slice none 0 0, .slice none 0 0, .slice none 0 0] 26)).alloc (.cells #[.int .i64 0] 27)) := (((Below.refl _ _).alloc (Nat.le_refl _) _).alloc (by simp) _).alloc (by simp <;> omega) _
  have m0 : (((w.alloc (.cells #[.int .i64 m.guest, .slice ra rn rc, .slice sa sn sc, .slice fa fn fc, .slice na nn nc] 26)).alloc (.cells #[.int .i64 0, .slice none 0 0, .slice none 0 0, .slice none 0 0, .slice none 0 0] 26)).alloc (.cells #[.int .i64 0] 27)).heap[w.heap.size]? = some (.cells #[.int .i64 m.guest, .slice ra rn rc, .slice sa sn sc, .slice fa fn fc, .slice na nn nc] 26) := cells_alloc (cells_alloc (World.alloc_heap_new _ _) _) _
  have m1 : (((w.alloc (.cells #[.int .i64 m.guest, .slice ra rn rc, .slice sa sn sc, .slice fa fn fc, .slice na nn nc] 26)).alloc (.cells #[.int .i64 0, .slice none 0 0, .slice none 0 0, .slice none 0 0, .slice none 0 0] 26)).alloc (.cells #[.int .i64 0] 27)).heap[w.heap.size + 1]? = some (.cells #[.int .i64 0, .slice none 0 0, .slice none 0 0, .slice none 0 0, .slice none 0 0] 26) := cells_alloc (by have := World.alloc_heap_new (w.alloc (.cells #[.int .i64 m.guest, .slice ra rn rc, .slice sa sn sc, .slice fa fn fc, .slice na nn nc] 26)) (.cells #[.int .i64 0, .slice none 0 0, .slice none 0 0, .slice none 0 0, .slice none 0 0] 26); simpa using this) _
  have m2 : (((w.alloc (.cells #[.int .i64 m.guest, .slice ra rn rc, .slice sa sn sc, .slice fa fn fc, .slice na nn nc] 26)).alloc (.cells #[.int .i64 0, .slice none 0 0, .slice none 0 0, .slice none 0 0, .slice none 0 0] 26)).alloc (.cells #[.int .i64 0] 27)).heap[w.heap.size + 1 + 1]? = some (.cells #[.int .i64 0] 27) := by have := World.alloc_heap_new ((w.alloc (.cells #[.int .i64 m.guest, .slice ra rn rc, .slice sa sn sc, .slice fa fn fc, .slice na nn nc] 26)).alloc (.cells #[.int .i64 0, .slice none 0 0, .slice none 0 0, .slice none 0 0, .slice none 0 0] 26)) (.cells #[.int .i64 0] 27); simpa using this
  have hz3 : (((w.alloc (.cells #[.int .i64 m.guest, .slice ra rn rc, .slice sa sn sc, .slice fa fn fc, .slice na nn nc] 26)).alloc (.cells #[.int .i64 0, .slice none 0 0, .slice none 0 0, .slice none 0 0, .slice none 0 0] 26)).alloc (.cells #[.int .i64 0] 27)).heap.size = w.heap.size + 1 + 1 + 1 := by simp
  obtain ⟨c0, c1, c2, c3, c4⟩ := five m0
  have hcp := copied_is (h.below b0) hF
  have HX : Hid (shapeE M = 0) := hE
  clear h hE
  go_enter_defers Try.func19, Try.ntmps19
  go_wp2_with (go_at_call 50; refine hcp.mono ?_; rintro e w1 ⟨val, rfl, hO, b1⟩; obtain ⟨qa, qc, q0, _⟩ := hO.forms .root (Live.root m); obtain ⟨pa, pc, q1, _⟩ := hO.forms .slots (Live.slots m); obtain ⟨ka, kc, q2, _⟩ := hO.forms .refs (Live.refs m); obtain ⟨ja, jc, q3, _⟩ := hO.forms .snaps (Live.snaps m); unfold imgV; rw [q0, q1, q2, q3])
  have hD := desk_new hO b1.size
  rw [q0, q1, q2, q3] at hD
  have b1' : Below (((w.alloc (.cells #[.int .i64 m.guest, .slice ra rn rc, .slice sa sn sc, .slice fa fn fc, .slice na nn nc] 26)).alloc (.cells #[.int .i64 0, .slice none 0 0, .slice none 0 0, .slice none 0 0, .slice none 0 0] 26)).alloc (.cells #[.int .i64 0] 27)).heap.size (((w.alloc (.cells #[.int .i64 m.guest, .slice ra rn rc, .slice sa sn sc, .slice fa fn fc, .slice na nn nc] 26)).alloc (.cells #[.int .i64 0, .slice none 0 0, .slice none 0 0, .slice none 0 0, .slice none 0 0] 26)).alloc (.cells #[.int .i64 0] 27)) (w1.alloc (.cells #[.int .i64 m.guest, .slice qa (rowN m .root) qc, .slice pa (rowN m .slots) pc, .slice ka (rowN m .refs) kc, .slice ja (rowN m .snaps) jc] 51)) := b1.alloc b1.size _
  have hbw := Below.on b0 b1'
  refine (ht _ _ _ _ hbw b0.size b1'.size hD).mono ?_
  rintro e w2 ⟨val2, rfl, hT⟩
  dsimp only
  have b3 := b1'.trans hT.bel
  have k1 := cells_below m1 b3 (by rw [hz3]; omega)
  have k2 := cells_below m2 b3 (by rw [hz3]; omega)
  have b4 : Below w.heap.size w w2 := b0.trans (b3.mono (by rw [hz3]; omega))
  have hcall := settled_ok hT.dk (Nat.le_trans b1'.size hT.bel.size) HX.out
  go_wp2_with fail
  refine hcall.mono ?_
  rintro e w3 ⟨val3, rfl, hT3⟩
  dsimp only
  have hO3 := hT3.dk.own
  have b5 := hT3.bel
  rw [hz3] at b5
  have r1 := cells_below k1 b5 (by omega)
  have r2 := cells_below k2 b5 (by omega)
  obtain ⟨z0, z1, z2, z3, z4⟩ := five r1
  have y0 := cells_frozen r1 0
  have y1 := cells_frozen r1 1
  have y2 := cells_frozen r1 2
  have y3 := cells_frozen r1 3
  have y4 := cells_frozen r1 4
  have x0 := cells_frozen r2 0
  have ce : w3.cell? ⟨w.heap.size + 1 + 1, 0, none⟩ = some (.int .i64 0) := by simp [World.cell?, r2]
  obtain ⟨ga, gc, g0, _⟩ := hO3.forms .root (Live.root _)
  obtain ⟨la, lc, g1, _⟩ := hO3.forms .slots (Live.slots _)
  obtain ⟨oa, oc, g2, _⟩ := hO3.forms .refs (Live.refs _)
  obtain ⟨ta, tc, g3, _⟩ := hO3.forms .snaps (Live.snaps _)
  unfold imgV
  rw [g0, g1, g2, g3]
  have HO : Hid (OI w3 (w.heap.size + 3) val3 (countedD M) ∧ val3 .root = _ ∧ val3 .slots = _ ∧ val3 .refs = _ ∧ val3 .snaps = _) := ⟨by rw [hz3] at hO3; exact hO3, g0, g1, g2, g3⟩
  have HB : Hid (Below w.heap.size w w3) := b4.trans (b5.mono (by omega))
  clear hO3 hT hT3 hD hcall g0 g1 g2 g3 b5 b4 b3 b1 b1' hbw hO q0 q1 q2 q3
  go_wp2_with fail
  refine leaves_cons (f := 49) (args := #[.pointer (some ⟨w.heap.size + 1 + 1, 0, none⟩)]) (by simp) (by simp [go_sem]) ?_
  refine (catch_idle ⟨w.heap.size + 1 + 1, 0, none⟩ _).mono ?_
  rintro e u' w'' ⟨rfl, rfl, rfl⟩
  obtain ⟨hO, g0, g1, g2, g3⟩ := HO.out
  have b6 := HB.out
  have i1 : w.heap.size ≤ w.heap.size + 1 := Nat.le_succ _
  have i2 : w.heap.size ≤ w.heap.size + 1 + 1 := by omega
  have hf1 : ∀ a, Live (countedD M) a → (val3 a).ownBlock ≠ some (w.heap.size + 1) := fun a ha e => by have := ((hO.row a ha).lt _ e).1; omega
  have hf2 : ∀ a, Live (countedD M) a → (val3 a).ownBlock ≠ some (w.heap.size + 1 + 1) := fun a ha e => by have := ((hO.row a ha).lt _ e).1; omega
  refine ⟨.tuple #[.agg #[.int .i64 M.guest, .slice ga (rowN (countedD M) .root) gc, .slice la (rowN (countedD M) .slots) lc, .slice oa (rowN (countedD M) .refs) oc, .slice ta (rowN (countedD M) .snaps) tc], .int .i64 0], ?_, val3, ?_, OI.mono ((((((hO.far hf1).far hf1).far hf1).far hf1).far hf1).far hf2) (by omega), ((((((b6.setCell i1 _).setCell i1 _).setCell i1 _).setCell i1 _).setCell i1 _).setCell i2 _)⟩
  · simp [results, Try.results19, go_sem, z0, z1, z2, z3, z4, ce]
  · unfold imgV
    rw [g0, g1, g2, g3]
    rfl
def ofM (o : Option ImgD) : ImgD := match o with | none => imgZ | some M => if shapeE M = 0 then countedD M else imgZ
def ofE (o : Option ImgD) : Int := match o with | none => 7 | some M => shapeE M
theorem of_is {w : World} {v : Value} {m : ImgD} {o : Option ImgD} {N : Nat} {caps : Array Value} (h : Img w v m) (hF : Fits m) (hN : ∀ (args : Array Value) (w : World), (callFunc N args).run Try.prog w = .ok (.enter N args) w) (ht : Turns w N caps m o) :
    Calls Try.prog 19 #[v, .func (.func N) #[] caps] w (AnsI w w.heap.size (ofM o) (ofE o)) := by
  have h' := h
  obtain ⟨ra, rc, sa, sc, fa, fc, na, nc, rfl, _⟩ := h.parts
  cases o with
  | none => exact of_full m ra _ rc sa _ sc fa _ fc na _ nc N caps w h' hF hN ht
  | some M =>
    unfold ofM ofE
    dsimp only
    by_cases hE : shapeE M = 0
    · rw [if_pos hE, hE]
      exact of_ok m M ra _ rc sa _ sc fa _ fc na _ nc N caps w h' hF hN ht hE
    · rw [if_neg hE]
      exact of_bad m M ra _ rc sa _ sc fa _ fc na _ nc N caps w h' hF hN ht _ rfl hE
end Go.Proofs.Ytehleeibgkpjmag
/- Contract of renumber: all numbers by which slots are told are turned. -/
namespace Go.Proofs.Ytehleeibgkpjmag
open Go.RowKit Go.Shelf
set_option maxRecDepth 20000
set_option linter.unusedVariables false
set_option linter.unusedSimpArgs false

theorem OI.turn {W W' : World} {B : Nat} {val : Nm → Value} {m m' : ImgD} (h : OI W B val m) {a : Nm} (ha : Live m a) (hrow : W'.ownsRow B (rowT a) (rowS a) (val a) (rowN m' a) (rowV m' val a)) (hg : W.grownBy W' (val a).ownBlock)
    (hlive : ∀ b, Live m' b ↔ Live m b) (hsame : ∀ b, Live m b → b ≠ a → rowN m' b = rowN m b ∧ rowV m' val b = rowV m val b) : OI W' B val m' := by
  refine ⟨fun b hb => ?_, fun b c hb hc => h.apart b c ((hlive b).1 hb) ((hlive c).1 hc)⟩
  have hb := (hlive b).1 hb
  by_cases e : b = a
  · subst e; exact hrow
  · rw [(hsame b hb e).1, (hsame b hb e).2]
    refine (h.row b hb).kept hg ?_
    cases eq : (val b).ownBlock with
    | none => exact .inl rfl
    | some g => exact .inr (fun x => h.apart b a hb ha e g eq x.symm)
theorem DTo.turn {w W W' : World} {B D : Nat} {val : Nm → Value} {m0 m m' : ImgD} (h : DTo w W B D m0 val nilV m val) (hB : B ≤ w.heap.size) (hlm : ∀ b, Live m b ↔ Live m0 b) {a : Nm} (ha : Live m a) (hrow : W'.ownsRow B (rowT a) (rowS a) (val a) (rowN m' a) (rowV m' val a)) (hg : W.grownBy W' (val a).ownBlock)
    (hlive : ∀ b, Live m' b ↔ Live m b) (hguest : m'.guest = m.guest) (hsame : ∀ b, Live m b → b ≠ a → rowN m' b = rowN m b ∧ rowV m' val b = rowV m val b) : DTo w W' B D m0 val nilV m' val := by
  have hbel : Below B W W' := Below.grown (Below.refl _ _) hg (Nat.le_trans hB h.bel.size) (fun q e => ((h.dk.own.row a ha).lt q e).1)
  refine ⟨⟨h.dk.own.turn ha hrow hg hlive hsame, ?_, h.dk.ge, fun b hb => h.dk.far b ((hlive b).1 hb)⟩, h.bel.trans hbel, fun q hq hD hev hm => ?_, fun q hq hev hm b hb => h.src q hq hev hm b ((hlive b).1 hb)⟩
  · rw [hguest]
    exact (hg.block D h.dk.lt (fun e => h.dk.far a ha e.symm)).trans h.dk.box
  · exact (hg.block q (Nat.lt_of_lt_of_le hq h.bel.size) (fun e => hm a ((hlm a).1 ha) e.symm)).trans (h.keep q hq hD hev hm)
def rnS (L : List SlotD) (j : Nat) (S : List SnapD) : List SnapD := (S.take j).map (packN L) ++ S.drop j
def rnL (L : List SlotD) (i : Nat) (K : List SlotD) : List SlotD := (K.take i).map (packS L) ++ K.drop i
def rnI (L : List SlotD) (j i : Nat) (g : ImgD) : ImgD := { g with root := g.root.map (ren L), snaps := rnS L j g.snaps, slots := rnL L i g.slots }
theorem rnS_length (L : List SlotD) (j : Nat) (S : List SnapD) : (rnS L j S).length = S.length := by unfold rnS; simp; omega
theorem rnL_length (L : List SlotD) (i : Nat) (K : List SlotD) : (rnL L i K).length = K.length := by unfold rnL; simp; omega
theorem rnS_get {L : List SlotD} {j k : Nat} {S : List SnapD} (hk : k < S.length) : (rnS L j S).getD k default = if k < j then packN L (S.getD k default) else S.getD k default := by
  have ht : ((S.take j).map (packN L)).length = min j S.length := by rw [List.length_map, List.length_take]
  unfold rnS
  rw [List.getD_eq_getElem?_getD, List.getElem?_append, ht]
  by_cases h : k < j
  · rw [if_pos (by omega), if_pos h, List.getElem?_map, List.getElem?_take, if_pos h, List.getElem?_eq_getElem hk, List.getD_eq_getElem?_getD, List.getElem?_eq_getElem hk]; rfl
  · rw [if_neg (by omega), if_neg h, List.getElem?_drop, List.getD_eq_getElem?_getD]; congr 2; omega
theorem rnL_get {L : List SlotD} {i k : Nat} {K : List SlotD} (hk : k < K.length) : (rnL L i K).getD k default = if k < i then packS L (K.getD k default) else K.getD k default := by
  have ht : ((K.take i).map (packS L)).length = min i K.length := by rw [List.length_map, List.length_take]
  unfold rnL
  rw [List.getD_eq_getElem?_getD, List.getElem?_append, ht]
  by_cases h : k < i
  · rw [if_pos (by omega), if_pos h, List.getElem?_map, List.getElem?_take, if_pos h, List.getElem?_eq_getElem hk, List.getD_eq_getElem?_getD, List.getElem?_eq_getElem hk]; rfl
  · rw [if_neg (by omega), if_neg h, List.getElem?_drop, List.getD_eq_getElem?_getD]; congr 2; omega
theorem rnI_live (L : List SlotD) (j i : Nat) (g : ImgD) (b : Nm) : Live (rnI L j i g) b ↔ Live g b := live_iff (m := g) (m' := rnI L j i g) (rnL_length _ _ _) (rnS_length _ _ _) b
theorem flatN_rn {L : List SlotD} {j : Nat} {S : List SnapD} {qv : Nat → Value} : flatN (rnS L j S) qv = flatN S qv := by
  unfold flatN
  rw [rnS_length]
  refine congrArg List.flatten (List.map_congr_left fun k hk => ?_)
  rw [rnS_get (List.mem_range.1 hk)]
  split <;> rfl
theorem flatS_rn {L : List SlotD} {i : Nat} {K : List SlotD} {tv : Nat → Value} : flatS (rnL L i K) tv = flatS K tv := by
  unfold flatS
  rw [rnL_length]
  refine congrArg List.flatten (List.map_congr_left fun k hk => ?_)
  rw [rnL_get (List.mem_range.1 hk)]
  split <;> rfl
theorem rn_snap {L : List SlotD} {j i : Nat} {g : ImgD} {val : Nm → Value} (b : Nm) (hb : Live g b) (hne : b ≠ .sr j) : rowN (rnI L (j + 1) i g) b = rowN (rnI L j i g) b ∧ rowV (rnI L (j + 1) i g) val b = rowV (rnI L j i g) val b := by
  rcases hb.cases with rfl | rfl | rfl | rfl | ⟨k, rfl, hk⟩ | ⟨k, rfl, hk⟩
  · exact ⟨rfl, rfl⟩
  · exact ⟨rfl, rfl⟩
  · exact ⟨rfl, rfl⟩
  · refine ⟨?_, ?_⟩
    · show (rnS L (j + 1) g.snaps).length = (rnS L j g.snaps).length; rw [rnS_length, rnS_length]
    · show flatN (rnS L (j + 1) g.snaps) _ = flatN (rnS L j g.snaps) _; rw [flatN_rn, flatN_rn]
  · exact ⟨rfl, rfl⟩
  · have hkj : k ≠ j := fun e => hne (by rw [e])
    have e : (rnS L (j + 1) g.snaps).getD k default = (rnS L j g.snaps).getD k default := by
      rw [rnS_get hk, rnS_get hk]
      by_cases h : k < j
      · rw [if_pos (by omega), if_pos h]
      · rw [if_neg (by omega), if_neg h]
    exact ⟨by show ((rnS L (j + 1) g.snaps).getD k default).2.2.length = ((rnS L j g.snaps).getD k default).2.2.length; rw [e], by show ints ((rnS L (j + 1) g.snaps).getD k default).2.2 = ints ((rnS L j g.snaps).getD k default).2.2; rw [e]⟩
theorem rn_slot {L : List SlotD} {j i : Nat} {g : ImgD} {val : Nm → Value} (b : Nm) (hb : Live g b) (hne : b ≠ .tab i) : rowN (rnI L j (i + 1) g) b = rowN (rnI L j i g) b ∧ rowV (rnI L j (i + 1) g) val b = rowV (rnI L j i g) val b := by
  rcases hb.cases with rfl | rfl | rfl | rfl | ⟨k, rfl, hk⟩ | ⟨k, rfl, hk⟩
  · exact ⟨rfl, rfl⟩
  · refine ⟨?_, ?_⟩
    · show (rnL L (i + 1) g.slots).length = (rnL L i g.slots).length; rw [rnL_length, rnL_length]
    · show flatS (rnL L (i + 1) g.slots) _ = flatS (rnL L i g.slots) _; rw [flatS_rn, flatS_rn]
  · exact ⟨rfl, rfl⟩
  · exact ⟨rfl, rfl⟩
  · have hki : k ≠ i := fun e => hne (by rw [e])
    have e : (rnL L (i + 1) g.slots).getD k default = (rnL L i g.slots).getD k default := by
      rw [rnL_get hk, rnL_get hk]
      by_cases h : k < i
      · rw [if_pos (by omega), if_pos h]
      · rw [if_neg (by omega), if_neg h]
    exact ⟨by show ((rnL L (i + 1) g.slots).getD k default).2.2.length = ((rnL L i g.slots).getD k default).2.2.length; rw [e], by show ints ((rnL L (i + 1) g.slots).getD k default).2.2 = ints ((rnL L i g.slots).getD k default).2.2; rw [e]⟩
  · exact ⟨rfl, rfl⟩
structure RnR (W wr : World) (B D bm r : Nat) (L : List SlotD) (g m : ImgD) (val : Nm → Value) : Prop where
  dto : DTo W wr B D g val nilV m val
  num : NumB wr bm r L
theorem NumB.grown {W W' : World} {bm r : Nat} {L : List SlotD} {o : Option Nat} (h : NumB W bm r L) (hg : W.grownBy W' o) (h1 : o ≠ some bm) (h2 : o ≠ some r) : NumB W' bm r L :=
  ⟨(hg.block bm (Array.getElem?_eq_some_iff.1 h.1).1 (fun e => h1 e.symm)).trans h.1, (hg.block r (Array.getElem?_eq_some_iff.1 h.2).1 (fun e => h2 e.symm)).trans h.2⟩
theorem NumB.below {W W' : World} {bm r : Nat} {L : List SlotD} (h : NumB W bm r L) (hb : Below W.heap.size W W') : NumB W' bm r L :=
  ⟨(hb.block bm (Array.getElem?_eq_some_iff.1 h.1).1).trans h.1, (hb.block r (Array.getElem?_eq_some_iff.1 h.2).1).trans h.2⟩
theorem RnR.alloc {W wr : World} {B D bm r : Nat} {L : List SlotD} {g m : ImgD} {val : Nm → Value} (h : RnR W wr B D bm r L g m val) (hB : B ≤ W.heap.size) (o : Obj) : RnR W (wr.alloc o) B D bm r L g m val :=
  ⟨h.dto.alloc hB o, h.num.below ((Below.refl _ _).alloc (Nat.le_refl _) o)⟩
end Go.Proofs.Ytehleeibgkpjmag
/- Packed: its counts are told, and how it is read. Plain lists. -/
namespace Go.Proofs.Ytehleeibgkpjmag
open Go.RowKit Go.Shelf
set_option maxRecDepth 20000
set_option linter.unusedVariables false
set_option linter.unusedSimpArgs false

theorem kd_head {m : ImgD} (h : shapeE m = 0) : kd m.slots 0 = 0 := by
  have hs := (shapeE_zero h).2.1
  have hp := slotsE_parts hs
  unfold slotsE at hs
  rw [if_pos hp] at hs
  split at hs
  · rename_i x
    have : m.slots.headD default = m.slots.getD 0 default := by cases m.slots <;> rfl
    unfold kd; rw [← this]; exact x.2
  · cases hs
theorem count_map_inj {L : List SlotD} (h1 : 1 ≤ L.length) {P : List Int} (hP : ∀ e ∈ P, EntP L e) {k : Int} (hk : EntP L k) : (P.map (ren L)).count (ren L k) = P.count k := by
  induction P with
  | nil => rfl
  | cons a P ih =>
    rw [List.map_cons, List.count_cons, List.count_cons, ih (fun e he => hP e (List.mem_cons_of_mem _ he))]
    congr 1
    by_cases e : a = k
    · rw [e]; simp
    · have : ren L a ≠ ren L k := fun x => e (ren_inj h1 (hP a List.mem_cons_self) hk x)
      have e1 : (ren L a == ren L k) = false := by simpa using this
      have e2 : (a == k) = false := by simpa using e
      rw [e1, e2]
theorem mem_map_inj {L : List SlotD} (h1 : 1 ≤ L.length) {P : List Int} (hP : ∀ e ∈ P, EntP L e) {k : Int} (hk : EntP L k) : ren L k ∈ P.map (ren L) ↔ k ∈ P := by
  rw [← List.count_pos_iff, ← List.count_pos_iff, count_map_inj h1 hP hk]
theorem sum_filter {p : Nat → Bool} {f : Nat → Nat} : ∀ (l : List Nat), (∀ k ∈ l, p k = false → f k = 0) → ((l.filter p).map f).sum = (l.map f).sum
  | [], _ => rfl
  | a :: l, h => by
    have ih := sum_filter (p := p) (f := f) l (fun k hk => h k (List.mem_cons_of_mem _ hk))
    cases e : p a with
    | true => rw [List.filter_cons, if_pos e, List.map_cons, List.map_cons, List.sum_cons, List.sum_cons, ih]
    | false => rw [List.filter_cons, if_neg (by rw [e]; decide), ih, List.map_cons, List.sum_cons, h a List.mem_cons_self e, Nat.zero_add]
theorem keptI_rnk (L : List SlotD) : (keptI L).map (rnk L) = List.range (keptI L).length := by
  apply List.ext_getElem
  · simp
  · intro i h1 h2
    rw [List.getElem_map, List.getElem_range]
    exact (keptI_get (by simpa using h1)).2.2
theorem flatR_pack (m : ImgD) : flatR (packD m) = (flatR m).map (ren m.slots) := by
  rw [flatR_app, flatR_app, List.map_append, List.map_flatMap]
  show m.root.map (ren m.slots) ++ (m.snaps.map (packN m.slots)).flatMap (fun s => s.2.2) = _
  rw [List.flatMap_map]
  rfl
theorem flat_rootE {m : ImgD} (h : shapeE m = 0) : ∀ e ∈ flatR m, rootE m.slots e = true := fun e he => by
  obtain ⟨s, hs, hm⟩ := List.mem_flatMap.1 he
  exact List.all_eq_true.1 (snap_fit h hs).2.2.2 e hm
theorem tabOf_ents {m : ImgD} (h : shapeE m = 0) (k : Nat) : ∀ e ∈ tabOf m.slots (k : Int), tabE m.slots e = true := fun e he => by
  unfold tabOf at he
  rw [Int.toNat_natCast] at he
  by_cases hk : k < m.slots.length
  · exact tab_ents h (getD_mem hk) e he
  · rw [List.getD_eq_getElem?_getD, List.getElem?_eq_none (by omega)] at he
    cases he
theorem pack_cntI {m : ImgD} (h : shapeE m = 0) {k : Nat} (hk : k < m.slots.length) (hp : kept m.slots k = true) : cntI (packL m.slots) (flatR (packD m)) (rnk m.slots k) = cntI m.slots (flatR m) k := by
  obtain ⟨l1, _⟩ := slotsE_parts (shapeE_zero h).2.1
  by_cases k0 : k = 0
  · subst k0; rw [rnk_0]; rfl
  · have k1 : 1 ≤ k := by omega
    have r1 := rnk_pos (L := m.slots) k1
    have hP : ∀ e ∈ flatR m, EntP m.slots e := fun e he => rootE_EntP (flat_rootE h e he)
    have hE : EntP m.slots (k : Int) := .inr (.inr ⟨k, rfl, k1, hk, hp⟩)
    have er := ren_at hk hp
    unfold cntI
    rw [if_neg (by omega), if_neg k0, flatR_pack, ← er, count_map_inj l1 hP hE]
    congr 2
    unfold sumT
    rw [packL_length, ← keptI_rnk, List.map_map]
    have e1 : ∀ j ∈ keptI m.slots, (toldT (packL m.slots) ((flatR m).map (ren m.slots)) (ren m.slots (k : Int)) ∘ rnk m.slots) j = toldT m.slots (flatR m) (k : Int) j := fun j hj => by
      obtain ⟨jl, hj⟩ := keptI_mem.1 hj
      show toldT (packL m.slots) ((flatR m).map (ren m.slots)) (ren m.slots (k : Int)) (rnk m.slots j) = _
      unfold toldT
      rw [packL_kd jl hj]
      by_cases hkd : kd m.slots j = 2
      · have j1 : 1 ≤ j := by
          rcases Nat.eq_zero_or_pos j with e | e
          · subst e
            have := kd_head h
            rw [this] at hkd; cases hkd
          · exact e
        have hEj : EntP m.slots (j : Int) := .inr (.inr ⟨j, rfl, j1, jl, hj⟩)
        have ej := ren_at jl hj
        have hiff : ((rnk m.slots j : Nat) : Int) ∈ (flatR m).map (ren m.slots) ↔ (j : Int) ∈ flatR m := by rw [← ej]; exact mem_map_inj l1 hP hEj
        by_cases hm : (j : Int) ∈ flatR m
        · rw [if_pos ⟨hkd, hiff.2 hm⟩, if_pos ⟨hkd, hm⟩, packL_tab jl hj]
          exact count_map_inj l1 (fun e he => tabE_EntP (tabOf_ents h j e he)) hE
        · rw [if_neg (fun x => hm (hiff.1 x.2)), if_neg (fun x => hm x.2)]
      · rw [if_neg (fun x => hkd x.1), if_neg (fun x => hkd x.1)]
    rw [List.map_congr_left e1]
    unfold keptI
    refine sum_filter _ (fun j hj hf => ?_)
    unfold toldT
    rw [if_neg]
    intro x
    rw [kept_of (by rw [x.1]; decide)] at hf
    cases hf
theorem pack_cnt {m : ImgD} (h : shapeE m = 0) {k : Nat} (hk : k < m.slots.length) (hp : kept m.slots k = true) : (cntL (packD m)).getD (rnk m.slots k) 0 = (cntL m).getD k 0 := by
  rw [cntL_get (pack_shape h) _ (by show rnk m.slots k < (packL m.slots).length; rw [packL_length]; exact rnk_lt hk hp), cntL_get h k hk]
  exact pack_cntI h hk hp
theorem pack_right {m : ImgD} (hC : checkE m = 0) : checkE (packD m) = 0 := by
  obtain ⟨h, hr, hf⟩ := checkE_zero hC
  have hs := pack_shape h
  have hl : (cntL (packD m)).length = (packL m.slots).length := cntL_length (packD m)
  unfold checkE
  rw [if_neg (by rw [hs]; simp), if_neg, if_pos]
  · rw [List.all_eq_true]
    intro i hi
    have hi : i < (packL m.slots).length := List.mem_range.1 hi
    rw [packL_length] at hi
    obtain ⟨kl, hp, er⟩ := keptI_get hi
    unfold freeAt
    have e1 : ((packD m).slots.getD i default).1 = (m.slots.getD (keptI m.slots)[i] default).1 := by
      have := packL_kd kl hp
      rw [er] at this; exact this
    have e2 := pack_cnt h kl hp
    rw [er] at e2
    rw [e1, e2]
    exact hf _ kl
  · intro hne
    apply hne
    apply List.ext_getElem
    · rw [hl, packL_length]; show _ = ((keptI m.slots).map _).length; rw [List.length_map]
    · intro i h1 h2
      have hi : i < (keptI m.slots).length := by rw [hl, packL_length] at h1; exact h1
      obtain ⟨kl, hp, er⟩ := keptI_get hi
      have e2 := pack_cnt h kl hp
      rw [er] at e2
      have e3 : (cntL (packD m))[i] = (cntL (packD m)).getD i 0 := by simp [List.getD, h1]
      rw [e3, e2, hr]
      exact (List.getElem_map (fun k => m.refs.getD k 0) (h := h2)).symm


theorem pack_look {m : ImgD} (h : shapeE m = 0) {r : List Int} (hr : ∀ e ∈ r, rootE m.slots e = true) (q : Nat) : lookV (packD m) (r.map (ren m.slots)) q = ren m.slots (lookV m r q) := by
  unfold lookV
  rw [map_getD_ren]
  by_cases hz : r.getD (q / 4) 0 = 0
  · rw [hz, ren_0, if_pos rfl, if_pos rfl, ren_0]
  · have hm : r.getD (q / 4) 0 ∈ r := by
      have hl : q / 4 < r.length := Classical.byContradiction fun x => hz (by rw [List.getD_eq_getElem?_getD, List.getElem?_eq_none (by omega)]; rfl)
      rw [List.getD_eq_getElem?_getD, List.getElem?_eq_getElem hl]; exact List.getElem_mem hl
    have he := hr _ hm
    rw [if_neg hz, if_neg (fun x => hz ((ren_zero_iff (rootE_EntP he)).1 x))]
    show (tabOf (packL m.slots) (ren m.slots (r.getD (q / 4) 0))).getD (q % 4) 0 = _
    rw [tab_ren he hz, map_getD_ren]
theorem pack_page {L : List SlotD} {e : Int} (h : EntP L e) : pageV (packL L) (ren L e) = pageV L e := by
  unfold pageV
  rcases h with rfl | rfl | ⟨j, rfl, j1, jl, hj⟩
  · rw [ren_0]; rfl
  · rw [ren_neg]; rfl
  · have := rnk_pos (L := L) j1
    rw [ren_at jl hj, if_neg (by omega), if_neg (by omega), Int.toNat_natCast, Int.toNat_natCast, packL_get jl hj]
    rfl
theorem look_EntP {m : ImgD} (h : shapeE m = 0) {r : List Int} (hr : ∀ e ∈ r, rootE m.slots e = true) (q : Nat) : EntP m.slots (lookV m r q) := by
  unfold lookV
  by_cases hz : r.getD (q / 4) 0 = 0
  · rw [if_pos hz]; exact .inl rfl
  · rw [if_neg hz]
    have hm : r.getD (q / 4) 0 ∈ r := by
      have hl : q / 4 < r.length := Classical.byContradiction fun x => hz (by rw [List.getD_eq_getElem?_getD, List.getElem?_eq_none (by omega)]; rfl)
      rw [List.getD_eq_getElem?_getD, List.getElem?_eq_getElem hl]; exact List.getElem_mem hl
    rcases rootE_ent (hr _ hm) with e | ⟨j, e, _, _, _⟩
    · exact absurd e hz
    · rw [e]
      by_cases hl : q % 4 < (tabOf m.slots (j : Int)).length
      · rw [List.getD_eq_getElem?_getD, List.getElem?_eq_getElem hl]
        exact tabE_EntP (tabOf_ents h j _ (List.getElem_mem hl))
      · rw [List.getD_eq_getElem?_getD, List.getElem?_eq_none (by omega)]; exact .inl rfl
theorem pack_allP {m : ImgD} (h : shapeE m = 0) {r : List Int} (hr : ∀ e ∈ r, rootE m.slots e = true) (g : Nat) : allP (packD m) (r.map (ren m.slots)) g = allP m r g := by
  unfold allP
  refine List.map_congr_left fun q _ => ?_
  rw [pack_look h hr]
  exact pack_page (look_EntP h hr q)
theorem roots_rootE {m : ImgD} (h : shapeE m = 0) {s : SnapD} (hs : s ∈ rootsOf m) : ∀ e ∈ s.2.2, rootE m.slots e = true := fun e he => List.all_eq_true.1 (snap_fit h hs).2.2.2 e he
theorem pack_allV {m : ImgD} (hC : checkE m = 0) : allV (packD m) = allV m := by
  unfold allV
  rw [if_pos hC, if_pos (pack_right hC)]
  exact pack_allP (checkE_shape hC) (roots_rootE (checkE_shape hC) (s := (⟨#[]⟩, m.guest, m.root)) List.mem_cons_self) _
end Go.Proofs.Ytehleeibgkpjmag
/- Gathered: the desk with the slots that stay alone. -/
namespace Go.Proofs.Ytehleeibgkpjmag
open Go.RowKit Go.Shelf
set_option maxRecDepth 20000
set_option linter.unusedVariables false
set_option linter.unusedSimpArgs false

theorem ext3P {L1 L2 : List Value} {n : Nat} (h1 : L1.length = n * 3) (h2 : L2.length = n * 3) (h : ∀ q, q < n → L1[q * 3]? = L2[q * 3]? ∧ L1[q * 3 + 1]? = L2[q * 3 + 1]? ∧ L1[q * 3 + 2]? = L2[q * 3 + 2]?) : L1 = L2 := by
  apply List.ext_getElem?
  intro p
  by_cases hp : p < n * 3
  · obtain ⟨a, b, c⟩ := h (p / 3) (by omega)
    have : p = p / 3 * 3 ∨ p = p / 3 * 3 + 1 ∨ p = p / 3 * 3 + 2 := by omega
    rcases this with e | e | e <;> rw [e] <;> assumption
  · rw [List.getElem?_eq_none (by omega), List.getElem?_eq_none (by omega)]
theorem flatS_congr {K : List SlotD} {tv tv' : Nat → Value} (h : ∀ j, j < K.length → tv j = tv' j) : flatS K tv = flatS K tv' := by
  unfold flatS
  refine congrArg List.flatten (List.map_congr_left fun j hj => ?_)
  rw [h j (List.mem_range.1 hj)]


def gS (L : List SlotD) (k : Nat) : List SlotD := ((List.range k).filter (kept L)).map (fun j => L.getD j default) ++ List.replicate ((keptI L).length - rnk L k) slotZ
def gR (L : List SlotD) (R : List Int) (k : Nat) : List Int := ((List.range k).filter (kept L)).map (fun j => R.getD j 0) ++ List.replicate ((keptI L).length - rnk L k) 0
theorem rnk_le {L : List SlotD} {k : Nat} (hk : k ≤ L.length) : rnk L k ≤ (keptI L).length := by
  unfold rnk keptI
  obtain ⟨d, hd⟩ : ∃ d, L.length = k + d := ⟨L.length - k, by omega⟩
  have : (List.range k).Sublist (List.range L.length) := by
    rw [hd]
    exact List.range_sublist.2 (by omega)
  exact (this.filter _).length_le
theorem rnk_all (L : List SlotD) : rnk L L.length = (keptI L).length := rfl
theorem gR_length {L : List SlotD} {R : List Int} {k : Nat} (hk : k ≤ L.length) : (gR L R k).length = (keptI L).length := by
  have := rnk_le hk
  unfold gR; rw [List.length_append, List.length_map, List.length_replicate]
  show rnk L k + _ = _; omega
theorem set_next {α : Type} (A : List α) (z x : α) (n : Nat) : (A ++ List.replicate (n + 1) z).set A.length x = A ++ [x] ++ List.replicate n z := by
  rw [List.set_append, if_neg (Nat.lt_irrefl _), Nat.sub_self, List.replicate_succ, List.set_cons_zero, List.append_assoc]; rfl
theorem gS_succ {L : List SlotD} {k : Nat} (hk : k < L.length) (h : kept L k = true) : gS L (k + 1) = (gS L k).set (rnk L k) (L.getD k default) := by
  have hlt := rnk_lt hk h
  have e : (((List.range k).filter (kept L)).map (fun j => L.getD j default)).length = rnk L k := by rw [List.length_map]; rfl
  unfold gS
  rw [rnk_succ h, show (keptI L).length - rnk L k = ((keptI L).length - (rnk L k + 1)) + 1 by omega, ← e, set_next, List.range_succ, List.filter_append, List.map_append]
  simp [h]
theorem gR_succ {L : List SlotD} {R : List Int} {k : Nat} (hk : k < L.length) (h : kept L k = true) : gR L R (k + 1) = (gR L R k).set (rnk L k) (R.getD k 0) := by
  have hlt := rnk_lt hk h
  have e : (((List.range k).filter (kept L)).map (fun j => R.getD j 0)).length = rnk L k := by rw [List.length_map]; rfl
  unfold gR
  rw [rnk_succ h, show (keptI L).length - rnk L k = ((keptI L).length - (rnk L k + 1)) + 1 by omega, ← e, set_next, List.range_succ, List.filter_append, List.map_append]
  simp [h]
theorem gS_same {L : List SlotD} {k : Nat} (h : kept L k = false) : gS L (k + 1) = gS L k := by
  unfold gS; rw [rnk_same h, List.range_succ, List.filter_append]; simp [h]
theorem gR_same {L : List SlotD} {R : List Int} {k : Nat} (h : kept L k = false) : gR L R (k + 1) = gR L R k := by
  unfold gR; rw [rnk_same h, List.range_succ, List.filter_append]; simp [h]
theorem gS_end (L : List SlotD) : gS L L.length = (keptI L).map (fun j => L.getD j default) := by
  unfold gS; rw [rnk_all, Nat.sub_self]; simp [keptI]
theorem gR_end (L : List SlotD) (R : List Int) : gR L R L.length = (keptI L).map (fun j => R.getD j 0) := by
  unfold gR; rw [rnk_all, Nat.sub_self]; simp [keptI]
def gT (L : List SlotD) (val : Nm → Value) (k : Nat) : Nat → Value := fun i => if i < rnk L k then val (.tab ((keptI L).getD i 0)) else nilV
theorem keptI_getD {L : List SlotD} {k : Nat} (hk : k < L.length) (h : kept L k = true) : (keptI L).getD (rnk L k) 0 = k := by
  rw [List.getD_eq_getElem?_getD, keptI_at hk h]; rfl
theorem gT_succ {L : List SlotD} {val : Nm → Value} {k : Nat} (hk : k < L.length) (h : kept L k = true) : (∀ j, j ≠ rnk L k → gT L val (k + 1) j = gT L val k j) ∧ gT L val (k + 1) (rnk L k) = val (.tab k) := by
  unfold gT
  rw [rnk_succ h]
  refine ⟨fun j hj => ?_, ?_⟩
  · by_cases e : j < rnk L k
    · rw [if_pos (by omega), if_pos e]
    · rw [if_neg (by omega), if_neg e]
  · rw [if_pos (by omega), keptI_getD hk h]
theorem gT_same {L : List SlotD} {val : Nm → Value} {k : Nat} (h : kept L k = false) : gT L val (k + 1) = gT L val k := by unfold gT; rw [rnk_same h]


def gathD (m : ImgD) : ImgD := { m with slots := (keptI m.slots).map (fun j => m.slots.getD j default), refs := (keptI m.slots).map (fun j => m.refs.getD j 0) }
def gthN (L : List SlotD) (a : Nm) : Nm := if a.kind = 4 then .tab ((keptI L).getD a.ix 0) else a
def gthV (L : List SlotD) (val : Nm → Value) (lv rv : Value) : Nm → Value := fun a => if a.kind = 1 then lv else if a.kind = 2 then rv else val (gthN L a)
theorem gthN_kind (L : List SlotD) (a : Nm) : (gthN L a).kind = a.kind := by
  unfold gthN
  split
  · rename_i e; rw [e]
  · rfl
theorem gthV_eq {L : List SlotD} {val : Nm → Value} {lv rv : Value} {a : Nm} (h1 : a.kind ≠ 1) (h2 : a.kind ≠ 2) : gthV L val lv rv a = val (gthN L a) := by unfold gthV; rw [if_neg h1, if_neg h2]
theorem gath_tab {m : ImgD} {i : Nat} (hi : i < (keptI m.slots).length) : (keptI m.slots).getD i 0 < m.slots.length ∧ (gathD m).slots.getD i default = m.slots.getD ((keptI m.slots).getD i 0) default := by
  have e : (keptI m.slots).getD i 0 = (keptI m.slots)[i] := by simp [List.getD, hi]
  refine ⟨by rw [e]; exact (keptI_get hi).1, ?_⟩
  show ((keptI m.slots).map (fun j => m.slots.getD j default)).getD i default = _
  rw [List.getD_eq_getElem?_getD, List.getElem?_map, List.getElem?_eq_getElem hi, e]; rfl
theorem gath_live {m : ImgD} {a : Nm} (h : Live (gathD m) a) : Live m (gthN m.slots a) := by
  rcases h with ⟨h1, h2⟩ | ⟨h1, h2⟩ | ⟨h1, h2⟩
  · have : a.kind ≠ 4 := by omega
    unfold gthN; rw [if_neg this]; exact .inl ⟨h1, h2⟩
  · unfold gthN; rw [if_pos h1]
    have h2 : a.ix < ((keptI m.slots).map (fun j => m.slots.getD j default)).length := h2
    rw [List.length_map] at h2
    exact Live.tab (gath_tab h2).1
  · have : a.kind ≠ 4 := by omega
    unfold gthN; rw [if_neg this]; exact .inr (.inr ⟨h1, h2⟩)
theorem gath_inj {m : ImgD} {a b : Nm} (ha : Live (gathD m) a) (hb : Live (gathD m) b) (h : a ≠ b) : gthN m.slots a ≠ gthN m.slots b := fun e => by
  have hk := congrArg Nm.kind e
  rw [gthN_kind, gthN_kind] at hk
  by_cases h4 : a.kind = 4
  · unfold gthN at e
    rw [if_pos h4, if_pos (hk ▸ h4)] at e
    have e := congrArg Nm.ix e
    have e : (keptI m.slots).getD a.ix 0 = (keptI m.slots).getD b.ix 0 := e
    have hlen : (gathD m).slots.length = (keptI m.slots).length := by show ((keptI m.slots).map _).length = _; rw [List.length_map]
    have la : a.ix < (keptI m.slots).length := by rcases ha with x | x | x; omega; rw [← hlen]; exact x.2; omega
    have lb : b.ix < (keptI m.slots).length := by rcases hb with x | x | x; omega; rw [← hlen]; exact x.2; omega
    have e : (keptI m.slots)[a.ix] = (keptI m.slots)[b.ix] := by simpa [List.getD, la, lb] using e
    have := nodup_inj (keptI_nodup _) la lb e
    apply h
    obtain ⟨ak, ai⟩ := a
    obtain ⟨bk, bi⟩ := b
    simp_all
  · unfold gthN at e
    rw [if_neg h4, if_neg (hk ▸ h4)] at e
    exact h e
theorem live_low {m : ImgD} {a b : Nm} (ha : Live m a) (hb : Live m b) (h : a.kind = b.kind) (h4 : a.kind < 4) : a = b := by
  obtain ⟨ak, ai⟩ := a
  obtain ⟨bk, bi⟩ := b
  dsimp only at h h4
  subst h
  have e1 : ai = 0 := by rcases ha with x | x | x; exact x.2; (have := x.1; dsimp only at this; omega); (have := x.1; dsimp only at this; omega)
  have e2 : bi = 0 := by rcases hb with x | x | x; exact x.2; (have := x.1; dsimp only at this; omega); (have := x.1; dsimp only at this; omega)
  rw [e1, e2]
theorem OI.gath {W : World} {B N : Nat} {val : Nm → Value} {m : ImgD} {lv rv : Value} (h : OI W B val m) (hB : B ≤ N) (hold : ∀ a, Live m a → ∀ g, (val a).ownBlock = some g → g < N)
    (hl : W.ownsRow N 60 3 lv (keptI m.slots).length (flatS (gathD m).slots (gT m.slots val m.slots.length))) (hr : W.ownsRow N 3 1 rv (keptI m.slots).length (ints (gathD m).refs)) (hne : ∀ g, lv.ownBlock = some g → rv.ownBlock ≠ some g) : OI W B (gthV m.slots val lv rv) (gathD m) := by
  have hlen : (gathD m).slots.length = (keptI m.slots).length := by show ((keptI m.slots).map _).length = _; rw [List.length_map]
  have hlenr : (gathD m).refs.length = (keptI m.slots).length := by show ((keptI m.slots).map _).length = _; rw [List.length_map]
  have mono : ∀ {e : TypeId} {size n : Nat} {v : Value} {xs : List Value}, W.ownsRow N e size v n xs → W.ownsRow B e size v n xs := fun hx => row_mono hx hB
  have ho : ∀ a, Live (gathD m) a → a.kind ≠ 1 → a.kind ≠ 2 → ∀ g, (gthV m.slots val lv rv a).ownBlock = some g → g < N := fun a ha h1 h2 g hg => by rw [gthV_eq h1 h2] at hg; exact hold _ (gath_live ha) g hg
  have hnl : ∀ g, lv.ownBlock = some g → N ≤ g := fun g hg => (hl.lt g hg).1
  have hnr : ∀ g, rv.ownBlock = some g → N ≤ g := fun g hg => (hr.lt g hg).1
  refine ⟨fun a ha => ?_, fun a b ha hb hab g hga => ?_⟩
  · rcases ha.cases with rfl | rfl | rfl | rfl | ⟨j, rfl, hj⟩ | ⟨j, rfl, hj⟩
    · exact h.row .root (Live.root m)
    · show W.ownsRow B 60 3 lv (gathD m).slots.length (flatS (gathD m).slots (fun j => gthV m.slots val lv rv (.tab j)))
      rw [hlen]
      rw [flatS_congr (tv' := fun j => gthV m.slots val lv rv (.tab j)) (fun j hj => ?_)] at hl
      · exact mono hl
      · rw [hlen] at hj
        show (if j < rnk m.slots m.slots.length then _ else _) = _
        rw [rnk_all, if_pos hj]; rfl
    · show W.ownsRow B 3 1 rv (gathD m).refs.length (ints (gathD m).refs)
      rw [hlenr]; exact mono hr
    · exact h.row .snaps (Live.snaps m)
    · have hj' : j < (keptI m.slots).length := by rw [← hlen]; exact hj
      obtain ⟨t1, t2⟩ := gath_tab (m := m) hj'
      have := h.row (.tab ((keptI m.slots).getD j 0)) (Live.tab t1)
      have e1 : rowN (gathD m) (.tab j) = rowN m (.tab ((keptI m.slots).getD j 0)) := by
        show ((gathD m).slots.getD j default).2.2.length = _
        rw [t2]; rfl
      have e2 : rowV (gathD m) (gthV m.slots val lv rv) (.tab j) = rowV m val (.tab ((keptI m.slots).getD j 0)) := by
        show ints ((gathD m).slots.getD j default).2.2 = _
        rw [t2]; rfl
      rw [e1, e2]
      exact this
    · exact h.row (.sr j) (Live.sr hj)
  · by_cases a1 : a.kind = 1
    · have hga : lv.ownBlock = some g := by unfold gthV at hga; rw [if_pos a1] at hga; exact hga
      by_cases b1 : b.kind = 1
      · exact absurd (live_low ha hb (by rw [a1, b1]) (by omega)) hab
      · by_cases b2 : b.kind = 2
        · unfold gthV; rw [if_neg b1, if_pos b2]; exact hne g hga
        · intro x; have := ho b hb b1 b2 g x; have := hnl g hga; omega
    · by_cases a2 : a.kind = 2
      · have hga : rv.ownBlock = some g := by unfold gthV at hga; rw [if_neg a1, if_pos a2] at hga; exact hga
        by_cases b1 : b.kind = 1
        · unfold gthV; rw [if_pos b1]; exact fun x => hne g x hga
        · by_cases b2 : b.kind = 2
          · exact absurd (live_low ha hb (by rw [a2, b2]) (by omega)) hab
          · intro x; have := ho b hb b1 b2 g x; have := hnr g hga; omega
      · have hgN := ho a ha a1 a2 g hga
        by_cases b1 : b.kind = 1
        · unfold gthV; rw [if_pos b1]; intro x; have := hnl g x; omega
        · by_cases b2 : b.kind = 2
          · unfold gthV; rw [if_neg b1, if_pos b2]; intro x; have := hnr g x; omega
          · rw [gthV_eq a1 a2] at hga
            rw [gthV_eq b1 b2]
            exact h.apart _ _ (gath_live ha) (gath_live hb) (gath_inj ha hb hab) g hga
theorem DTo.gath {W wr : World} {B D : Nat} {val : Nm → Value} {m : ImgD} {lv rv : Value} (h : DK W B D val m) (hB : B ≤ W.heap.size) (hb : Below W.heap.size W wr)
    (hl : wr.ownsRow W.heap.size 60 3 lv (keptI m.slots).length (flatS (gathD m).slots (gT m.slots val m.slots.length))) (hr : wr.ownsRow W.heap.size 3 1 rv (keptI m.slots).length (ints (gathD m).refs)) (hne : ∀ g, lv.ownBlock = some g → rv.ownBlock ≠ some g) :
    DTo W ((wr.setCell ⟨D, 2, none⟩ lv).setCell ⟨D, 3, none⟩ rv) B D m val nilV (gathD m) (gthV m.slots val lv rv) := by
  have hO := (h.own.below hb).gath hB (fun a ha g hg => ((h.own.row a ha).lt g hg).2) hl hr hne
  have hnl : ∀ g, lv.ownBlock = some g → W.heap.size ≤ g := fun g hg => (hl.lt g hg).1
  have hnr : ∀ g, rv.ownBlock = some g → W.heap.size ≤ g := fun g hg => (hr.lt g hg).1
  have hsrc : ∀ q, q < W.heap.size → (∀ b, Live m b → (val b).ownBlock ≠ some q) → ∀ a, Live (gathD m) a → (gthV m.slots val lv rv a).ownBlock ≠ some q := fun q hq hm a ha => by
    by_cases a1 : a.kind = 1
    · unfold gthV; rw [if_pos a1]; intro x; have := hnl q x; omega
    · by_cases a2 : a.kind = 2
      · unfold gthV; rw [if_neg a1, if_pos a2]; intro x; have := hnr q x; omega
      · rw [gthV_eq a1 a2]; exact hm _ (gath_live ha)
  have hf := hsrc D h.lt h.far
  have hbx := (hb.block D h.lt).trans h.box
  have hx2 := cells_set hbx 2 lv
  have hx3 := cells_set hx2 3 rv
  refine ⟨⟨(hO.far hf).far hf, hx3, h.ge, hf⟩, ((hb.mono hB).setCell h.ge _).setCell h.ge _, fun q hq hD _ hm => ?_, fun q hq _ hm => hsrc q hq hm⟩
  exact (Below.heap_setCell _ ⟨D, 3, none⟩ rv q hD).trans ((Below.heap_setCell _ ⟨D, 2, none⟩ lv q hD).trans (hb.block q hq))
end Go.Proofs.Ytehleeibgkpjmag
/- Contract of gather: the slots that stay are moved to their new numbers. -/
namespace Go.Proofs.Ytehleeibgkpjmag
open Go.RowKit Go.Shelf
set_option maxRecDepth 20000
set_option linter.unusedVariables false
set_option linter.unusedSimpArgs false

theorem infoSl : (Try.prog.info? 60).map (fun i => (i.zero, i.size, i.bytes)) = some (some (.agg #[.int .i64 0, .string ⟨#[]⟩, .slice none 0 0]), 3, 48) := by kernel_rfl
theorem mk_slots (n1 : Nat) (hn : n1 ≤ 40) (W : World) : (Instr.makeSlice 23 (.int .i64 (n1 : Int)) (.int .i64 (n1 : Int))).run Try.prog W = .ok (.slice (some ⟨W.heap.size, 0, none⟩) n1 n1) (W.alloc (.cells (flatS (List.replicate n1 slotZ) (fun _ => nilV)).toArray 60)) := by
  have hi := infoSl
  cases h : Try.prog.info? 60 with
  | none => rw [h] at hi; cases hi
  | some i =>
    rw [h] at hi
    simp at hi
    have := run_make (P := Try.prog) W 23 60 i (.agg #[.int .i64 0, .string ⟨#[]⟩, .slice none 0 0]) Try.underlying23 h hi.1 .i64 .i64 n1 n1 (by omega) (by omega) (by rw [hi.2.2]; omega) (by omega)
    rw [this, hi.2.1]
    have e : madeCells (Value.agg #[.int .i64 0, .string ⟨#[]⟩, .slice none 0 0]).cells (((n1 : Int)).toNat * 3) = (flatS (List.replicate n1 slotZ) (fun _ => nilV)).toArray := by
      apply Array.toList_inj.1
      rw [Int.toNat_natCast]
      refine ext3P (n := n1) (by simp [madeCells]) (by rw [List.toList_toArray, flatS_length, List.length_replicate]) fun q hq => ?_
      obtain ⟨a, b, c⟩ := flatS_get (L := List.replicate n1 slotZ) (tv := fun _ => nilV) (j := q) (by rw [List.length_replicate]; exact hq)
      have hz : (List.replicate n1 slotZ).getD q default = slotZ := by rw [List.getD_eq_getElem?_getD, List.getElem?_replicate, if_pos hq]; rfl
      rw [hz] at a b
      rw [List.toList_toArray, a, b, c]
      have m0 : q * 3 % 3 = 0 := by omega
      have m1 : (q * 3 + 1) % 3 = 1 := by omega
      have m2 : (q * 3 + 2) % 3 = 2 := by omega
      refine ⟨?_, ?_, ?_⟩
      · simp [madeCells, Value.cells, m0, slotZ, show q * 3 < n1 * 3 by omega]
      · simp [madeCells, Value.cells, m1, slotZ, show q * 3 + 1 < n1 * 3 by omega]
      · simp [madeCells, Value.cells, m2, slotZ, show q * 3 + 2 < n1 * 3 by omega]
    rw [e]
    simp
theorem row_blkP {W W' : World} {B n size : Nat} {e : TypeId} {v : Value} {xs : List Value} (h : W.ownsRow B e size v n xs) (hb : ∀ g, v.ownBlock = some g → W'.heap[g]? = W.heap[g]?) : W'.ownsRow B e size v n xs := by
  refine ⟨h.1, ?_⟩
  rcases h.2 with hn | ⟨g, cap, cur, hv, hb', hg, rest⟩
  · exact .inl hn
  · exact .inr ⟨g, cap, cur, hv, hb', (hb g (by rw [hv]; rfl)).trans hg, rest⟩
theorem three6 {W : World} {B : Nat} {a b c : Value} {t : TypeId} (h : W.heap[B]? = some (.cells #[a, b, c] t)) : W.cell? ⟨B, 0, none⟩ = some a ∧ W.cell? ⟨B, 1, none⟩ = some b ∧ W.cell? ⟨B, 2, none⟩ = some c := by
  refine ⟨?_, ?_, ?_⟩ <;> simp [World.cell?, h]
theorem heap_three6 {W : World} {D q o1 o2 o3 : Nat} (a0 a1 a2 : Value) (hq : q ≠ D) : (((W.setCell ⟨D, o1, none⟩ a0).setCell ⟨D, o2, none⟩ a1).setCell ⟨D, o3, none⟩ a2).heap[q]? = W.heap[q]? :=
  (Below.heap_setCell _ ⟨D, o3, none⟩ a2 q hq).trans ((Below.heap_setCell _ ⟨D, o2, none⟩ a1 q hq).trans (Below.heap_setCell _ ⟨D, o1, none⟩ a0 q hq))
structure GaR (W wr : World) (lb rb n1 : Nat) (m : ImgD) (val : Nm → Value) (k : Nat) : Prop where
  bel : Below W.heap.size W wr
  l : wr.ownsRow W.heap.size 60 3 (.slice (some ⟨lb, 0, none⟩) n1 n1) n1 (flatS (gS m.slots k) (gT m.slots val k))
  r : wr.ownsRow W.heap.size 3 1 (.slice (some ⟨rb, 0, none⟩) n1 n1) n1 (ints (gR m.slots m.refs k))
  ne : lb ≠ rb
theorem GaR.below {W wr wx : World} {lb rb n1 k : Nat} {m : ImgD} {val : Nm → Value} (h : GaR W wr lb rb n1 m val k) (hb : Below wr.heap.size wr wx) : GaR W wx lb rb n1 m val k :=
  ⟨Below.on h.bel hb, row_blkP h.l (fun q e => hb.block q (h.l.lt q e).2), row_blkP h.r (fun q e => hb.block q (h.r.lt q e).2), h.ne⟩
theorem GaR.drew {W wr : World} {lb rb n1 k : Nat} {m : ImgD} {val : Nm → Value} (h : GaR W wr lb rb n1 m val k) : GaR W wr.drew lb rb n1 m val k := ⟨h.bel.drew, h.l.drew, h.r.drew, h.ne⟩
theorem GaR.begin {W wx : World} {lb rb n1 : Nat} {m : ImgD} {val : Nm → Value} (hn : (keptI m.slots).length = n1 ∧ n1 ≤ 40) (hb : Below W.heap.size W wx) (h1 : W.heap.size ≤ lb) (h2 : W.heap.size ≤ rb) (hne : lb ≠ rb) (hl : wx.heap[lb]? = some (.cells (flatS (List.replicate n1 slotZ) (fun _ => nilV)).toArray 60)) (hr : wx.heap[rb]? = some (.cells (Array.replicate n1 (.int .i64 0)) 3)) : GaR W wx lb rb n1 m val 0 := by
  have hx : (40 : Nat) ≤ maxLen := by decide
  have e1 : gS m.slots 0 = List.replicate n1 slotZ := by unfold gS; rw [rnk_0, Nat.sub_zero, hn.1]; rfl
  have e2 : gR m.slots m.refs 0 = List.replicate n1 0 := by unfold gR; rw [rnk_0, Nat.sub_zero, hn.1]; rfl
  have e3 : gT m.slots val 0 = fun _ => nilV := by funext i; unfold gT; rw [rnk_0, if_neg (Nat.not_lt_zero _)]
  refine ⟨hb, ?_, ?_, hne⟩
  · rw [e1, e3]
    exact ⟨by rw [flatS_length, List.length_replicate], .inr ⟨lb, n1, _, rfl, h1, hl, Nat.le_refl _, Nat.le_trans hn.2 hx, by rw [List.size_toArray, flatS_length, List.length_replicate], by rw [List.toList_toArray, List.take_of_length_le (by rw [flatS_length, List.length_replicate]; omega)]⟩⟩
  · rw [e2]
    exact ⟨by simp [ints], .inr ⟨rb, n1, _, rfl, h2, hr, Nat.le_refl _, Nat.le_trans hn.2 hx, by simp, by simp [ints, List.take_of_length_le]⟩⟩
theorem some_cell {W : World} {B n1 lb i : Nat} {e : TypeId} {size : Nat} {xs : List Value} (h : W.ownsRow B e size (.slice (some ⟨lb, 0, none⟩) n1 n1) n1 xs) (hi : i < n1 * size) : ∃ u, W.cell? ⟨lb, i, none⟩ = some u := by
  have := h.cellAt i hi
  rw [this]
  exact ⟨_, List.getElem?_eq_getElem (by rw [h.1]; exact hi)⟩
theorem GaR.cells3 {W wr : World} {lb rb n1 k rk : Nat} {m : ImgD} {val : Nm → Value} (h : GaR W wr lb rb n1 m val k) (hr : rk < n1) : (∃ u, wr.cell? ⟨lb, rk * 3, none⟩ = some u) ∧ (∃ u, wr.cell? ⟨lb, rk * 3 + 1, none⟩ = some u) ∧ (∃ u, wr.cell? ⟨lb, rk * 3 + 1 + 1, none⟩ = some u) ∧ wr.frozen? ⟨lb, rk * 3, none⟩ = false ∧ wr.frozen? ⟨lb, rk * 3 + 1, none⟩ = false ∧ wr.frozen? ⟨lb, rk * 3 + 1 + 1, none⟩ = false :=
  ⟨some_cell h.l (by omega), some_cell h.l (by omega), some_cell h.l (by omega), h.l.frozenAt _, h.l.frozenAt _, h.l.frozenAt _⟩
theorem GaR.put {W wr : World} {lb rb n1 k rk tn tc : Nat} {ta : Option Addr} {m : ImgD} {val : Nm → Value} {kk : Int} {dd : ByteArray} (h : GaR W wr lb rb n1 m val k) (hk : k < m.slots.length) (hp : kept m.slots k = true) (hr : rnk m.slots k = rk) (hs : ∃ es, m.slots.getD k default = (kk, dd, es)) (hv : val (.tab k) = .slice ta tn tc) :
    (((wr.setCell ⟨lb, rk * 3, none⟩ (.int .i64 kk)).setCell ⟨lb, rk * 3 + 1, none⟩ (.string dd)).setCell ⟨lb, rk * 3 + 2, none⟩ (.slice ta tn tc)).ownsRow W.heap.size 60 3 (.slice (some ⟨lb, 0, none⟩) n1 n1) n1 (flatS (gS m.slots (k + 1)) (gT m.slots val (k + 1))) ∧ Below W.heap.size W (((wr.setCell ⟨lb, rk * 3, none⟩ (.int .i64 kk)).setCell ⟨lb, rk * 3 + 1, none⟩ (.string dd)).setCell ⟨lb, rk * 3 + 2, none⟩ (.slice ta tn tc)) := by
  obtain ⟨es, hs⟩ := hs
  have hlb := (row_lt h.l).1
  refine ⟨?_, ((h.bel.setCell (p := ⟨lb, rk * 3, none⟩) hlb _).setCell (p := ⟨lb, rk * 3 + 1, none⟩) hlb _).setCell (p := ⟨lb, rk * 3 + 2, none⟩) hlb _⟩
  have h6 := (((h.l.stored (rk * 3) (.int .i64 kk)).1.stored (rk * 3 + 1) (.string dd)).1.stored (rk * 3 + 2) (.slice ta tn tc)).1
  obtain ⟨g1, g2⟩ := gT_succ (val := val) hk hp
  rw [hr] at g1 g2
  rw [gS_succ hk hp, hs, hr, flatS_set (tv := gT m.slots val k) kk dd es g1, g2, hv]
  exact h6
theorem GaR.last {W Y : World} {lb rb n1 k rk : Nat} {m : ImgD} {val : Nm → Value} {fk : Int} (hl : Y.ownsRow W.heap.size 60 3 (.slice (some ⟨lb, 0, none⟩) n1 n1) n1 (flatS (gS m.slots (k + 1)) (gT m.slots val (k + 1)))) (hb : Below W.heap.size W Y) (hr : Y.ownsRow W.heap.size 3 1 (.slice (some ⟨rb, 0, none⟩) n1 n1) n1 (ints (gR m.slots m.refs k))) (hne : lb ≠ rb) (hk : k < m.slots.length) (hp : kept m.slots k = true) (hrk : rnk m.slots k = rk) (hf : m.refs.getD k 0 = fk) :
    GaR W (Y.setCell ⟨rb, rk, none⟩ (.int .i64 fk)) lb rb n1 m val (k + 1) := by
  have hrb := (row_lt hr).1
  refine ⟨hb.setCell (p := ⟨rb, rk, none⟩) hrb _, row_blkP hl (fun q e => Below.heap_setCell Y ⟨rb, rk, none⟩ _ q (fun x => hne (by have e' : some lb = some q := e; have := Option.some.inj e'; have x : q = rb := x; omega))), ?_, hne⟩
  rw [gR_succ hk hp, hrk, hf, ints_set]
  exact (hr.stored rk _).1
set_option maxHeartbeats 16000000 in
theorem gather_is {W : World} {B D r : Nat} {val : Nm → Value} {m : ImgD} (hK : DK W B D val m) (hB : B ≤ W.heap.size) (hM : W.heap[r]? = some (.map ((entK m.slots ((List.range m.slots.length).filter (kept m.slots))).toArray) (rnk m.slots m.slots.length))) (hs : shapeE m = 0) :
    Calls Try.prog 22 #[.pointer (some ⟨D, 0, none⟩), .map (some r)] W fun q W' => q = .returned (.tuple #[]) ∧ ∃ val', DTo W W' B D m val nilV (gathD m) val' := by
  obtain ⟨l1, l40⟩ := slotsE_parts (shapeE_zero hs).2.1
  have hrl := (shapeE_zero hs).2.2.1
  obtain ⟨ra, rc, e0, _⟩ := hK.own.forms .root (Live.root m)
  obtain ⟨sa, sc, e1, hsa⟩ := hK.own.forms .slots (Live.slots m)
  obtain ⟨fa, fc, e2, hfa⟩ := hK.own.forms .refs (Live.refs m)
  obtain ⟨na, nc, e3, _⟩ := hK.own.forms .snaps (Live.snaps m)
  obtain ⟨sb, rfl⟩ := hsa (by show 0 < m.slots.length; omega)
  obtain ⟨fb, rfl⟩ := hfa (by show 0 < m.refs.length; omega)
  have e0 : val .root = .slice ra m.root.length rc := e0
  have e1 : val .slots = .slice (some ⟨sb, 0, none⟩) m.slots.length sc := e1
  have e2 : val .refs = .slice (some ⟨fb, 0, none⟩) m.refs.length fc := e2
  have e3 : val .snaps = .slice na m.snaps.length nc := e3
  have hbox := hK.box
  rw [e0, e1, e2, e3] at hbox
  obtain ⟨n1, hn1⟩ : ∃ n, (keptI m.slots).length = n := ⟨_, rfl⟩
  have hn40 : n1 ≤ 40 := by have := keptI_le m.slots; omega
  have HN1 : Hid ((keptI m.slots).length = n1 ∧ n1 ≤ 40) := ⟨hn1, hn40⟩
  have HMp : Hid (W.heap[r]? = some (.map ((entK m.slots ((List.range m.slots.length).filter (kept m.slots))).toArray) (rnk m.slots m.slots.length))) := hM
  have HLen : Hid (∀ ty (X : World), X.heap[r]? = some (.map ((entK m.slots ((List.range m.slots.length).filter (kept m.slots))).toArray) (rnk m.slots m.slots.length)) → (Builtin.len_ #[48] ty #[.map (some r)]).run Try.prog X = .ok (.int .i64 (n1 : Int)) X) := fun ty X hX => by
    have := run_len_map (P := Try.prog) (w := X) 48 ty r ((entK m.slots ((List.range m.slots.length).filter (kept m.slots))).toArray) (rnk m.slots m.slots.length) (by kernel_rfl) hX
    rw [this]; unfold goInt; rw [entK_size, rnk_all, hn1]
  have hmS : ∀ X : World, (Instr.makeSlice 23 (.int .i64 (n1 : Int)) (.int .i64 (n1 : Int))).run Try.prog X = .ok (.slice (some ⟨X.heap.size, 0, none⟩) n1 n1) (X.alloc (.cells (flatS (List.replicate n1 slotZ) (fun _ => nilV)).toArray 60)) := fun X => mk_slots n1 hn40 X
  have hmR : ∀ X : World, (Instr.makeSlice 22 (.int .i64 (n1 : Int)) (.int .i64 (n1 : Int))).run Try.prog X = .ok (.slice (some ⟨X.heap.size, 0, none⟩) n1 n1) (X.alloc (.cells (Array.replicate n1 (.int .i64 0)) 3)) := fun X => by have := mk_ints n1 hn40 X; simpa using this
  have HK : Hid (DK W B D val m ∧ B ≤ W.heap.size ∧ val .slots = .slice (some ⟨sb, 0, none⟩) m.slots.length sc ∧ val .refs = .slice (some ⟨fb, 0, none⟩) m.refs.length fc) := ⟨hK, hB, e1, e2⟩
  have hDl := hK.lt
  have hsrow : W.ownsRow B 60 3 (val .slots) m.slots.length (flatS m.slots (fun j => val (.tab j))) := hK.own.row .slots (Live.slots m)
  have hfrow : W.ownsRow B 3 1 (val .refs) m.refs.length (ints m.refs) := hK.own.row .refs (Live.refs m)
  rw [e1] at hsrow
  rw [e2] at hfrow
  have hsbl := (row_lt hsrow).2.1
  have hfbl := (row_lt hfrow).2.1
  have HRw : Hid (W.ownsRow B 60 3 (.slice (some ⟨sb, 0, none⟩) m.slots.length sc) m.slots.length (flatS m.slots (fun j => val (.tab j))) ∧ W.ownsRow B 3 1 (.slice (some ⟨fb, 0, none⟩) m.refs.length fc) m.refs.length (ints m.refs)) := ⟨hsrow, hfrow⟩
  have HRl : Hid (m.refs.length = m.slots.length) := hrl
  clear hK hB hM hs e0 e1 e2 e3 hn1 hsrow hfrow hrl hsa hfa
  go_enter Try.func22, Try.ntmps22
  go_upto_region 0 with fail
  go_cut [4, 5] from 10 (fun a b wx => ∃ lb rb, a = .slice (some ⟨lb, 0, none⟩) n1 n1 ∧ b = .slice (some ⟨rb, 0, none⟩) n1 n1 ∧ Hid (GaR W wx lb rb n1 m val 0))
  case first =>
    refine wp_region_held_drew (S := (fun X : World => X.heap[r]? = some (.map ((entK m.slots ((List.range m.slots.length).filter (kept m.slots))).toArray) (rnk m.slots m.slots.length)))) (by kernel_rfl) HMp.out (fun hHeld => ?_)
    refine wpAnyH_take (i := 0) (v := .map (some r)) rfl (by kernel_rfl) (by kernel_rfl) (by kernel_rfl) (fun _ _ _ h => h) (Or.inl ⟨by rfl, fun w' hSw => by go_simp⟩) hHeld ?_
    simp only [Act.put, List.getElem_toArray, List.getElem_cons_succ, List.getElem_cons_zero, List.setIfInBounds_toArray, List.set_cons_zero, List.set_cons_succ]
    refine wpAnyH_take (i := 1) (v := .int .i64 (n1 : Int)) rfl (by kernel_rfl) (by kernel_rfl) (by kernel_rfl) (fun _ _ _ h => h) (Or.inl ⟨by rfl, fun w' hSw => by have hq := fun ty => HLen.out ty _ hSw; go_simp⟩) hHeld ?_
    simp only [Act.put, List.getElem_toArray, List.getElem_cons_succ, List.getElem_cons_zero, List.setIfInBounds_toArray, List.set_cons_zero, List.set_cons_succ]
    refine wpAnyH_take (i := 3) (v := .map (some r)) rfl (by kernel_rfl) (by kernel_rfl) (by kernel_rfl) (fun _ _ _ h => h) (Or.inl ⟨by rfl, fun w' hSw => by go_simp⟩) hHeld ?_
    simp only [Act.put, List.getElem_toArray, List.getElem_cons_succ, List.getElem_cons_zero, List.setIfInBounds_toArray, List.set_cons_zero, List.set_cons_succ]
    refine wpAnyH_take (i := 4) (v := .int .i64 (n1 : Int)) rfl (by kernel_rfl) (by kernel_rfl) (by kernel_rfl) (fun _ _ _ h => h) (Or.inl ⟨by rfl, fun w' hSw => by have hq := fun ty => HLen.out ty _ hSw; go_simp⟩) hHeld ?_
    simp only [Act.put, List.getElem_toArray, List.getElem_cons_succ, List.getElem_cons_zero, List.setIfInBounds_toArray, List.set_cons_zero, List.set_cons_succ]
    refine wpAnyH_ready (rs := [2, 5]) (by kernel_rfl) (by simp) ?_
    refine AllReadyH.cons rfl (fun K hK => ?_) (AllReadyH.cons rfl (fun K hK => ?_) AllReadyH.nil)
    · clear hHeld
      simp only [Act.put, List.getElem_toArray, List.getElem_cons_succ, List.getElem_cons_zero, List.setIfInBounds_toArray, List.set_cons_zero, List.set_cons_succ]
      rw [if_pos (by rfl)]
      go_simp
      obtain ⟨X1, hX1⟩ : ∃ X, X = (W.alloc (.cells (flatS (List.replicate n1 slotZ) (fun _ => nilV)).toArray 60)).drew := ⟨_, rfl⟩
      have b1 : Below W.heap.size W X1 := by rw [hX1]; exact ((Below.refl _ _).alloc (Nat.le_refl _) _).drew
      have hz1 : W.heap.size + 1 ≤ X1.heap.size := by rw [hX1]; show _ ≤ (W.alloc (.cells (flatS (List.replicate n1 slotZ) (fun _ => nilV)).toArray 60)).heap.size; simp
      have k1 : X1.heap[W.heap.size]? = some (.cells (flatS (List.replicate n1 slotZ) (fun _ => nilV)).toArray 60) := by rw [hX1]; exact World.alloc_heap_new _ _
      have hS1 : X1.heap[r]? = some (.map ((entK m.slots ((List.range m.slots.length).filter (kept m.slots))).toArray) (rnk m.slots m.slots.length)) := (b1.block r (Array.getElem?_eq_some_iff.1 HMp.out).1).trans HMp.out
      rw [← hX1]
      clear hX1
      refine hK.out _ _ hS1 (fun hHeld => ?_)
      clear hK K
      try simp only [Act.put, List.getElem_toArray, List.getElem_cons_succ, List.getElem_cons_zero, List.setIfInBounds_toArray, List.set_cons_zero, List.set_cons_succ]
      refine wpAnyH_take (i := 6) (v := .slice (some ⟨W.heap.size, 0, none⟩) n1 n1) rfl (by kernel_rfl) (by kernel_rfl) (by kernel_rfl) (fun _ _ _ h => h) (Or.inl ⟨by rfl, fun w' hSw => by go_simp⟩) hHeld ?_
      simp only [Act.put, List.getElem_toArray, List.getElem_cons_succ, List.getElem_cons_zero, List.setIfInBounds_toArray, List.set_cons_zero, List.set_cons_succ]
      refine wpAnyH_ready (rs := [5]) (by kernel_rfl) (by simp) ?_
      refine AllReadyH.cons rfl (fun K hK => ?_) AllReadyH.nil
      clear hHeld
      simp only [Act.put, List.getElem_toArray, List.getElem_cons_succ, List.getElem_cons_zero, List.setIfInBounds_toArray, List.set_cons_zero, List.set_cons_succ]
      rw [if_pos (by rfl)]
      go_simp
      obtain ⟨X2, hX2⟩ : ∃ X, X = (X1.alloc (.cells (Array.replicate n1 (.int .i64 0)) 3)) := ⟨_, rfl⟩
      have b2 : Below W.heap.size W X2 := by rw [hX2]; exact b1.alloc (by omega) _
      have k1 : X2.heap[W.heap.size]? = some (.cells (flatS (List.replicate n1 slotZ) (fun _ => nilV)).toArray 60) := by rw [hX2]; exact (Below.heap_alloc X1 _ _ (by omega)).trans k1
      have k2 : X2.heap[X1.heap.size]? = some (.cells (Array.replicate n1 (.int .i64 0)) 3) := by rw [hX2]; exact World.alloc_heap_new _ _
      have hS2 : X2.heap[r]? = some (.map ((entK m.slots ((List.range m.slots.length).filter (kept m.slots))).toArray) (rnk m.slots m.slots.length)) := (b2.block r (Array.getElem?_eq_some_iff.1 HMp.out).1).trans HMp.out
      rw [← hX2]
      clear hX2
      refine hK.out _ _ hS2 (fun hHeld => ?_)
      clear hK K
      try simp only [Act.put, List.getElem_toArray, List.getElem_cons_succ, List.getElem_cons_zero, List.setIfInBounds_toArray, List.set_cons_zero, List.set_cons_succ]
      refine wpAnyH_take (i := 7) (v := .slice (some ⟨X1.heap.size, 0, none⟩) n1 n1) rfl (by kernel_rfl) (by kernel_rfl) (by kernel_rfl) (fun _ _ _ h => h) (Or.inl ⟨by rfl, fun w' hSw => by go_simp⟩) hHeld ?_
      simp only [Act.put, List.getElem_toArray, List.getElem_cons_succ, List.getElem_cons_zero, List.setIfInBounds_toArray, List.set_cons_zero, List.set_cons_succ]
      clear hHeld
      refine wpAnyH_done (by kernel_rfl) ?_ _
      go_wp2_with fail
      go_meet
      exact ⟨W.heap.size, X1.heap.size, rfl, rfl, GaR.begin (lb := W.heap.size) (rb := X1.heap.size) HN1.out b2 (by omega) (by omega) (by omega) k1 k2⟩
    · clear hHeld
      simp only [Act.put, List.getElem_toArray, List.getElem_cons_succ, List.getElem_cons_zero, List.setIfInBounds_toArray, List.set_cons_zero, List.set_cons_succ]
      rw [if_pos (by rfl)]
      go_simp
      obtain ⟨X1, hX1⟩ : ∃ X, X = (W.alloc (.cells (Array.replicate n1 (.int .i64 0)) 3)).drew := ⟨_, rfl⟩
      have b1 : Below W.heap.size W X1 := by rw [hX1]; exact ((Below.refl _ _).alloc (Nat.le_refl _) _).drew
      have hz1 : W.heap.size + 1 ≤ X1.heap.size := by rw [hX1]; show _ ≤ (W.alloc (.cells (Array.replicate n1 (.int .i64 0)) 3)).heap.size; simp
      have k1 : X1.heap[W.heap.size]? = some (.cells (Array.replicate n1 (.int .i64 0)) 3) := by rw [hX1]; exact World.alloc_heap_new _ _
      have hS1 : X1.heap[r]? = some (.map ((entK m.slots ((List.range m.slots.length).filter (kept m.slots))).toArray) (rnk m.slots m.slots.length)) := (b1.block r (Array.getElem?_eq_some_iff.1 HMp.out).1).trans HMp.out
      rw [← hX1]
      clear hX1
      refine hK.out _ _ hS1 (fun hHeld => ?_)
      clear hK K
      try simp only [Act.put, List.getElem_toArray, List.getElem_cons_succ, List.getElem_cons_zero, List.setIfInBounds_toArray, List.set_cons_zero, List.set_cons_succ]
      refine wpAnyH_ready (rs := [2]) (by kernel_rfl) (by simp) ?_
      refine AllReadyH.cons rfl (fun K hK => ?_) AllReadyH.nil
      clear hHeld
      simp only [Act.put, List.getElem_toArray, List.getElem_cons_succ, List.getElem_cons_zero, List.setIfInBounds_toArray, List.set_cons_zero, List.set_cons_succ]
      rw [if_pos (by rfl)]
      go_simp
      obtain ⟨X2, hX2⟩ : ∃ X, X = (X1.alloc (.cells (flatS (List.replicate n1 slotZ) (fun _ => nilV)).toArray 60)) := ⟨_, rfl⟩
      have b2 : Below W.heap.size W X2 := by rw [hX2]; exact b1.alloc (by omega) _
      have k1 : X2.heap[W.heap.size]? = some (.cells (Array.replicate n1 (.int .i64 0)) 3) := by rw [hX2]; exact (Below.heap_alloc X1 _ _ (by omega)).trans k1
      have k2 : X2.heap[X1.heap.size]? = some (.cells (flatS (List.replicate n1 slotZ) (fun _ => nilV)).toArray 60) := by rw [hX2]; exact World.alloc_heap_new _ _
      have hS2 : X2.heap[r]? = some (.map ((entK m.slots ((List.range m.slots.length).filter (kept m.slots))).toArray) (rnk m.slots m.slots.length)) := (b2.block r (Array.getElem?_eq_some_iff.1 HMp.out).1).trans HMp.out
      rw [← hX2]
      clear hX2
      refine hK.out _ _ hS2 (fun hHeld => ?_)
      clear hK K
      try simp only [Act.put, List.getElem_toArray, List.getElem_cons_succ, List.getElem_cons_zero, List.setIfInBounds_toArray, List.set_cons_zero, List.set_cons_succ]
      refine wpAnyH_take (i := 6) (v := .slice (some ⟨X1.heap.size, 0, none⟩) n1 n1) rfl (by kernel_rfl) (by kernel_rfl) (by kernel_rfl) (fun _ _ _ h => h) (Or.inl ⟨by rfl, fun w' hSw => by go_simp⟩) hHeld ?_
      simp only [Act.put, List.getElem_toArray, List.getElem_cons_succ, List.getElem_cons_zero, List.setIfInBounds_toArray, List.set_cons_zero, List.set_cons_succ]
      refine wpAnyH_take (i := 7) (v := .slice (some ⟨W.heap.size, 0, none⟩) n1 n1) rfl (by kernel_rfl) (by kernel_rfl) (by kernel_rfl) (fun _ _ _ h => h) (Or.inl ⟨by rfl, fun w' hSw => by go_simp⟩) hHeld ?_
      simp only [Act.put, List.getElem_toArray, List.getElem_cons_succ, List.getElem_cons_zero, List.setIfInBounds_toArray, List.set_cons_zero, List.set_cons_succ]
      clear hHeld
      refine wpAnyH_done (by kernel_rfl) ?_ _
      go_wp2_with fail
      go_meet
      exact ⟨X1.heap.size, W.heap.size, rfl, rfl, GaR.begin (lb := X1.heap.size) (rb := W.heap.size) HN1.out b2 (by omega) (by omega) (by omega) k2 k1⟩
  case rest =>
  obtain ⟨lb, rb, rfl, rfl, HC0⟩ := hcut
  obtain ⟨w1, hw1⟩ : ∃ X, X = wc := ⟨_, rfl⟩
  subst hw1
  have hb1 := cells_below hbox HC0.out.bel hDl
  obtain ⟨d0, d1, d2, d3, d4⟩ := five hb1
  clear hmS hmR
  go_wp2_with fail
  clear d0 d1 d2 d3 d4 hb1
  go_loopw [22] (fun i wr => ∃ k : Nat, k ≤ m.slots.length ∧ i = .int .i64 k ∧ Hid (GaR W wr lb rb n1 m val k)) (fun i _ => m.slots.length - (intOf i).toNat)
  case atStart => exact ⟨0, Nat.zero_le _, rfl, HC0⟩
  case round =>
    obtain ⟨k, hk, rfl, HC⟩ := hrel
    have hbl := HC.out.bel
    have hDr := cells_below hbox hbl hDl
    have hDw : D < wr.heap.size := Nat.lt_of_lt_of_le hDl hbl.size
    by_cases hkl : k < m.slots.length
    · have hki : (k : Int) < (m.slots.length : Int) := by omega
      obtain ⟨g0, g1, g2⟩ := flatS_get (tv := fun j => val (.tab j)) hkl
      obtain ⟨⟨kk, dd, es⟩, hss⟩ : ∃ s, m.slots.getD k default = s := ⟨_, rfl⟩
      rw [hss] at g0 g1
      obtain ⟨ta, tc, eq, _⟩ := HK.out.1.own.forms (.tab k) (Live.tab hkl)
      obtain ⟨tn, htn⟩ : ∃ n, rowN m (.tab k) = n := ⟨_, rfl⟩
      rw [htn] at eq
      have v0 : wr.cell? ⟨sb, k * 3, none⟩ = some (.int .i64 kk) := (hbl.cell (p := ⟨sb, k * 3, none⟩) hsbl).trans ((HRw.out.1.cellAt (k * 3 + 0) (by omega)).trans g0)
      have v1 : wr.cell? ⟨sb, k * 3 + 1, none⟩ = some (.string dd) := (hbl.cell (p := ⟨sb, k * 3 + 1, none⟩) hsbl).trans ((HRw.out.1.cellAt (k * 3 + 1) (by omega)).trans g1)
      have v2 : wr.cell? ⟨sb, k * 3 + 1 + 1, none⟩ = some (.slice ta tn tc) := (hbl.cell (p := ⟨sb, k * 3 + 1 + 1, none⟩) hsbl).trans ((HRw.out.1.cellAt (k * 3 + 2) (by omega)).trans (g2.trans (by rw [← eq])))
      have hmr := (hbl.block r (Array.getElem?_eq_some_iff.1 HMp.out).1).trans HMp.out
      have hma : (wr.alloc (.cells #[.int .i64 kk, .string dd, .slice ta tn tc] 60)).heap[r]? = some (.map ((entK m.slots ((List.range m.slots.length).filter (kept m.slots))).toArray) (rnk m.slots m.slots.length)) := map_alloc hmr _
      by_cases hp : kept m.slots k = true
      · obtain ⟨p, hfp⟩ := find_at (L := m.slots) (l := (List.range m.slots.length).filter (kept m.slots)) (k := k) (List.mem_filter.2 ⟨List.mem_range.2 hkl, hp⟩) 0
        obtain ⟨rk, hrkE⟩ : ∃ n, rnk m.slots k = n := ⟨_, rfl⟩
        have hlk := look_run (P := Try.prog) (w := wr.alloc (.cells #[.int .i64 kk, .string dd, .slice ta tn tc] 60)) 48 3 3 r (rnk m.slots m.slots.length) ((entK m.slots ((List.range m.slots.length).filter (kept m.slots))).toArray) (k : Int) (.int .i64 (rnk m.slots k : Int)) p Try.underlying48 Try.underlying3 hma (by simpa using hfp)
        rw [hrkE] at hlk
        have hrk : rk < n1 := by rw [← hrkE, ← HN1.out.1]; exact rnk_lt hkl hp
        have hrki : (rk : Int) < (n1 : Int) := by omega
        have HKp : Hid (k < m.slots.length ∧ kept m.slots k = true ∧ rnk m.slots k = rk ∧ (∃ es, m.slots.getD k default = (kk, dd, es)) ∧ val (.tab k) = .slice ta tn tc) := ⟨hkl, hp, hrkE, ⟨es, hss⟩, eq⟩
        obtain ⟨fk, hfk⟩ : ∃ x, m.refs.getD k 0 = x := ⟨_, rfl⟩
        have HFk : Hid (m.refs.getD k 0 = fk) := hfk
        have hkr : k < m.refs.length := by rw [HRl.out]; exact hkl
        have hkri : (k : Int) < (m.refs.length : Int) := by omega
        have cf : wr.cell? ⟨fb, k, none⟩ = some (.int .i64 fk) := by
          refine (hbl.cell (p := ⟨fb, k, none⟩) hfbl).trans ((HRw.out.2.cellAt k (by omega)).trans ?_)
          show (List.map (Value.int .i64) m.refs)[k]? = _
          rw [List.getElem?_map, List.getElem?_eq_getElem hkr, ← hfk]
          simp [List.getD, hkr]
        have hfw : fb < wr.heap.size := Nat.lt_of_lt_of_le hfbl hbl.size
        have hlbw := row_lt HC.out.l
        have hrbw := row_lt HC.out.r
        have HFr : Hid (lb ≠ wr.heap.size ∧ lb ≠ D ∧ lb ≠ fb ∧ rb ≠ wr.heap.size ∧ rb ≠ D ∧ rb ≠ fb) := ⟨by omega, by omega, by omega, by omega, by omega, by omega⟩
        have HGr : Hid (∃ u, (ints (gR m.slots m.refs k))[rk]? = some u) := ⟨_, List.getElem?_eq_getElem (by rw [ints_length, gR_length (by omega), HN1.out.1]; exact hrk)⟩
        clear hfp hrkE hp hfk g0 g1 g2 hss eq htn hma hmr hlbw hrbw
        go_upto_region 6 with fail
        obtain ⟨X9, hX9⟩ : ∃ X, X = wr.alloc (.cells #[.int .i64 kk, .string dd, .slice ta tn tc] 60) := ⟨_, rfl⟩
        have b9 : Below wr.heap.size wr X9 := by rw [hX9]; exact (Below.refl _ _).alloc (Nat.le_refl _) _
        have k9 : X9.heap[wr.heap.size]? = some (.cells #[.int .i64 kk, .string dd, .slice ta tn tc] 60) := by rw [hX9]; exact World.alloc_heap_new _ _
        rw [← hX9]
        clear hX9
        have hD9 : X9.heap[D]? = some (.cells #[.int .i64 m.guest, .slice ra m.root.length rc, .slice (some ⟨sb, 0, none⟩) m.slots.length sc, .slice (some ⟨fb, 0, none⟩) m.refs.length fc, .slice na m.snaps.length nc] 51) := (b9.block D hDw).trans hDr
        have hf9 : X9.cell? ⟨fb, k, none⟩ = some (.int .i64 fk) := (b9.cell (p := ⟨fb, k, none⟩) hfw).trans cf
        have HG9 : Hid (GaR W X9 lb rb n1 m val (k)) := HC.out.below b9
        refine wp_region_held_drew (S := (fun X : World => X.heap[wr.heap.size]? = some (.cells #[.int .i64 kk, .string dd, .slice ta tn tc] 60) ∧ X.heap[D]? = some (.cells #[.int .i64 m.guest, .slice ra m.root.length rc, .slice (some ⟨sb, 0, none⟩) m.slots.length sc, .slice (some ⟨fb, 0, none⟩) m.refs.length fc, .slice na m.snaps.length nc] 51) ∧ X.cell? ⟨fb, k, none⟩ = some (.int .i64 fk))) (by kernel_rfl) ⟨k9, hD9, hf9⟩ (fun hHeld => ?_)
        obtain ⟨Y0, hY0⟩ : ∃ Y, Y = X9.drew := ⟨_, rfl⟩
        have HGY : Hid (GaR W Y0 lb rb n1 m val (k)) := by rw [hY0]; exact HG9.out.drew
        have kY : Y0.heap[wr.heap.size]? = some (.cells #[.int .i64 kk, .string dd, .slice ta tn tc] 60) ∧ Y0.heap[D]? = some (.cells #[.int .i64 m.guest, .slice ra m.root.length rc, .slice (some ⟨sb, 0, none⟩) m.slots.length sc, .slice (some ⟨fb, 0, none⟩) m.refs.length fc, .slice na m.snaps.length nc] 51) ∧ Y0.cell? ⟨fb, k, none⟩ = some (.int .i64 fk) := by rw [hY0]; exact ⟨k9, hD9, hf9⟩
        have hsY : wr.heap.size < Y0.heap.size := (Array.getElem?_eq_some_iff.1 kY.1).1
        rw [← hY0] at hHeld ⊢
        clear hY0 k9 hD9 hf9 b9 HG9
        refine wpAnyH_take (i := 0) (v := .slice (some ⟨lb, 0, none⟩) n1 n1) rfl (by kernel_rfl) (by kernel_rfl) (by kernel_rfl) (fun _ _ _ h => h) (Or.inl ⟨by rfl, fun w' hSw => by go_simp⟩) hHeld ?_
        simp only [Act.put, List.getElem_toArray, List.getElem_cons_succ, List.getElem_cons_zero, List.setIfInBounds_toArray, List.set_cons_zero, List.set_cons_succ]
        refine wpAnyH_take (i := 1) (v := .int .i64 (rk : Int)) rfl (by kernel_rfl) (by kernel_rfl) (by kernel_rfl) (fun _ _ _ h => h) (Or.inl ⟨by rfl, fun w' hSw => by go_simp⟩) hHeld ?_
        simp only [Act.put, List.getElem_toArray, List.getElem_cons_succ, List.getElem_cons_zero, List.setIfInBounds_toArray, List.set_cons_zero, List.set_cons_succ]
        refine wpAnyH_take (i := 2) (v := .slice (some ⟨rb, 0, none⟩) n1 n1) rfl (by kernel_rfl) (by kernel_rfl) (by kernel_rfl) (fun _ _ _ h => h) (Or.inl ⟨by rfl, fun w' hSw => by go_simp⟩) hHeld ?_
        simp only [Act.put, List.getElem_toArray, List.getElem_cons_succ, List.getElem_cons_zero, List.setIfInBounds_toArray, List.set_cons_zero, List.set_cons_succ]
        refine wpAnyH_take (i := 3) (v := .int .i64 (rk : Int)) rfl (by kernel_rfl) (by kernel_rfl) (by kernel_rfl) (fun _ _ _ h => h) (Or.inl ⟨by rfl, fun w' hSw => by go_simp⟩) hHeld ?_
        simp only [Act.put, List.getElem_toArray, List.getElem_cons_succ, List.getElem_cons_zero, List.setIfInBounds_toArray, List.set_cons_zero, List.set_cons_succ]
        refine wpAnyH_take (i := 4) (v := .agg #[.int .i64 kk, .string dd, .slice ta tn tc]) rfl (by kernel_rfl) (by kernel_rfl) (by kernel_rfl) (fun _ _ _ h => h) (Or.inl ⟨by rfl, fun w' hSw => by obtain ⟨qa, qb, qc⟩ := hSw; obtain ⟨t0, t1, t2⟩ := three6 qa; obtain ⟨j0, j1, j2, j3, j4⟩ := five qb; go_simp⟩) hHeld ?_
        simp only [Act.put, List.getElem_toArray, List.getElem_cons_succ, List.getElem_cons_zero, List.setIfInBounds_toArray, List.set_cons_zero, List.set_cons_succ]
        refine wpAnyH_take (i := 5) (v := .pointer (some ⟨D, 0, none⟩)) rfl (by kernel_rfl) (by kernel_rfl) (by kernel_rfl) (fun _ _ _ h => h) (Or.inl ⟨by rfl, fun w' hSw => by go_simp⟩) hHeld ?_
        simp only [Act.put, List.getElem_toArray, List.getElem_cons_succ, List.getElem_cons_zero, List.setIfInBounds_toArray, List.set_cons_zero, List.set_cons_succ]
        refine wpAnyH_take (i := 6) (v := .pointer (some ⟨D, 0, none⟩)) rfl (by kernel_rfl) (by kernel_rfl) (by kernel_rfl) (fun _ _ _ h => h) (Or.inl ⟨by rfl, fun w' hSw => by go_simp⟩) hHeld ?_
        simp only [Act.put, List.getElem_toArray, List.getElem_cons_succ, List.getElem_cons_zero, List.setIfInBounds_toArray, List.set_cons_zero, List.set_cons_succ]
        refine wpAnyH_take (i := 7) (v := .pointer (some ⟨D, 0, none⟩)) rfl (by kernel_rfl) (by kernel_rfl) (by kernel_rfl) (fun _ _ _ h => h) (Or.inl ⟨by rfl, fun w' hSw => by go_simp⟩) hHeld ?_
        simp only [Act.put, List.getElem_toArray, List.getElem_cons_succ, List.getElem_cons_zero, List.setIfInBounds_toArray, List.set_cons_zero, List.set_cons_succ]
        refine wpAnyH_take (i := 8) (v := .pointer (some ⟨D, 3, none⟩)) rfl (by kernel_rfl) (by kernel_rfl) (by kernel_rfl) (fun _ _ _ h => h) (Or.inl ⟨by rfl, fun w' hSw => by go_simp⟩) hHeld ?_
        simp only [Act.put, List.getElem_toArray, List.getElem_cons_succ, List.getElem_cons_zero, List.setIfInBounds_toArray, List.set_cons_zero, List.set_cons_succ]
        refine wpAnyH_take (i := 9) (v := .slice (some ⟨fb, 0, none⟩) m.refs.length fc) rfl (by kernel_rfl) (by kernel_rfl) (by kernel_rfl) (fun _ _ _ h => h) (Or.inl ⟨by rfl, fun w' hSw => by obtain ⟨qa, qb, qc⟩ := hSw; obtain ⟨t0, t1, t2⟩ := three6 qa; obtain ⟨j0, j1, j2, j3, j4⟩ := five qb; go_simp⟩) hHeld ?_
        simp only [Act.put, List.getElem_toArray, List.getElem_cons_succ, List.getElem_cons_zero, List.setIfInBounds_toArray, List.set_cons_zero, List.set_cons_succ]
        refine wpAnyH_take (i := 10) (v := .int .i64 (k : Int)) rfl (by kernel_rfl) (by kernel_rfl) (by kernel_rfl) (fun _ _ _ h => h) (Or.inl ⟨by rfl, fun w' hSw => by go_simp⟩) hHeld ?_
        simp only [Act.put, List.getElem_toArray, List.getElem_cons_succ, List.getElem_cons_zero, List.setIfInBounds_toArray, List.set_cons_zero, List.set_cons_succ]
        refine wpAnyH_take (i := 11) (v := .pointer (some ⟨fb, k, none⟩)) rfl (by kernel_rfl) (by kernel_rfl) (by kernel_rfl) (fun _ _ _ h => h) (Or.inl ⟨by rfl, fun w' hSw => by go_simp⟩) hHeld ?_
        simp only [Act.put, List.getElem_toArray, List.getElem_cons_succ, List.getElem_cons_zero, List.setIfInBounds_toArray, List.set_cons_zero, List.set_cons_succ]
        refine wpAnyH_take (i := 12) (v := .int .i64 fk) rfl (by kernel_rfl) (by kernel_rfl) (by kernel_rfl) (fun _ _ _ h => h) (Or.inl ⟨by rfl, fun w' hSw => by obtain ⟨qa, qb, qc⟩ := hSw; obtain ⟨t0, t1, t2⟩ := three6 qa; obtain ⟨j0, j1, j2, j3, j4⟩ := five qb; go_simp⟩) hHeld ?_
        simp only [Act.put, List.getElem_toArray, List.getElem_cons_succ, List.getElem_cons_zero, List.setIfInBounds_toArray, List.set_cons_zero, List.set_cons_succ]
        refine wpAnyH_take (i := 13) (v := .pointer (some ⟨lb, rk * 3, none⟩)) rfl (by kernel_rfl) (by kernel_rfl) (by kernel_rfl) (fun _ _ _ h => h) (Or.inl ⟨by rfl, fun w' hSw => by go_simp⟩) hHeld ?_
        simp only [Act.put, List.getElem_toArray, List.getElem_cons_succ, List.getElem_cons_zero, List.setIfInBounds_toArray, List.set_cons_zero, List.set_cons_succ]
        obtain ⟨⟨u0, z0⟩, ⟨u1, z1⟩, ⟨u2, z2⟩, z3, z4, z5⟩ := HGY.out.cells3 hrk
        have HG1 : Hid ((((Y0.setCell ⟨lb, rk * 3, none⟩ (.int .i64 kk)).setCell ⟨lb, rk * 3 + 1, none⟩ (.string dd)).setCell ⟨lb, rk * 3 + 2, none⟩ (.slice ta tn tc)).ownsRow W.heap.size 60 3 (.slice (some ⟨lb, 0, none⟩) n1 n1) n1 (flatS (gS m.slots (k + 1)) (gT m.slots val (k + 1))) ∧ Below W.heap.size W (((Y0.setCell ⟨lb, rk * 3, none⟩ (.int .i64 kk)).setCell ⟨lb, rk * 3 + 1, none⟩ (.string dd)).setCell ⟨lb, rk * 3 + 2, none⟩ (.slice ta tn tc))) := HGY.out.put HKp.out.1 HKp.out.2.1 HKp.out.2.2.1 HKp.out.2.2.2.1 HKp.out.2.2.2.2
        have kY1 : (((Y0.setCell ⟨lb, rk * 3, none⟩ (.int .i64 kk)).setCell ⟨lb, rk * 3 + 1, none⟩ (.string dd)).setCell ⟨lb, rk * 3 + 2, none⟩ (.slice ta tn tc)).heap[wr.heap.size]? = some (.cells #[.int .i64 kk, .string dd, .slice ta tn tc] 60) ∧ (((Y0.setCell ⟨lb, rk * 3, none⟩ (.int .i64 kk)).setCell ⟨lb, rk * 3 + 1, none⟩ (.string dd)).setCell ⟨lb, rk * 3 + 2, none⟩ (.slice ta tn tc)).heap[D]? = some (.cells #[.int .i64 m.guest, .slice ra m.root.length rc, .slice (some ⟨sb, 0, none⟩) m.slots.length sc, .slice (some ⟨fb, 0, none⟩) m.refs.length fc, .slice na m.snaps.length nc] 51) ∧ (((Y0.setCell ⟨lb, rk * 3, none⟩ (.int .i64 kk)).setCell ⟨lb, rk * 3 + 1, none⟩ (.string dd)).setCell ⟨lb, rk * 3 + 2, none⟩ (.slice ta tn tc)).cell? ⟨fb, k, none⟩ = some (.int .i64 fk) := ⟨(heap_three6 _ _ _ (fun e => HFr.out.1 e.symm)).trans kY.1, (heap_three6 _ _ _ (fun e => HFr.out.2.1 e.symm)).trans kY.2.1, (World.cell?_of_block (heap_three6 _ _ _ (fun e => HFr.out.2.2.1 e.symm))).trans kY.2.2⟩
        have HR1 : Hid ((((Y0.setCell ⟨lb, rk * 3, none⟩ (.int .i64 kk)).setCell ⟨lb, rk * 3 + 1, none⟩ (.string dd)).setCell ⟨lb, rk * 3 + 2, none⟩ (.slice ta tn tc)).ownsRow W.heap.size 3 1 (.slice (some ⟨rb, 0, none⟩) n1 n1) n1 (ints (gR m.slots m.refs k))) := row_blkP HGY.out.r (fun q e => heap_three6 _ _ _ (fun x => HGY.out.ne (by have e' : some rb = some q := e; have := Option.some.inj e'; have x : q = lb := x; omega)))
        refine wpAnyH_ready (rs := [14]) (by kernel_rfl) (by simp) ?_
        refine AllReadyH.cons rfl (fun K hK => ?_) AllReadyH.nil
        clear hHeld
        simp only [Act.put, List.getElem_toArray, List.getElem_cons_succ, List.getElem_cons_zero, List.setIfInBounds_toArray, List.set_cons_zero, List.set_cons_succ]
        rw [if_pos (by rfl)]
        go_simp
        obtain ⟨Y1, hY1⟩ : ∃ Y, Y = (((Y0.setCell ⟨lb, rk * 3, none⟩ (.int .i64 kk)).setCell ⟨lb, rk * 3 + 1, none⟩ (.string dd)).setCell ⟨lb, rk * 3 + 2, none⟩ (.slice ta tn tc)) := ⟨_, rfl⟩
        rw [← hY1] at HG1 kY1 HR1
        first | rw [← hY1] | skip
        clear hY1 z0 z1 z2 z3 z4 z5
        refine hK.out _ _ kY1 (fun hHeld => ?_)
        clear hK K
        try simp only [Act.put, List.getElem_toArray, List.getElem_cons_succ, List.getElem_cons_zero, List.setIfInBounds_toArray, List.set_cons_zero, List.set_cons_succ]
        have c5 : Y1.cell? ⟨rb, rk, none⟩ = (ints (gR m.slots m.refs k))[rk]? := HR1.out.cellAt rk (by omega)
        obtain ⟨uu, huu⟩ : ∃ u, (ints (gR m.slots m.refs k))[rk]? = some u := HGr.out
        rw [huu] at c5
        have f5 : Y1.frozen? ⟨rb, rk, none⟩ = false := HR1.out.frozenAt rk
        have HG2 : Hid (GaR W (Y1.setCell ⟨rb, rk, none⟩ (.int .i64 fk)) lb rb n1 m val (k + 1)) := GaR.last HG1.out.1 HG1.out.2 HR1.out HGY.out.ne HKp.out.1 HKp.out.2.1 HKp.out.2.2.1 HFk.out
        have kY2 : (Y1.setCell ⟨rb, rk, none⟩ (.int .i64 fk)).heap[wr.heap.size]? = some (.cells #[.int .i64 kk, .string dd, .slice ta tn tc] 60) ∧ (Y1.setCell ⟨rb, rk, none⟩ (.int .i64 fk)).heap[D]? = some (.cells #[.int .i64 m.guest, .slice ra m.root.length rc, .slice (some ⟨sb, 0, none⟩) m.slots.length sc, .slice (some ⟨fb, 0, none⟩) m.refs.length fc, .slice na m.snaps.length nc] 51) ∧ (Y1.setCell ⟨rb, rk, none⟩ (.int .i64 fk)).cell? ⟨fb, k, none⟩ = some (.int .i64 fk) := ⟨cells_other kY1.1 (fun e => HFr.out.2.2.2.1 e.symm) _ _, cells_other kY1.2.1 (fun e => HFr.out.2.2.2.2.1 e.symm) _ _, (World.cell?_of_block (Below.heap_setCell Y1 ⟨rb, rk, none⟩ _ fb (fun e => HFr.out.2.2.2.2.2 e.symm))).trans kY1.2.2⟩
        clear huu
        refine wpAnyH_take (i := 15) (v := .pointer (some ⟨rb, rk, none⟩)) rfl (by kernel_rfl) (by kernel_rfl) (by kernel_rfl) (fun _ _ _ h => h) (Or.inl ⟨by rfl, fun w' hSw => by go_simp⟩) hHeld ?_
        simp only [Act.put, List.getElem_toArray, List.getElem_cons_succ, List.getElem_cons_zero, List.setIfInBounds_toArray, List.set_cons_zero, List.set_cons_succ]
        refine wpAnyH_ready (rs := [16]) (by kernel_rfl) (by simp) ?_
        refine AllReadyH.cons rfl (fun K hK => ?_) AllReadyH.nil
        clear hHeld
        simp only [Act.put, List.getElem_toArray, List.getElem_cons_succ, List.getElem_cons_zero, List.setIfInBounds_toArray, List.set_cons_zero, List.set_cons_succ]
        rw [if_pos (by rfl)]
        go_simp
        refine hK.out _ _ kY2 (fun hHeld => ?_)
        clear hK K hHeld
        try simp only [Act.put, List.getElem_toArray, List.getElem_cons_succ, List.getElem_cons_zero, List.setIfInBounds_toArray, List.set_cons_zero, List.set_cons_succ]
        refine wpAnyH_done (by kernel_rfl) ?_ _
        go_wp2_with fail
        go_roundw
        case rel => exact ⟨k + 1, by omega, by go_num, HG2⟩
        case measure => first | (simp [intOf]; done) | (simp [intOf]; omega)
      · have hp : kept m.slots k = false := by simpa using hp
        have hlk := look_none (P := Try.prog) (w := wr.alloc (.cells #[.int .i64 kk, .string dd, .slice ta tn tc] 60)) 48 3 3 r (rnk m.slots m.slots.length) ((entK m.slots ((List.range m.slots.length).filter (kept m.slots))).toArray) (k : Int) (.int .i64 0) Try.underlying48 Try.underlying3 hma (by simpa using find_no (L := m.slots) (l := (List.range m.slots.length).filter (kept m.slots)) (k := (k : Int)) (fun j hj x => by have := (List.mem_filter.1 hj).2; have e : j = k := (by omega); rw [e, hp] at this; cases this) 0) (by kernel_rfl)
        have HG2 : Hid (GaR W (wr.alloc (.cells #[.int .i64 kk, .string dd, .slice ta tn tc] 60)) lb rb n1 m val (k + 1)) := by
          have := HC.out.below ((Below.refl _ _).alloc (Nat.le_refl _) (.cells #[.int .i64 kk, .string dd, .slice ta tn tc] 60))
          exact ⟨this.bel, by rw [gS_same hp, gT_same hp]; exact this.l, by rw [gR_same hp]; exact this.r, this.ne⟩
        clear hp g0 g1 g2 hss eq htn hma hmr
        go_wp2_with fail
        go_roundw
        case rel => exact ⟨k + 1, by omega, by go_num, HG2⟩
        case measure => first | (simp [intOf]; done) | (simp [intOf]; omega)
    · have e : k = m.slots.length := by omega
      subst e
      obtain ⟨d0, d1, d2, d3, d4⟩ := five hDr
      have ff0 := cells_frozen hDr 0; have ff1 := cells_frozen hDr 1; have ff2 := cells_frozen hDr 2; have ff3 := cells_frozen hDr 3; have ff4 := cells_frozen hDr 4
      clear hDr
      go_wp2_with fail
      go_end0
      have hl := HC.out.l
      have hr := HC.out.r
      rw [gS_end] at hl
      rw [gR_end] at hr
      refine ⟨rfl, _, DTo.gath HK.out.1 HK.out.2.1 HC.out.bel (lv := .slice (some ⟨lb, 0, none⟩) n1 n1) (rv := .slice (some ⟨rb, 0, none⟩) n1 n1) (by rw [HN1.out.1]; exact hl) (by rw [HN1.out.1]; exact hr) (fun g e x => HC.out.ne (by have e' : some lb = some g := e; have x' : some rb = some g := x; have := Option.some.inj e'; have := Option.some.inj x'; omega))⟩
end Go.Proofs.Ytehleeibgkpjmag
