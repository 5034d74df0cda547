/- Texts joined: WiW, Strs, PgPlain, WiR, WiE, WiF, WiG, WiH, WiB. -/
import Derived.Test.YtehleeibgkpjmagWireWritesJ5
import Derived.Test.YtehleeibgkpjmagWireWritesJ3
import Derived.Test.YtehleeibgkpjmagWireWritesJ1
import Derived.Lib.Strings
import Derived.Lib.Join
import Derived.Lib.Repeat
set_option linter.unusedVariables false
set_option linter.unusedSimpArgs false
/- The program's Write: images as bytes. -/
namespace Go.Proofs.Ytehleeibgkpjmag
open Go.RowKit Go.Shelf Go.Lib
set_option maxRecDepth 20000
set_option linter.unusedVariables false
set_option linter.unusedSimpArgs false

def bstr (l : List UInt8) : ByteArray := ⟨l.toArray⟩
def wiV (m : ImgD) : ByteArray := if checkE m = 0 then bstr (imgB m) else ⟨#[]⟩
theorem snapB_len {m : ImgD} (h : shapeE m = 0) {s : SnapD} (hs : s ∈ m.snaps) : (snapB s).length ≤ 14 := by
  obtain ⟨f1, f2, f3, f4⟩ := snap_fit h (s := s) (List.mem_cons_of_mem _ hs)
  have h8 := nm_size (shapeE_zero h).2.2.2.1 hs
  have : s.1.data.toList.length = s.1.size := rfl
  unfold snapB
  simp only [List.length_cons, List.length_append, List.length_map]
  omega
theorem slots_ok {m : ImgD} (h : shapeE m = 0) : m.slots.all okD = true := by
  have z2 := (shapeE_zero h).2.1
  unfold slotsE at z2
  rw [if_pos (slotsE_parts (shapeE_zero h).2.1)] at z2
  split at z2
  · rename_i hx; exact hx.1
  · simp at z2
theorem sl_lit2 {W : World} {q : Nat} {x y : Int} (h : W.heap[q]? = some (.cells #[.int .i64 x, .int .i64 y] 3)) : Sl W (.slice (some ⟨q, 0, none⟩) 2 2) [x, y] :=
  ⟨_, _, rfl, by unfold maxLen; simp, by simp, fun _ => ⟨q, 0, rfl, (Array.getElem?_eq_some_iff.1 h).1, fun j hj => by
    have hj : j < 2 := hj
    match j, hj with
    | 0, _ => simp [World.cell?, h]
    | 1, _ => simp [World.cell?, h]⟩⟩
theorem low_sl {w1 : World} {ra : Option Addr} {rc b off n c : Nat} {xs : List Int} (h : Sl w1 (.slice ra xs.length rc) xs) (hn : xs ≠ []) (e : Value.slice ra xs.length rc = .slice (some ⟨b, off, none⟩) n c) : b < w1.heap.size := by
  obtain ⟨ao, cap, e1, _, _, hc⟩ := h
  obtain ⟨b', off', e2, hlt, _⟩ := hc hn
  rw [e] at e1
  simp only [Value.slice.injEq] at e1
  rw [e2] at e1
  have := e1.1
  simp only [Option.some.injEq, Addr.mk.injEq] at this
  rw [this.1]; exact hlt
theorem conv_row {W : World} {B : Nat} {v : Value} {l : List UInt8} (h : W.ownsRow B 5 1 v l.length (bys l)) : (convert 68 9 v).run Try.prog W = .ok (.string (bstr l)) W := by
  rcases h.2 with ⟨e, hn⟩ | ⟨g, cap, cur, e, _, hg, _, _, _, ht⟩
  · subst e
    have := List.length_eq_zero_iff.1 hn
    subst this
    exact run_convert_nil_bytes W 68 9 5 0 Try.underlying68 (by kernel_rfl) (by kernel_rfl)
  · subst e
    refine run_convert_bytes_back W 68 9 5 ⟨g, 0, none⟩ cap l Try.underlying68 (by kernel_rfl) (by kernel_rfl) (fun j hj => ?_)
    have hr := h.cells (g := g) rfl j (.int .u8 (l[j].toNat : Int)) (by unfold bys; simp [hj])
    exact hr
theorem below_to {w1 wz wr : World} {D : Nat} (h : Below D w1 wz) (k : Below D wz wr) : Below D w1 wr := h.trans k
set_option maxHeartbeats 4000000 in
theorem wwr_bad (ra : Option Addr) (rc : Nat) (sa : Option Addr) (sc : Nat) (fa : Option Addr) (fc : Nat) (na : Option Addr) (nc : Nat) (m : ImgD) (w : World) (h : Img w (.agg #[.int .i64 m.guest, .slice ra m.root.length rc, .slice sa m.slots.length sc, .slice fa m.refs.length fc, .slice na m.snaps.length nc]) m) (E : Int) (hE : checkE m = E) (hne : (E != 0) = true) :
    Calls Try.prog 11 #[.agg #[.int .i64 m.guest, .slice ra m.root.length rc, .slice sa m.slots.length sc, .slice fa m.refs.length fc, .slice na m.snaps.length nc]] w fun r w' => r = .returned (.tuple #[.string ⟨#[]⟩, .int .i64 E]) ∧ Below w.heap.size w w' := by
  have b0 : Below w.heap.size w (w.alloc (.cells #[.int .i64 m.guest, .slice ra m.root.length rc, .slice sa m.slots.length sc, .slice fa m.refs.length fc, .slice na m.snaps.length nc] 26)) := (Below.refl _ _).alloc (Nat.le_refl _) _
  have m0 : (w.alloc (.cells #[.int .i64 m.guest, .slice ra m.root.length rc, .slice sa m.slots.length sc, .slice fa m.refs.length fc, .slice na m.snaps.length nc] 26)).heap[w.heap.size]? = some (.cells #[.int .i64 m.guest, .slice ra m.root.length rc, .slice sa m.slots.length sc, .slice fa m.refs.length fc, .slice na m.snaps.length nc] 26) := World.alloc_heap_new _ _
  have hck := tcheck_is (h.below b0) hE
  obtain ⟨c0, c1, c2, c3, c4⟩ := five m0
  have HB : Hid (Below w.heap.size w (w.alloc (.cells #[.int .i64 m.guest, .slice ra m.root.length rc, .slice sa m.slots.length sc, .slice fa m.refs.length fc, .slice na m.snaps.length nc] 26))) := b0
  clear h m0 b0 hE
  go_enter Try.func11, Try.ntmps11
  go_wp2_with (go_at_call 18; refine hck.mono ?_; rintro e w1 ⟨rfl, b1⟩; have HB1 : Hid (Below w.heap.size w w1) := Below.on HB.out b1; clear b1)
  go_ret2
  exact ⟨rfl, HB1.out⟩
set_option maxHeartbeats 16000000 in
theorem wwr_ok (ra : Option Addr) (rc : Nat) (sa : Option Addr) (sc : Nat) (fa : Option Addr) (fc : Nat) (na : Option Addr) (nc : Nat) (m : ImgD) (w : World) (h : Img w (.agg #[.int .i64 m.guest, .slice ra m.root.length rc, .slice sa m.slots.length sc, .slice fa m.refs.length fc, .slice na m.snaps.length nc]) m) (hC : checkE m = 0) :
    Calls Try.prog 11 #[.agg #[.int .i64 m.guest, .slice ra m.root.length rc, .slice sa m.slots.length sc, .slice fa m.refs.length fc, .slice na m.snaps.length nc]] w fun r w' => r = .returned (.tuple #[.string (bstr (imgB m)), .int .i64 0]) ∧ Below w.heap.size w w' := by
  have b0 : Below w.heap.size w (w.alloc (.cells #[.int .i64 m.guest, .slice ra m.root.length rc, .slice sa m.slots.length sc, .slice fa m.refs.length fc, .slice na m.snaps.length nc] 26)) := (Below.refl _ _).alloc (Nat.le_refl _) _
  have m0 : (w.alloc (.cells #[.int .i64 m.guest, .slice ra m.root.length rc, .slice sa m.slots.length sc, .slice fa m.refs.length fc, .slice na m.snaps.length nc] 26)).heap[w.heap.size]? = some (.cells #[.int .i64 m.guest, .slice ra m.root.length rc, .slice sa m.slots.length sc, .slice fa m.refs.length fc, .slice na m.snaps.length nc] 26) := World.alloc_heap_new _ _
  have hck := tcheck_is (h.below b0) hC
  have hs := checkE_shape hC
  have h40 := (slotsE_parts (shapeE_zero hs).2.1).2
  have hn3 := (shapeE_zero hs).1
  have hgt := guest_ok hs
  have hrt := root_ok hs
  have hr4 : m.root.length ≤ 4 := by omega
  have HP : Hid (checkE m = 0 ∧ shapeE m = 0) := ⟨hC, hs⟩
  have HOk : Hid (m.slots.all okD = true) := slots_ok hs
  obtain ⟨c0, c1, c2, c3, c4⟩ := five m0
  have HM : Hid ((w.alloc (.cells #[.int .i64 m.guest, .slice ra m.root.length rc, .slice sa m.slots.length sc, .slice fa m.refs.length fc, .slice na m.snaps.length nc] 26)).heap[w.heap.size]? = some (.cells #[.int .i64 m.guest, .slice ra m.root.length rc, .slice sa m.slots.length sc, .slice fa m.refs.length fc, .slice na m.snaps.length nc] 26) ∧ Below w.heap.size w (w.alloc (.cells #[.int .i64 m.guest, .slice ra m.root.length rc, .slice sa m.slots.length sc, .slice fa m.refs.length fc, .slice na m.snaps.length nc] 26)) ∧ Img (w.alloc (.cells #[.int .i64 m.guest, .slice ra m.root.length rc, .slice sa m.slots.length sc, .slice fa m.refs.length fc, .slice na m.snaps.length nc] 26)) (.agg #[.int .i64 m.guest, .slice ra m.root.length rc, .slice sa m.slots.length sc, .slice fa m.refs.length fc, .slice na m.snaps.length nc]) m) := ⟨m0, b0, h.below b0⟩
  clear h m0 b0 hC hs hgt hrt
  go_enter Try.func11, Try.ntmps11
  go_wp2_with (go_at_call 18; refine hck.mono ?_; rintro e w1 ⟨rfl, b1⟩; have k1 := cells_below HM.out.1 b1 (by simp); obtain ⟨d0, d1, d2, d3, d4⟩ := five k1; have l1 := cells_alloc k1 (.cells #[.slice none 0 0] 70); obtain ⟨f0, f1, f2, f3, f4⟩ := five l1)
  clear c0 c1 c2 c3 c4 d0 d1 d2 d3 d4 f0 f1 f2 f3 f4 hck
  have hsz1 : w.heap.size < w1.heap.size := by have := b1.size; simp at this; omega
  have HI : Hid (Img w1 (.agg #[.int .i64 m.guest, .slice ra m.root.length rc, .slice sa m.slots.length sc, .slice fa m.refs.length fc, .slice na m.snaps.length nc]) m) := HM.out.2.2.below b1
  have HD : Hid (w.heap.size < w1.heap.size ∧ Below w1.heap.size w1 (w1.alloc (.cells #[.slice none 0 0] 70))) := ⟨hsz1, (Below.refl _ _).alloc (Nat.le_refl _) _⟩
  have HW : Hid (Below w.heap.size w w1 ∧ w1.heap[w.heap.size]? = some (.cells #[.int .i64 m.guest, .slice ra m.root.length rc, .slice sa m.slots.length sc, .slice fa m.refs.length fc, .slice na m.snaps.length nc] 26)) := ⟨Below.on HM.out.2.1 b1, k1⟩
  have Sz : WrS (w1.alloc (.cells #[.slice none 0 0] 70)) w1.heap.size (.slice none 0 0) [] := ⟨World.alloc_heap_new _ _, World.ownsRow_nil _ _ _ _⟩
  have S0 := Sz.alloc (.cells #[.int .i64 m.guest, .int .i64 (m.slots.length : Int)] 3)
  have nb0 : ((w1.alloc (.cells #[.slice none 0 0] 70)).alloc (.cells #[.int .i64 m.guest, .int .i64 (m.slots.length : Int)] 3)).heap[w1.heap.size + 1]? = some (.cells #[.int .i64 m.guest, .int .i64 (m.slots.length : Int)] 3) := by have := World.alloc_heap_new (w1.alloc (.cells #[.slice none 0 0] 70)) (.cells #[.int .i64 m.guest, .int .i64 (m.slots.length : Int)] 3); simpa using this
  have hx0 := sl_lit2 nb0
  have HPt : Hid (Calls Try.prog 35 #[.pointer (some ⟨w1.heap.size, 0, none⟩), .slice (some ⟨w1.heap.size + 1, 0, none⟩) 2 2] ((w1.alloc (.cells #[.slice none 0 0] 70)).alloc (.cells #[.int .i64 m.guest, .int .i64 (m.slots.length : Int)] 3)) fun r W' => r = .returned (.tuple #[]) ∧ ∃ ov', WrS W' w1.heap.size ov' (by8 m.guest :: by8 (m.slots.length : Int) :: []) ∧ WrK ((w1.alloc (.cells #[.slice none 0 0] 70)).alloc (.cells #[.int .i64 m.guest, .int .i64 (m.slots.length : Int)] 3)) W' w1.heap.size) := wput_is S0 hx0 (fun b off n c _ e => by simp only [Value.slice.injEq, Option.some.injEq, Addr.mk.injEq] at e; obtain ⟨⟨rfl, _⟩, _⟩ := e; exact safe_ty nb0 (by omega) (by decide)) (by simp) rfl
  have HBz : Hid ((w1.alloc (.cells #[.slice none 0 0] 70)).heap[w.heap.size]? = some (.cells #[.int .i64 m.guest, .slice ra m.root.length rc, .slice sa m.slots.length sc, .slice fa m.refs.length fc, .slice na m.snaps.length nc] 26)) := l1
  clear S0 nb0 hx0 Sz l1 k1 b1
  refine HPt.out.mono ?_
  rintro e w2 ⟨rfl, ov2, S2, K2⟩
  have Kz2 : WrK (w1.alloc (.cells #[.slice none 0 0] 70)) w2 w1.heap.size := (WrK.alloc (WrK.refl _ _) _).trans K2
  have b2 : w2.heap[w.heap.size]? = some (.cells #[.int .i64 m.guest, .slice ra m.root.length rc, .slice sa m.slots.length sc, .slice fa m.refs.length fc, .slice na m.snaps.length nc] 26) := (Kz2.keep _ (by simp; omega) (.inl HD.out.1)).trans HBz.out
  have HA0 : Hid (∃ ov, WrS w2 w1.heap.size ov ((by8 m.guest :: by8 (m.slots.length : Int) :: []) ++ (m.slots.take 0).flatMap slotB) ∧ WrK (w1.alloc (.cells #[.slice none 0 0] 70)) w2 w1.heap.size) := ⟨ov2, by simpa using S2, Kz2⟩
  clear S2 K2 Kz2
  obtain ⟨g0, g1, g2, g3, g4⟩ := five b2
  clear b2
  go_wp2_with fail
  go_loopw [7, 25] (fun _ i wr => ∃ k : Nat, k ≤ m.slots.length ∧ i = .int .i64 k ∧ Hid (∃ ov, WrS wr w1.heap.size ov ((by8 m.guest :: by8 (m.slots.length : Int) :: []) ++ (m.slots.take k).flatMap slotB) ∧ WrK (w1.alloc (.cells #[.slice none 0 0] 70)) wr w1.heap.size)) (fun _ i _ => m.slots.length - (intOf i).toNat)
  case atStart => exact ⟨0, Nat.zero_le _, rfl, HA0⟩
  case round =>
    obtain ⟨k, hk, rfl, HC⟩ := hrel
    by_cases hlk : k < m.slots.length
    · have hki : (k : Int) < (m.slots.length : Int) := by omega
      obtain ⟨ov, hS, hK⟩ := HC.out
      have hbw : Below w1.heap.size w1 wr := below_to HD.out.2 (hK.below (Nat.le_refl w1.heap.size) (by simp))
      obtain ⟨sb, so, sc', e, _, hbl, hps⟩ := HI.out.four.2.1.open (by omega)
      simp only [Value.slice.injEq] at e
      obtain ⟨rfl, _, rfl⟩ := e
      obtain ⟨tv, p0, p1, p2, ps⟩ := hps k hlk
      obtain ⟨⟨kk, dd, es⟩, hsk⟩ : ∃ s, m.slots[k] = s := ⟨_, rfl⟩
      rw [hsk] at p0 p1 ps
      have ps : Sl w1 tv es := ps
      obtain ⟨ta, tc, rfl⟩ := ps.form
      have q0 : wr.cell? ⟨sb, so + k * 3, none⟩ = some (.int .i64 kk) := (hbw.cell (p := ⟨sb, so + k * 3, none⟩) hbl).trans p0
      have q1 : wr.cell? ⟨sb, so + k * 3 + 1, none⟩ = some (.string dd) := (hbw.cell (p := ⟨sb, so + k * 3 + 1, none⟩) hbl).trans p1
      have q2 : wr.cell? ⟨sb, so + k * 3 + 1 + 1, none⟩ = some (.slice ta es.length tc) := (hbw.cell (p := ⟨sb, so + k * 3 + 1 + 1, none⟩) hbl).trans p2
      have qs := ps.below hbw
      have hlow : ∀ b off, es ≠ [] → ta = some ⟨b, off, none⟩ → b < w1.heap.size := fun b off hn e => low_sl ps hn (by rw [e])
      have hb1 : (((by8 m.guest :: by8 (m.slots.length : Int) :: []) ++ (m.slots.take k).flatMap slotB)).length ≤ 1000 := by
        have := flatB_len (c := 9) (B := slotB) (m.slots.take k) (fun s hs => slotB_len (List.all_eq_true.1 HOk.out s (List.mem_of_mem_take hs)))
        simp only [List.length_append, List.length_cons, List.length_nil, List.length_take] at this ⊢
        have : 9 * min k m.slots.length ≤ 360 := by omega
        omega
      have hb2 : dd.size + es.length ≤ 100 := by
        have hmem : (kk, dd, es) ∈ m.slots := by rw [← hsk]; exact List.getElem_mem _
        have := slotB_len (List.all_eq_true.1 HOk.out (kk, dd, es) hmem)
        unfold slotB at this
        simp only [List.length_cons, List.length_append, List.length_map] at this
        have e : dd.data.toList.length = dd.size := rfl
        omega
      have HN0 : Hid (((by8 m.guest :: by8 (m.slots.length : Int) :: []) ++ (m.slots.take (k + 1)).flatMap slotB) = ((by8 m.guest :: by8 (m.slots.length : Int) :: []) ++ (m.slots.take k).flatMap slotB) ++ slotB (kk, dd, es)) := by
        show _ = _
        rw [show m.slots.take (k + 1) = m.slots.take k ++ [m.slots[k]] from (List.take_append_getElem hlk).symm, List.flatMap_append, hsk]
        simp
      have hDw := hS.lt
      have HCl : Hid (Calls Try.prog 36 #[.pointer (some ⟨w1.heap.size, 0, none⟩), .agg #[.int .i64 kk, .string dd, .slice ta es.length tc]] (wr.alloc (.cells #[.int .i64 kk, .string dd, .slice ta es.length tc] 60)) fun r W' => r = .returned (.tuple #[]) ∧ ∃ ov', WrS W' w1.heap.size ov' (((by8 m.guest :: by8 (m.slots.length : Int) :: []) ++ (m.slots.take k).flatMap slotB) ++ slotB (kk, dd, es)) ∧ WrK (wr.alloc (.cells #[.int .i64 kk, .string dd, .slice ta es.length tc] 60)) W' w1.heap.size) := wslot_at w1.heap.size kk dd ta tc es _ ov _ (hS.alloc _) (qs.past _) (fun b off hn e => ⟨.inl (hlow b off hn e), by have := hlow b off hn e; simp; omega⟩) (by omega)
      have HK : Hid (WrK (w1.alloc (.cells #[.slice none 0 0] 70)) wr w1.heap.size) := hK
      clear hps hsk qs hS hK HC hbw hb1 hb2 hlow p0 p1 p2 ps hbl
      have hbox : (wr.alloc (.cells #[.int .i64 kk, .string dd, .slice ta es.length tc] 60)).heap[wr.heap.size]? = some (.cells #[.int .i64 kk, .string dd, .slice ta es.length tc] 60) := World.alloc_heap_new _ _
      obtain ⟨x0, x1, x2⟩ := three hbox
      clear hbox
      go_wp2_with (go_at_call 36; refine HCl.out.mono ?_; rintro e9 w9 ⟨rfl, ov9, S9, K9⟩; have HN : Hid (∃ ov, WrS w9 w1.heap.size ov ((by8 m.guest :: by8 (m.slots.length : Int) :: []) ++ (m.slots.take (k + 1)).flatMap slotB) ∧ WrK (w1.alloc (.cells #[.slice none 0 0] 70)) w9 w1.heap.size) := (by rw [HN0.out]; exact ⟨ov9, S9, (HK.out.alloc _).trans K9⟩); clear S9 K9)
      go_roundw
      case rel => exact ⟨k + 1, by omega, by go_num, HN⟩
      case measure => simp [intOf]; omega
    · have ek : k = m.slots.length := by omega
      have hki : ¬ (k : Int) < (m.slots.length : Int) := by omega
      clear g0 g1 g2 g3 g4 HA0
      obtain ⟨ov, hS, hK⟩ := HC.out
      rw [ek, List.take_length] at hS
      have HEk : Hid (k = m.slots.length) := ek
      clear ek
      obtain ⟨w3, hrn⟩ : ∃ X, X = wr := ⟨_, rfl⟩
      subst hrn
      have b3 : w3.heap[w.heap.size]? = some (.cells #[.int .i64 m.guest, .slice ra m.root.length rc, .slice sa m.slots.length sc, .slice fa m.refs.length fc, .slice na m.snaps.length nc] 26) := (hK.keep _ (by simp; omega) (.inl HD.out.1)).trans HBz.out
      have hDr := hS.lt
      have b3' := cells_alloc b3 (.cells #[.int .i64 (m.snaps.length : Int)] 3)
      have S3 := hS.alloc (.cells #[.int .i64 (m.snaps.length : Int)] 3)
      have nb3 : (w3.alloc (.cells #[.int .i64 (m.snaps.length : Int)] 3)).heap[w3.heap.size]? = some (.cells #[.int .i64 (m.snaps.length : Int)] 3) := World.alloc_heap_new _ _
      have hx3 := sl_lit nb3
      have hlen : ((by8 m.guest :: by8 (m.slots.length : Int) :: []) ++ m.slots.flatMap slotB).length ≤ 1000 := by
        have := flatB_len (c := 9) (B := slotB) m.slots (fun s hs => slotB_len (List.all_eq_true.1 HOk.out s hs))
        simp only [List.length_append, List.length_cons, List.length_nil]
        omega
      have HPn : Hid (Calls Try.prog 35 #[.pointer (some ⟨w1.heap.size, 0, none⟩), .slice (some ⟨w3.heap.size, 0, none⟩) 1 1] (w3.alloc (.cells #[.int .i64 (m.snaps.length : Int)] 3)) fun r W' => r = .returned (.tuple #[]) ∧ ∃ ov', WrS W' w1.heap.size ov' ((by8 m.guest :: by8 (m.slots.length : Int) :: []) ++ m.slots.flatMap slotB ++ [by8 (m.snaps.length : Int)]) ∧ WrK (w3.alloc (.cells #[.int .i64 (m.snaps.length : Int)] 3)) W' w1.heap.size) := wput_is S3 hx3 (fun b off n c _ e => by simp only [Value.slice.injEq, Option.some.injEq, Addr.mk.injEq] at e; obtain ⟨⟨rfl, _⟩, _⟩ := e; exact safe_ty nb3 (by omega) (by decide)) (by simp only [List.length_singleton]; omega) rfl
      have HK3 : Hid (WrK (w1.alloc (.cells #[.slice none 0 0] 70)) w3 w1.heap.size) := hK
      obtain ⟨g0, g1, g2, g3, g4⟩ := five b3
      obtain ⟨j0, j1, j2, j3, j4⟩ := five b3'
      clear S3 nb3 hx3 hS hK HC b3 b3' hlen
      go_wp2_with fail
      refine HPn.out.mono ?_
      rintro e w4 ⟨rfl, ov4, S4, K4⟩
      have Kz4 : WrK (w1.alloc (.cells #[.slice none 0 0] 70)) w4 w1.heap.size := (HK3.out.alloc _).trans K4
      have b4 : w4.heap[w.heap.size]? = some (.cells #[.int .i64 m.guest, .slice ra m.root.length rc, .slice sa m.slots.length sc, .slice fa m.refs.length fc, .slice na m.snaps.length nc] 26) := (Kz4.keep _ (by simp; omega) (.inl HD.out.1)).trans HBz.out
      have HB0 : Hid (∃ ov, WrS w4 w1.heap.size ov (((by8 m.guest :: by8 (m.slots.length : Int) :: []) ++ m.slots.flatMap slotB ++ [by8 (m.snaps.length : Int)]) ++ (m.snaps.take 0).flatMap snapB) ∧ WrK (w1.alloc (.cells #[.slice none 0 0] 70)) w4 w1.heap.size) := ⟨ov4, by simpa using S4, Kz4⟩
      clear S4 K4 Kz4 g0 g1 g2 g3 g4 j0 j1 j2 j3 j4 HPn HK3
      obtain ⟨g0, g1, g2, g3, g4⟩ := five b4
      clear hki hlk hk b4 HEk
      go_wp2_with fail
      go_loopw [9, 40] (fun _ i wr => ∃ k : Nat, k ≤ m.snaps.length ∧ i = .int .i64 k ∧ Hid (∃ ov, WrS wr w1.heap.size ov (((by8 m.guest :: by8 (m.slots.length : Int) :: []) ++ m.slots.flatMap slotB ++ [by8 (m.snaps.length : Int)]) ++ (m.snaps.take k).flatMap snapB) ∧ WrK (w1.alloc (.cells #[.slice none 0 0] 70)) wr w1.heap.size)) (fun _ i _ => m.snaps.length - (intOf i).toNat)
      case atStart => exact ⟨0, Nat.zero_le _, rfl, HB0⟩
      case round =>
        obtain ⟨k, hk, rfl, HC⟩ := hrel
        by_cases hlk : k < m.snaps.length
        · have hki : (k : Int) < (m.snaps.length : Int) := by omega
          obtain ⟨ov, hS, hK⟩ := HC.out
          have hbw : Below w1.heap.size w1 wr := below_to HD.out.2 (hK.below (Nat.le_refl w1.heap.size) (by simp))
          obtain ⟨sb, so, sc', e, _, hbl, hps⟩ := HI.out.four.2.2.2.open (by omega)
          simp only [Value.slice.injEq] at e
          obtain ⟨rfl, _, rfl⟩ := e
          obtain ⟨tv, p0, p1, p2, ps⟩ := hps k hlk
          obtain ⟨⟨dd, kk, es⟩, hsk⟩ : ∃ s, m.snaps[k] = s := ⟨_, rfl⟩
          rw [hsk] at p0 p1 ps
          have ps : Sl w1 tv es := ps
          obtain ⟨ta, tc, rfl⟩ := ps.form
          have q0 : wr.cell? ⟨sb, so + k * 3, none⟩ = some (.string dd) := (hbw.cell (p := ⟨sb, so + k * 3, none⟩) hbl).trans p0
          have q1 : wr.cell? ⟨sb, so + k * 3 + 1, none⟩ = some (.int .i64 kk) := (hbw.cell (p := ⟨sb, so + k * 3 + 1, none⟩) hbl).trans p1
          have q2 : wr.cell? ⟨sb, so + k * 3 + 1 + 1, none⟩ = some (.slice ta es.length tc) := (hbw.cell (p := ⟨sb, so + k * 3 + 1 + 1, none⟩) hbl).trans p2
          have qs := ps.below hbw
          have hlow : ∀ b off, es ≠ [] → ta = some ⟨b, off, none⟩ → b < w1.heap.size := fun b off hn e => low_sl ps hn (by rw [e])
          have hb1 : ((((by8 m.guest :: by8 (m.slots.length : Int) :: []) ++ m.slots.flatMap slotB ++ [by8 (m.snaps.length : Int)]) ++ (m.snaps.take k).flatMap snapB)).length ≤ 1000 := by
            have h1 := flatB_len (c := 9) (B := slotB) m.slots (fun s hs => slotB_len (List.all_eq_true.1 HOk.out s hs))
            have h2 := flatB_len (c := 14) (B := snapB) (m.snaps.take k) (fun s hs => snapB_len HP.out.2 (List.mem_of_mem_take hs))
            simp only [List.length_append, List.length_cons, List.length_nil, List.length_take] at h2 ⊢
            have : 14 * min k m.snaps.length ≤ 42 := by omega
            omega
          have hb2 : dd.size + es.length ≤ 100 := by
            have hmem : (dd, kk, es) ∈ m.snaps := by rw [← hsk]; exact List.getElem_mem _
            obtain ⟨f1, f2, f3, f4⟩ := snap_fit HP.out.2 (s := (dd, kk, es)) (List.mem_cons_of_mem _ hmem)
            have f2 : kk ≤ 16 := f2
            have f3 : (es.length : Int) = (kk + 3) / 4 := f3
            have h8 : dd.size ≤ 8 := nm_size (shapeE_zero HP.out.2).2.2.2.1 hmem
            omega
          have HN0 : Hid ((((by8 m.guest :: by8 (m.slots.length : Int) :: []) ++ m.slots.flatMap slotB ++ [by8 (m.snaps.length : Int)]) ++ (m.snaps.take (k + 1)).flatMap snapB) = (((by8 m.guest :: by8 (m.slots.length : Int) :: []) ++ m.slots.flatMap slotB ++ [by8 (m.snaps.length : Int)]) ++ (m.snaps.take k).flatMap snapB) ++ snapB (dd, kk, es)) := by
            show _ = _
            rw [show m.snaps.take (k + 1) = m.snaps.take k ++ [m.snaps[k]] from (List.take_append_getElem hlk).symm, List.flatMap_append, hsk]
            simp
          have hDw := hS.lt
          have HCl : Hid (Calls Try.prog 37 #[.pointer (some ⟨w1.heap.size, 0, none⟩), .agg #[.string dd, .int .i64 kk, .slice ta es.length tc]] (wr.alloc (.cells #[.string dd, .int .i64 kk, .slice ta es.length tc] 74)) fun r W' => r = .returned (.tuple #[]) ∧ ∃ ov', WrS W' w1.heap.size ov' ((((by8 m.guest :: by8 (m.slots.length : Int) :: []) ++ m.slots.flatMap slotB ++ [by8 (m.snaps.length : Int)]) ++ (m.snaps.take k).flatMap snapB) ++ snapB (dd, kk, es)) ∧ WrK (wr.alloc (.cells #[.string dd, .int .i64 kk, .slice ta es.length tc] 74)) W' w1.heap.size) := wsnap_at w1.heap.size kk dd ta tc es _ ov _ (hS.alloc _) (qs.past _) (fun b off hn e => ⟨.inl (hlow b off hn e), by have := hlow b off hn e; simp; omega⟩) (by omega)
          have HK : Hid (WrK (w1.alloc (.cells #[.slice none 0 0] 70)) wr w1.heap.size) := hK
          clear hps hsk qs hS hK HC hbw hb1 hb2 hlow p0 p1 p2 ps hbl
          have hbox : (wr.alloc (.cells #[.string dd, .int .i64 kk, .slice ta es.length tc] 74)).heap[wr.heap.size]? = some (.cells #[.string dd, .int .i64 kk, .slice ta es.length tc] 74) := World.alloc_heap_new _ _
          obtain ⟨x0, x1, x2⟩ := three hbox
          clear hbox
          go_wp2_with (go_at_call 37; refine HCl.out.mono ?_; rintro e9 w9 ⟨rfl, ov9, S9, K9⟩; have HN : Hid (∃ ov, WrS w9 w1.heap.size ov (((by8 m.guest :: by8 (m.slots.length : Int) :: []) ++ m.slots.flatMap slotB ++ [by8 (m.snaps.length : Int)]) ++ (m.snaps.take (k + 1)).flatMap snapB) ∧ WrK (w1.alloc (.cells #[.slice none 0 0] 70)) w9 w1.heap.size) := (by rw [HN0.out]; exact ⟨ov9, S9, (HK.out.alloc _).trans K9⟩); clear S9 K9)
          go_roundw
          case rel => exact ⟨k + 1, by omega, by go_num, HN⟩
          case measure => simp [intOf]; omega
        · have ek : k = m.snaps.length := by omega
          have hki : ¬ (k : Int) < (m.snaps.length : Int) := by omega
          clear g0 g1 g2 g3 g4 HB0
          obtain ⟨ov, hS, hK⟩ := HC.out
          rw [ek, List.take_length] at hS
          clear ek
          obtain ⟨w5, hrn⟩ : ∃ X, X = wr := ⟨_, rfl⟩
          subst hrn
          have b5 : w5.heap[w.heap.size]? = some (.cells #[.int .i64 m.guest, .slice ra m.root.length rc, .slice sa m.slots.length sc, .slice fa m.refs.length fc, .slice na m.snaps.length nc] 26) := (hK.keep _ (by simp; omega) (.inl HD.out.1)).trans HBz.out
          have hIw := HI.out.below (show Below w1.heap.size w1 w5 from below_to HD.out.2 (hK.below (Nat.le_refl w1.heap.size) (by simp)))
          have hlow : ∀ b off n c, m.root ≠ [] → Value.slice ra m.root.length rc = .slice (some ⟨b, off, none⟩) n c → SafeB w5 w1.heap.size b := fun b off n c hn e => .inl (low_sl HI.out.four.1 hn e)
          have hlen : (((by8 m.guest :: by8 (m.slots.length : Int) :: []) ++ m.slots.flatMap slotB ++ [by8 (m.snaps.length : Int)]) ++ m.snaps.flatMap snapB).length ≤ 1000 := by
            have h1 := flatB_len (c := 9) (B := slotB) m.slots (fun s hs => slotB_len (List.all_eq_true.1 HOk.out s hs))
            have h2 := flatB_len (c := 14) (B := snapB) m.snaps (fun s hs => snapB_len HP.out.2 hs)
            simp only [List.length_append, List.length_cons, List.length_nil]
            omega
          have HPr : Hid (Calls Try.prog 35 #[.pointer (some ⟨w1.heap.size, 0, none⟩), .slice ra m.root.length rc] w5 fun r W' => r = .returned (.tuple #[]) ∧ ∃ ov', WrS W' w1.heap.size ov' (imgB m) ∧ WrK w5 W' w1.heap.size) := wput_is hS hIw.four.1 hlow (by omega) (by unfold imgB; simp)
          have HK5 : Hid (WrK (w1.alloc (.cells #[.slice none 0 0] 70)) w5 w1.heap.size) := hK
          obtain ⟨g0, g1, g2, g3, g4⟩ := five b5
          clear hS hK HC b5 hIw hlow hlen
          go_wp2_with fail
          refine HPr.out.mono ?_
          rintro e w6 ⟨rfl, ov6, S6, K6⟩
          clear g0 g1 g2 g3 g4
          have cD : w6.cell? ⟨w1.heap.size, 0, none⟩ = some ov6 := by simp [World.cell?, S6.box]
          have hcv : (convert 68 9 ov6).run Try.prog w6 = .ok (.string (bstr (imgB m))) w6 := conv_row S6.row
          have HB : Hid (Below w.heap.size w w6) := HW.out.1.trans ((below_to HD.out.2 ((HK5.out.trans K6).below (Nat.le_refl w1.heap.size) (by simp))).mono (by have := HD.out.1; omega))
          clear S6 K6 HPr
          go_wp2_with fail
          go_ret2
          exact ⟨rfl, HB.out⟩
theorem wwr_is {w : World} {v : Value} {m : ImgD} (h : Img w v m) {S : ByteArray} {E : Int} (hS : wiV m = S) (hE : checkE m = E) :
    Calls Try.prog 11 #[v] w fun r w' => r = .returned (.tuple #[.string S, .int .i64 E]) ∧ Below w.heap.size w w' := by
  have h' := h
  obtain ⟨ra, rc, sa, sc, fa, fc, na, nc, rfl, _⟩ := h.parts
  subst hS
  by_cases hC : checkE m = 0
  · rw [hC] at hE
    subst hE
    unfold wiV
    rw [if_pos hC]
    exact wwr_ok ra rc sa sc fa fc na nc m w h' hC
  · unfold wiV
    rw [if_neg hC]
    exact wwr_bad ra rc sa sc fa fc na nc m w h' E hE (by rw [← hE]; simpa using hC)
end Go.Proofs.Ytehleeibgkpjmag
/- Slices of strings: what it means that a slice value holds them in a world. -/
namespace Go.Proofs.Ytehleeibgkpjmag
open Go.RowKit
set_option maxRecDepth 20000

def Ss (w : World) (v : Value) (xs : List ByteArray) : Prop :=
  ∃ ao cap, v = .slice ao xs.length cap ∧ xs.length ≤ maxLen ∧ xs.length ≤ cap ∧ (xs ≠ [] → ∃ b off, ao = some ⟨b, off, none⟩ ∧ b < w.heap.size ∧ ∀ j, j < xs.length → w.cell? ⟨b, off + j, none⟩ = some (.string (xs.getD j ByteArray.empty)))

theorem Ss.below {w w1 : World} {v : Value} {xs : List ByteArray} (h : Ss w v xs) (hb : Below w.heap.size w w1) : Ss w1 v xs := by
  obtain ⟨ao, cap, hv, hm, hcp, hc⟩ := h
  refine ⟨ao, cap, hv, hm, hcp, fun hne => ?_⟩
  obtain ⟨b, off, ha, hlt, hcell⟩ := hc hne
  exact ⟨b, off, ha, Nat.lt_of_lt_of_le hlt hb.size, fun j hj => (hb.cell (p := ⟨b, off + j, none⟩) hlt).trans (hcell j hj)⟩

theorem Ss.nil (w : World) : Ss w (.slice none 0 0) [] := ⟨none, 0, rfl, Nat.zero_le _, Nat.zero_le _, fun h => absurd rfl h⟩

theorem Ss.cells {w : World} {ao : Option Addr} {n cap : Nat} {xs : List ByteArray} (h : Ss w (.slice ao n cap) xs) :
    xs.length = n ∧ n ≤ 9223372036854775807 ∧ n ≤ cap ∧ ∀ j, j < n → ∃ b off, ao = some ⟨b, off, none⟩ ∧ b < w.heap.size ∧ w.cell? ⟨b, off + j, none⟩ = some (.string (xs.getD j ByteArray.empty)) := by
  obtain ⟨ao', cap', hv, hm, hcp, hc⟩ := h
  simp only [Value.slice.injEq] at hv
  obtain ⟨rfl, rfl, rfl⟩ := hv
  unfold maxLen at hm
  refine ⟨rfl, by omega, hcp, fun j hj => ?_⟩
  obtain ⟨b, off, rfl, hlt, hcell⟩ := hc (by intro e; rw [e] at hj; simp at hj)
  exact ⟨b, off, rfl, hlt, hcell j hj⟩

theorem Ss.form {w : World} {v : Value} {xs : List ByteArray} (h : Ss w v xs) : ∃ ao cap, v = .slice ao xs.length cap := by
  obtain ⟨ao, cap, hv, _⟩ := h; exact ⟨ao, cap, hv⟩

theorem Ss.at {w : World} {ao : Option Addr} {n cap : Nat} {xs : List ByteArray} (h : Ss w (.slice ao n cap) xs) (hpos : 0 < n) :
    ∃ b off, ao = some ⟨b, off, none⟩ ∧ b < w.heap.size ∧ ∀ j, j < n → w.cell? ⟨b, off + j, none⟩ = some (.string (xs.getD j ByteArray.empty)) := by
  obtain ⟨ao', cap', hv, hm, hcp, hc⟩ := h
  simp only [Value.slice.injEq] at hv
  obtain ⟨rfl, rfl, rfl⟩ := hv
  exact hc (by intro e; rw [e] at hpos; simp at hpos)

theorem Ss.past {w : World} {v : Value} {xs : List ByteArray} (h : Ss w v xs) (o : Obj) : Ss (w.alloc o) v xs := h.below ((Below.refl _ _).alloc (Nat.le_refl _) o)


end Go.Proofs.Ytehleeibgkpjmag
/- Pages, plainly: which pages some bytes are, and what is joined; lists of bytes alone. -/
namespace Go.Proofs.Ytehleeibgkpjmag
open Go.RowKit
set_option maxRecDepth 20000

def bytes (s : ByteArray) : List UInt8 := s.data.toList
theorem bytes_extract (s : ByteArray) (a b : Nat) : bytes (s.extract a b) = ((bytes s).drop a).take (b - a) := Lib.extract_data s a b

end Go.Proofs.Ytehleeibgkpjmag
/- The program's reader: text, number. -/
namespace Go.Proofs.Ytehleeibgkpjmag
open Go.RowKit Go.Shelf Go.Lib
set_option maxRecDepth 20000
set_option linter.unusedVariables false
set_option linter.unusedSimpArgs false

abbrev wrongP : List PanicEntry := [{ v := .iface 110 (.agg #[]), recovered := false }]
theorem bstr_bytes (u : ByteArray) : bstr (bytes u) = u := by
  unfold bstr bytes
  cases u
  simp
theorem bytes_bstr (l : List UInt8) : bytes (bstr l) = l := by unfold bstr bytes; simp
theorem bstr_size (l : List UInt8) : (bstr l).size = l.length := by unfold bstr; simp [ByteArray.size]
theorem bstr_take (l : List UInt8) (n : Nat) : (bstr l).extract 0 n = bstr (l.take n) := by
  rw [← bstr_bytes ((bstr l).extract 0 n), bytes_extract, bytes_bstr]
  simp
theorem bstr_drop (l : List UInt8) (n : Nat) : (bstr l).extract n (bstr l).size = bstr (l.drop n) := by
  rw [← bstr_bytes ((bstr l).extract n (bstr l).size), bytes_extract, bytes_bstr, bstr_size]
  rw [List.take_of_length_le (by simp)]
set_option maxHeartbeats 1000000 in
theorem rtext_ok (R n : Nat) (l : List UInt8) (W : World) (hb : W.heap[R]? = some (.cells #[.string (bstr (l))] 112)) (hn : n ≤ l.length) (hm : l.length ≤ 4096) :
    Calls Try.prog 104 #[.pointer (some ⟨R, 0, none⟩), .int .i64 (n : Int)] W fun r W' => r = .returned (.string (bstr (l.take n))) ∧ W' = W.setCell ⟨R, 0, none⟩ (.string (bstr (l.drop n))) := by
  have c0 : W.cell? ⟨R, 0, none⟩ = some (.string (bstr l)) := by simp [World.cell?, hb]
  have f0 := cells_frozen hb 0
  have ht := bstr_take l n
  have hd := bstr_drop l n
  obtain ⟨u, hu⟩ : ∃ u, bstr l = u := ⟨_, rfl⟩
  have hsz : u.size = l.length := by rw [← hu, bstr_size]
  rw [hu] at c0 ht hd
  have h1 : n ≤ u.size := by omega
  have h2 : (n : Int) ≤ (u.size : Int) := by omega
  have h3 : ¬ (u.size : Int) < (n : Int) := by omega
  have h4 : u.size ≤ 4096 := by omega
  have HT : Hid (u.extract 0 n = bstr (l.take n) ∧ u.extract n u.size = bstr (l.drop n)) := ⟨ht, hd⟩
  clear ht hd hu hsz hb hm hn
  go_enter Try.func104, Try.ntmps104
  go_wp2
  go_ret
  exact ⟨by rw [← HT.out.1]; rfl, by rw [← HT.out.2]⟩
theorem rtext_bad (R n : Nat) (l : List UInt8) (W : World) (hb : W.heap[R]? = some (.cells #[.string (bstr (l))] 112)) (hn : l.length < n) (hm : l.length ≤ 4096) :
    Calls Try.prog 104 #[.pointer (some ⟨R, 0, none⟩), .int .i64 (n : Int)] W fun r W' => r = .panicked wrongP ∧ W' = W := by
  have c0 : W.cell? ⟨R, 0, none⟩ = some (.string (bstr l)) := by simp [World.cell?, hb]
  have f0 := cells_frozen hb 0
  obtain ⟨u, hu⟩ : ∃ u, bstr l = u := ⟨_, rfl⟩
  have hsz : u.size = l.length := by rw [← hu, bstr_size]
  rw [hu] at c0
  have h2 : (u.size : Int) < (n : Int) := by omega
  have h4 : u.size ≤ 4096 := by omega
  clear hu hsz hb hm hn
  go_enter Try.func104, Try.ntmps104
  go_wp2
  exact ⟨rfl, rfl, rfl⟩
theorem rnum_ok (R : Nat) (a : UInt8) (l : List UInt8) (W : World) (hb : W.heap[R]? = some (.cells #[.string (bstr (a :: l))] 112)) (hm : l.length < 4096) :
    Calls Try.prog 90 #[.pointer (some ⟨R, 0, none⟩)] W fun r W' => r = .returned (.int .i64 (a.toNat : Int)) ∧ W' = W.setCell ⟨R, 0, none⟩ (.string (bstr l)) := by
  have hc := rtext_ok R 1 (a :: l) W hb (by simp) (by simp; omega)
  have ha : a.toNat < 256 := a.toNat_lt
  have hs1 : 0 < (bstr [a]).size := by rw [bstr_size]; simp
  have hs2 : (0 : Int) < ((bstr [a]).size : Int) := by omega
  go_enter Try.func90, Try.ntmps90
  go_wp2_with (go_at_call 104; refine hc.mono ?_; rintro e w1 ⟨rfl, hw⟩; rw [hw]; clear hw)
  go_ret
  exact ⟨ret_int (by show wrap64 (a.toNat : Int) = (a.toNat : Int); unfold wrap64; omega), rfl⟩
theorem rnum_bad (R : Nat) (W : World) (hb : W.heap[R]? = some (.cells #[.string (bstr ([]))] 112)) :
    Calls Try.prog 90 #[.pointer (some ⟨R, 0, none⟩)] W fun r W' => r = .panicked wrongP ∧ W' = W := by
  have hc := rtext_bad R 1 [] W hb (by simp) (by simp)
  go_enter Try.func90, Try.ntmps90
  go_wp2_with (go_at_call 104; refine hc.mono ?_; rintro e w1 ⟨rfl, hw⟩; rw [hw]; clear hw)
  exact ⟨rfl, rfl, rfl⟩
end Go.Proofs.Ytehleeibgkpjmag
/- The program's reader: entries, root. -/
namespace Go.Proofs.Ytehleeibgkpjmag
open Go.RowKit Go.Shelf Go.Lib
set_option maxRecDepth 20000
set_option linter.unusedVariables false
set_option linter.unusedSimpArgs false

theorem mk_intsR (n : Nat) (hn : n ≤ 1000) (W : World) : (Instr.makeSlice 22 (.int .i64 (n : Int)) (.int .i64 (n : Int))).run Try.prog W = .ok (.slice (some ⟨W.heap.size, 0, none⟩) n n) (W.alloc (.cells ((List.replicate n (0 : Int)).map (Value.int .i64)).toArray 3)) := by
  have hi := info3
  cases h : Try.prog.info? 3 with
  | none => rw [h] at hi; cases hi
  | some i =>
    rw [h] at hi
    simp at hi
    have := run_make (P := Try.prog) W 22 3 i (.int .i64 0) Try.underlying22 h hi.1 .i64 .i64 n n (by omega) (by omega) (by rw [hi.2.2]; omega) (by omega)
    rw [this, hi.2.1]
    have e : madeCells (Value.int .i64 0).cells (((n : Int)).toNat * 1) = ((List.replicate n (0 : Int)).map (Value.int .i64)).toArray := by
      apply Array.ext
      · simp [madeCells]
      · intro j h1 h2
        simp [madeCells, Value.cells, Nat.mod_one]
    rw [e]
    simp


structure RdT (W X : World) (R : Nat) (l : List UInt8) : Prop where
  os : X.os = W.os
  tape : X.tape = W.tape
  output : X.output = W.output
  size : W.heap.size ≤ X.heap.size
  keep : ∀ q, q < W.heap.size → q ≠ R → X.heap[q]? = W.heap[q]?
  box : X.heap[R]? = some (.cells #[.string (bstr (l))] 112)
theorem RdT.refl {W : World} {R : Nat} {l : List UInt8} (h : W.heap[R]? = some (.cells #[.string (bstr (l))] 112)) : RdT W W R l := ⟨rfl, rfl, rfl, Nat.le_refl _, fun _ _ _ => rfl, h⟩
theorem RdT.lt {W X : World} {R : Nat} {l : List UInt8} (h : RdT W X R l) : R < X.heap.size := (Array.getElem?_eq_some_iff.1 h.box).1
theorem RdT.trans {W X Y : World} {R : Nat} {l l' : List UInt8} (h : RdT W X R l) (k : RdT X Y R l') : RdT W Y R l' := ⟨k.os.trans h.os, k.tape.trans h.tape, k.output.trans h.output, Nat.le_trans h.size k.size, fun q hq hn => (k.keep q (Nat.lt_of_lt_of_le hq h.size) hn).trans (h.keep q hq hn), k.box⟩
theorem RdT.alloc {W X : World} {R : Nat} {l : List UInt8} (h : RdT W X R l) (o : Obj) : RdT W (X.alloc o) R l := ⟨h.os, h.tape, h.output, Nat.le_trans h.size (by simp), fun q hq hn => (Below.heap_alloc _ _ q (Nat.lt_of_lt_of_le hq h.size)).trans (h.keep q hq hn), cells_alloc h.box _⟩
theorem RdT.set {W X : World} {R : Nat} {l : List UInt8} (h : RdT W X R l) (l' : List UInt8) : RdT W (X.setCell ⟨R, 0, none⟩ (.string (bstr l'))) R l' := ⟨h.os, h.tape, h.output, Nat.le_trans h.size (by simp), fun q hq hn => (Below.heap_setCell _ ⟨R, 0, none⟩ _ q hn).trans (h.keep q hq hn), cells_set h.box 0 _⟩
theorem RdT.other {W X : World} {R g i : Nat} {l : List UInt8} (h : RdT W X R l) (hg : W.heap.size ≤ g) (hR : R < W.heap.size) (v : Value) : RdT W (X.setCell ⟨g, i, none⟩ v) R l := ⟨h.os, h.tape, h.output, Nat.le_trans h.size (by simp), fun q hq hn => (Below.heap_setCell _ ⟨g, i, none⟩ _ q (by show q ≠ g; omega)).trans (h.keep q hq hn), (Below.heap_setCell _ ⟨g, i, none⟩ _ R (by show R ≠ g; omega)).trans h.box⟩
end Go.Proofs.Ytehleeibgkpjmag
/- The program's reader: entries. -/
namespace Go.Proofs.Ytehleeibgkpjmag
open Go.RowKit Go.Shelf Go.Lib
set_option maxRecDepth 20000
set_option linter.unusedVariables false
set_option linter.unusedSimpArgs false

theorem setN_nextW {α : Type} (A : List α) (z x : α) (n : Nat) : (A ++ List.replicate (n + 1) z).set A.length x = A ++ x :: List.replicate n z := by
  rw [List.set_append_right _ _ (Nat.le_refl _), Nat.sub_self]
  rfl
theorem setTwice (C : Array Value) (k : Nat) (x y : Value) : (C.setIfInBounds k x).setIfInBounds k y = C.setIfInBounds k y := by
  apply Array.ext'
  simp

set_option maxHeartbeats 4000000 in
theorem rents_ok (R n : Nat) (l : List UInt8) (W : World) (hb : W.heap[R]? = some (.cells #[.string (bstr (l))] 112)) (hn : n ≤ l.length) (hn9 : n ≤ 1000) (hm : l.length ≤ 4096) :
    Calls Try.prog 105 #[.pointer (some ⟨R, 0, none⟩), .int .i64 (n : Int)] W fun r W' => r = .returned (.slice (some ⟨W.heap.size, 0, none⟩) n n) ∧ RdT W W' R (l.drop n) ∧ W'.heap[W.heap.size]? = some (.cells (ints ((l.take n).map eInt)).toArray 3) := by
  have hR : R < W.heap.size := (Array.getElem?_eq_some_iff.1 hb).1
  have hmk : ∀ W, (Instr.makeSlice 22 (.int .i64 (n : Int)) (.int .i64 (n : Int))).run Try.prog W = .ok (.slice (some ⟨W.heap.size, 0, none⟩) n n) (W.alloc (.cells (ints ((l.take 0).map eInt) ++ List.replicate (n - 0) (Value.int .i64 0)).toArray 3)) := fun W => by
    have := mk_intsR n hn9 W
    have e : (ints ((l.take 0).map eInt) ++ List.replicate (n - 0) (Value.int .i64 0)).toArray = ((List.replicate n (0 : Int)).map (Value.int .i64)).toArray := by simp [ints]
    rw [e]; exact this
  have H0 : Hid (RdT W (W.alloc (.cells (ints ((l.take 0).map eInt) ++ List.replicate (n - 0) (Value.int .i64 0)).toArray 3)) R (l.drop 0) ∧ (W.alloc (.cells (ints ((l.take 0).map eInt) ++ List.replicate (n - 0) (Value.int .i64 0)).toArray 3)).heap[W.heap.size]? = some (.cells (ints ((l.take 0).map eInt) ++ List.replicate (n - 0) (Value.int .i64 0)).toArray 3)) := ⟨(RdT.refl hb).alloc _, World.alloc_heap_new _ _⟩
  obtain ⟨C0, hC0⟩ : ∃ X, (ints ((l.take 0).map eInt) ++ List.replicate (n - 0) (Value.int .i64 0)).toArray = X := ⟨_, rfl⟩
  rw [hC0] at hmk
  have HC0 : Hid ((ints ((l.take 0).map eInt) ++ List.replicate (n - 0) (Value.int .i64 0)).toArray = C0) := hC0
  clear hb hC0
  go_enter Try.func105, Try.ntmps105
  go_wp2_with fail
  clear hmk
  go_loopw [6, 11] (fun _ i wr => ∃ k : Nat, k ≤ n ∧ i = .int .i64 k ∧ Hid (RdT W wr R (l.drop k) ∧ wr.heap[W.heap.size]? = some (.cells (ints ((l.take k).map eInt) ++ List.replicate (n - k) (Value.int .i64 0)).toArray 3))) (fun _ i _ => n - (intOf i).toNat)
  case atStart => exact ⟨0, Nat.zero_le _, rfl, by have h0 := H0.out; rw [HC0.out] at h0; rw [HC0.out]; exact h0⟩
  case round =>
    obtain ⟨k, hk, rfl, HC⟩ := hrel
    by_cases hlk : k < n
    · have hki : (k : Int) < (n : Int) := by omega
      have hkl : k < l.length := by omega
      have hcons := List.drop_eq_getElem_cons hkl
      obtain ⟨a, ha⟩ : ∃ x, l[k] = x := ⟨_, rfl⟩
      have HN1 : Hid ((l.take (k + 1)).map eInt = (l.take k).map eInt ++ [eInt a]) := by
        show _ = _
        rw [show l.take (k + 1) = l.take k ++ [l[k]] from (List.take_append_getElem hkl).symm, List.map_append, ha]
        rfl
      rw [ha] at hcons
      have hT := HC.out.1
      rw [hcons] at hT
      have hg := HC.out.2
      have HCl : Hid (Calls Try.prog 90 #[.pointer (some ⟨R, 0, none⟩)] wr fun r W' => r = .returned (.int .i64 (a.toNat : Int)) ∧ W' = wr.setCell ⟨R, 0, none⟩ (.string (bstr (l.drop (k + 1))))) := rnum_ok R a (l.drop (k + 1)) wr hT.box (by rw [List.length_drop]; omega)
      have HT : Hid (RdT W wr R (a :: l.drop (k + 1)) ∧ wr.heap[W.heap.size]? = some (.cells (ints ((l.take k).map eInt) ++ List.replicate (n - k) (Value.int .i64 0)).toArray 3)) := ⟨hT, hg⟩
      have hsz := hT.size
      have ne1 : ¬ W.heap.size = R := by omega
      have ne2 : ¬ R = W.heap.size := by omega
      have hlen : (ints ((l.take k).map eInt)).length = k := by rw [ints_length, List.length_map, List.length_take]; omega
      have hck : ((ints ((l.take k).map eInt) ++ List.replicate (n - k) (Value.int .i64 0)).toArray)[k]? = some (.int .i64 0) := by
        rw [List.getElem?_toArray, List.getElem?_append_right (by omega), hlen, Nat.sub_self, List.getElem?_replicate, if_pos (by omega)]
      have hst : ∀ v, (ints ((l.take k).map eInt) ++ List.replicate (n - k) (Value.int .i64 0)).set k v = ints ((l.take k).map eInt) ++ v :: List.replicate (n - (k + 1)) (Value.int .i64 0) := fun v => by
        rw [show n - k = n - (k + 1) + 1 by omega]
        have := setN_nextW (ints ((l.take k).map eInt)) (Value.int .i64 0) v (n - (k + 1))
        rw [hlen] at this
        exact this
      obtain ⟨C, hC⟩ : ∃ X, (ints ((l.take k).map eInt) ++ List.replicate (n - k) (Value.int .i64 0)).toArray = X := ⟨_, rfl⟩
      have HCs : Hid (∀ v, C.setIfInBounds k v = (ints ((l.take k).map eInt) ++ v :: List.replicate (n - (k + 1)) (Value.int .i64 0)).toArray) := fun v => by rw [← hC, List.setIfInBounds_toArray, hst]
      rw [hC] at hg hck HT
      have ck : wr.cell? ⟨W.heap.size, k, none⟩ = some (.int .i64 0) := by simp [World.cell?, hg, hck]
      have fk : wr.frozen? ⟨W.heap.size, k, none⟩ = false := cells_frozen hg k
      have ck1 : ∀ v, (wr.setCell ⟨R, 0, none⟩ v).cell? ⟨W.heap.size, k, none⟩ = some (.int .i64 0) := fun v => (World.cell?_of_block (a := ⟨W.heap.size, k, none⟩) (Below.heap_setCell _ ⟨R, 0, none⟩ v W.heap.size ne1)).trans ck
      clear hT hcons ha hst hC hlen hck hg HC
      have HEn : ∀ x : Int, eInt a = x → Hid (RdT W (((wr.setCell ⟨R, 0, none⟩ (.string (bstr (l.drop (k + 1))))).setCell ⟨W.heap.size, k, none⟩ (.int .i64 x))) R (l.drop (k + 1)) ∧ ((wr.setCell ⟨R, 0, none⟩ (.string (bstr (l.drop (k + 1))))).setCell ⟨W.heap.size, k, none⟩ (.int .i64 x)).heap[W.heap.size]? = some (.cells (ints ((l.take (k + 1)).map eInt) ++ List.replicate (n - (k + 1)) (Value.int .i64 0)).toArray 3)) := fun x hx => by
        refine ⟨(HT.out.1.set _).other (Nat.le_refl _) hR _, ?_⟩
        have h1 := cells_set ((Below.heap_setCell wr ⟨R, 0, none⟩ (.string (bstr (l.drop (k + 1)))) W.heap.size ne1).trans HT.out.2) k (.int .i64 x)
        rw [h1, HCs.out, HN1.out, hx]
        simp [ints]
      have HEm : eInt a = -1 → Hid (RdT W ((((wr.setCell ⟨R, 0, none⟩ (.string (bstr (l.drop (k + 1))))).setCell ⟨W.heap.size, k, none⟩ (.int .i64 (a.toNat : Int))).setCell ⟨W.heap.size, k, none⟩ (.int .i64 (-1)))) R (l.drop (k + 1)) ∧ (((wr.setCell ⟨R, 0, none⟩ (.string (bstr (l.drop (k + 1))))).setCell ⟨W.heap.size, k, none⟩ (.int .i64 (a.toNat : Int))).setCell ⟨W.heap.size, k, none⟩ (.int .i64 (-1))).heap[W.heap.size]? = some (.cells (ints ((l.take (k + 1)).map eInt) ++ List.replicate (n - (k + 1)) (Value.int .i64 0)).toArray 3)) := fun hx => by
        refine ⟨((HT.out.1.set _).other (Nat.le_refl _) hR _).other (Nat.le_refl _) hR _, ?_⟩
        have h1 := cells_set ((Below.heap_setCell wr ⟨R, 0, none⟩ (.string (bstr (l.drop (k + 1)))) W.heap.size ne1).trans HT.out.2) k (.int .i64 (a.toNat : Int))
        have h2 := cells_set h1 k (.int .i64 (-1))
        rw [h2, setTwice, HCs.out, HN1.out, hx]
        simp [ints]
      have HE : Hid ((∀ x : Int, eInt a = x → Hid (RdT W (((wr.setCell ⟨R, 0, none⟩ (.string (bstr (l.drop (k + 1))))).setCell ⟨W.heap.size, k, none⟩ (.int .i64 x))) R (l.drop (k + 1)) ∧ ((wr.setCell ⟨R, 0, none⟩ (.string (bstr (l.drop (k + 1))))).setCell ⟨W.heap.size, k, none⟩ (.int .i64 x)).heap[W.heap.size]? = some (.cells (ints ((l.take (k + 1)).map eInt) ++ List.replicate (n - (k + 1)) (Value.int .i64 0)).toArray 3)))) := HEn
      have HE2 : Hid (eInt a = -1 → Hid (RdT W ((((wr.setCell ⟨R, 0, none⟩ (.string (bstr (l.drop (k + 1))))).setCell ⟨W.heap.size, k, none⟩ (.int .i64 (a.toNat : Int))).setCell ⟨W.heap.size, k, none⟩ (.int .i64 (-1)))) R (l.drop (k + 1)) ∧ (((wr.setCell ⟨R, 0, none⟩ (.string (bstr (l.drop (k + 1))))).setCell ⟨W.heap.size, k, none⟩ (.int .i64 (a.toNat : Int))).setCell ⟨W.heap.size, k, none⟩ (.int .i64 (-1))).heap[W.heap.size]? = some (.cells (ints ((l.take (k + 1)).map eInt) ++ List.replicate (n - (k + 1)) (Value.int .i64 0)).toArray 3))) := HEm
      clear HEn HEm
      rcases Bool.eq_false_or_eq_true ((a.toNat : Int) == 255) with h5 | h5
      · have HF : Hid (eInt a = -1) := by show eInt a = -1; unfold eInt; rw [if_pos (by have := beq_iff_eq.1 h5; omega)]
        go_wp2_with (go_at_call 90; refine HCl.out.mono ?_; rintro e9 w9 ⟨rfl, hw⟩; rw [hw]; clear hw)
        go_roundw
        case rel => exact ⟨k + 1, by omega, by go_num, HE2.out HF.out⟩
        case measure => simp [intOf]; omega
      · have HF : Hid (eInt a = (a.toNat : Int)) := by show eInt a = _; unfold eInt; rw [if_neg (by have := beq_eq_false_iff_ne.1 h5; omega)]
        go_wp2_with (go_at_call 90; refine HCl.out.mono ?_; rintro e9 w9 ⟨rfl, hw⟩; rw [hw]; clear hw)
        go_roundw
        case rel => exact ⟨k + 1, by omega, by go_num, HE.out _ HF.out⟩
        case measure => simp [intOf]; omega
    · have hki : ¬ (k : Int) < (n : Int) := by omega
      have HE : Hid (RdT W wr R (l.drop n) ∧ wr.heap[W.heap.size]? = some (.cells (ints ((l.take n).map eInt)).toArray 3)) := by
        have ek : k = n := by omega
        subst ek
        refine ⟨HC.out.1, ?_⟩
        have := HC.out.2
        rw [Nat.sub_self] at this
        simpa using this
      clear HC
      go_wp2_with fail
      go_ret
      exact ⟨rfl, HE.out.1, by rw [← List.map_take]; exact HE.out.2⟩

set_option maxHeartbeats 4000000 in
theorem rents_bad (R n : Nat) (l : List UInt8) (W : World) (hb : W.heap[R]? = some (.cells #[.string (bstr (l))] 112)) (hn : l.length < n) (hn9 : n ≤ 1000) (hm : l.length ≤ 4096) :
    Calls Try.prog 105 #[.pointer (some ⟨R, 0, none⟩), .int .i64 (n : Int)] W fun r W' => r = .panicked wrongP ∧ RdT W W' R [] := by
  have hR : R < W.heap.size := (Array.getElem?_eq_some_iff.1 hb).1
  have hmk : ∀ W, (Instr.makeSlice 22 (.int .i64 (n : Int)) (.int .i64 (n : Int))).run Try.prog W = .ok (.slice (some ⟨W.heap.size, 0, none⟩) n n) (W.alloc (.cells (ints ((l.take 0).map eInt) ++ List.replicate (n - 0) (Value.int .i64 0)).toArray 3)) := fun W => by
    have := mk_intsR n hn9 W
    have e : (ints ((l.take 0).map eInt) ++ List.replicate (n - 0) (Value.int .i64 0)).toArray = ((List.replicate n (0 : Int)).map (Value.int .i64)).toArray := by simp [ints]
    rw [e]; exact this
  have H0 : Hid (RdT W (W.alloc (.cells (ints ((l.take 0).map eInt) ++ List.replicate (n - 0) (Value.int .i64 0)).toArray 3)) R (l.drop 0) ∧ (W.alloc (.cells (ints ((l.take 0).map eInt) ++ List.replicate (n - 0) (Value.int .i64 0)).toArray 3)).heap[W.heap.size]? = some (.cells (ints ((l.take 0).map eInt) ++ List.replicate (n - 0) (Value.int .i64 0)).toArray 3)) := ⟨(RdT.refl hb).alloc _, World.alloc_heap_new _ _⟩
  obtain ⟨C0, hC0⟩ : ∃ X, (ints ((l.take 0).map eInt) ++ List.replicate (n - 0) (Value.int .i64 0)).toArray = X := ⟨_, rfl⟩
  rw [hC0] at hmk
  have HC0 : Hid ((ints ((l.take 0).map eInt) ++ List.replicate (n - 0) (Value.int .i64 0)).toArray = C0) := hC0
  clear hb hC0
  go_enter Try.func105, Try.ntmps105
  go_wp2_with fail
  clear hmk
  go_loopw [6, 11] (fun _ i wr => ∃ k : Nat, k ≤ l.length ∧ i = .int .i64 k ∧ Hid (RdT W wr R (l.drop k) ∧ wr.heap[W.heap.size]? = some (.cells (ints ((l.take k).map eInt) ++ List.replicate (n - k) (Value.int .i64 0)).toArray 3))) (fun _ i _ => n - (intOf i).toNat)
  case atStart => exact ⟨0, Nat.zero_le _, rfl, by have h0 := H0.out; rw [HC0.out] at h0; rw [HC0.out]; exact h0⟩
  case round =>
    obtain ⟨k, hk, rfl, HC⟩ := hrel
    by_cases hlk : k < l.length
    · have hki : (k : Int) < (n : Int) := by omega
      have hkl : k < l.length := by omega
      have hcons := List.drop_eq_getElem_cons hkl
      obtain ⟨a, ha⟩ : ∃ x, l[k] = x := ⟨_, rfl⟩
      have HN1 : Hid ((l.take (k + 1)).map eInt = (l.take k).map eInt ++ [eInt a]) := by
        show _ = _
        rw [show l.take (k + 1) = l.take k ++ [l[k]] from (List.take_append_getElem hkl).symm, List.map_append, ha]
        rfl
      rw [ha] at hcons
      have hT := HC.out.1
      rw [hcons] at hT
      have hg := HC.out.2
      have HCl : Hid (Calls Try.prog 90 #[.pointer (some ⟨R, 0, none⟩)] wr fun r W' => r = .returned (.int .i64 (a.toNat : Int)) ∧ W' = wr.setCell ⟨R, 0, none⟩ (.string (bstr (l.drop (k + 1))))) := rnum_ok R a (l.drop (k + 1)) wr hT.box (by rw [List.length_drop]; omega)
      have HT : Hid (RdT W wr R (a :: l.drop (k + 1)) ∧ wr.heap[W.heap.size]? = some (.cells (ints ((l.take k).map eInt) ++ List.replicate (n - k) (Value.int .i64 0)).toArray 3)) := ⟨hT, hg⟩
      have hsz := hT.size
      have ne1 : ¬ W.heap.size = R := by omega
      have ne2 : ¬ R = W.heap.size := by omega
      have hlen : (ints ((l.take k).map eInt)).length = k := by rw [ints_length, List.length_map, List.length_take]; omega
      have hck : ((ints ((l.take k).map eInt) ++ List.replicate (n - k) (Value.int .i64 0)).toArray)[k]? = some (.int .i64 0) := by
        rw [List.getElem?_toArray, List.getElem?_append_right (by omega), hlen, Nat.sub_self, List.getElem?_replicate, if_pos (by omega)]
      have hst : ∀ v, (ints ((l.take k).map eInt) ++ List.replicate (n - k) (Value.int .i64 0)).set k v = ints ((l.take k).map eInt) ++ v :: List.replicate (n - (k + 1)) (Value.int .i64 0) := fun v => by
        rw [show n - k = n - (k + 1) + 1 by omega]
        have := setN_nextW (ints ((l.take k).map eInt)) (Value.int .i64 0) v (n - (k + 1))
        rw [hlen] at this
        exact this
      obtain ⟨C, hC⟩ : ∃ X, (ints ((l.take k).map eInt) ++ List.replicate (n - k) (Value.int .i64 0)).toArray = X := ⟨_, rfl⟩
      have HCs : Hid (∀ v, C.setIfInBounds k v = (ints ((l.take k).map eInt) ++ v :: List.replicate (n - (k + 1)) (Value.int .i64 0)).toArray) := fun v => by rw [← hC, List.setIfInBounds_toArray, hst]
      rw [hC] at hg hck HT
      have ck : wr.cell? ⟨W.heap.size, k, none⟩ = some (.int .i64 0) := by simp [World.cell?, hg, hck]
      have fk : wr.frozen? ⟨W.heap.size, k, none⟩ = false := cells_frozen hg k
      have ck1 : ∀ v, (wr.setCell ⟨R, 0, none⟩ v).cell? ⟨W.heap.size, k, none⟩ = some (.int .i64 0) := fun v => (World.cell?_of_block (a := ⟨W.heap.size, k, none⟩) (Below.heap_setCell _ ⟨R, 0, none⟩ v W.heap.size ne1)).trans ck
      clear hT hcons ha hst hC hlen hck hg HC
      have HEn : ∀ x : Int, eInt a = x → Hid (RdT W (((wr.setCell ⟨R, 0, none⟩ (.string (bstr (l.drop (k + 1))))).setCell ⟨W.heap.size, k, none⟩ (.int .i64 x))) R (l.drop (k + 1)) ∧ ((wr.setCell ⟨R, 0, none⟩ (.string (bstr (l.drop (k + 1))))).setCell ⟨W.heap.size, k, none⟩ (.int .i64 x)).heap[W.heap.size]? = some (.cells (ints ((l.take (k + 1)).map eInt) ++ List.replicate (n - (k + 1)) (Value.int .i64 0)).toArray 3)) := fun x hx => by
        refine ⟨(HT.out.1.set _).other (Nat.le_refl _) hR _, ?_⟩
        have h1 := cells_set ((Below.heap_setCell wr ⟨R, 0, none⟩ (.string (bstr (l.drop (k + 1)))) W.heap.size ne1).trans HT.out.2) k (.int .i64 x)
        rw [h1, HCs.out, HN1.out, hx]
        simp [ints]
      have HEm : eInt a = -1 → Hid (RdT W ((((wr.setCell ⟨R, 0, none⟩ (.string (bstr (l.drop (k + 1))))).setCell ⟨W.heap.size, k, none⟩ (.int .i64 (a.toNat : Int))).setCell ⟨W.heap.size, k, none⟩ (.int .i64 (-1)))) R (l.drop (k + 1)) ∧ (((wr.setCell ⟨R, 0, none⟩ (.string (bstr (l.drop (k + 1))))).setCell ⟨W.heap.size, k, none⟩ (.int .i64 (a.toNat : Int))).setCell ⟨W.heap.size, k, none⟩ (.int .i64 (-1))).heap[W.heap.size]? = some (.cells (ints ((l.take (k + 1)).map eInt) ++ List.replicate (n - (k + 1)) (Value.int .i64 0)).toArray 3)) := fun hx => by
        refine ⟨((HT.out.1.set _).other (Nat.le_refl _) hR _).other (Nat.le_refl _) hR _, ?_⟩
        have h1 := cells_set ((Below.heap_setCell wr ⟨R, 0, none⟩ (.string (bstr (l.drop (k + 1)))) W.heap.size ne1).trans HT.out.2) k (.int .i64 (a.toNat : Int))
        have h2 := cells_set h1 k (.int .i64 (-1))
        rw [h2, setTwice, HCs.out, HN1.out, hx]
        simp [ints]
      have HE : Hid ((∀ x : Int, eInt a = x → Hid (RdT W (((wr.setCell ⟨R, 0, none⟩ (.string (bstr (l.drop (k + 1))))).setCell ⟨W.heap.size, k, none⟩ (.int .i64 x))) R (l.drop (k + 1)) ∧ ((wr.setCell ⟨R, 0, none⟩ (.string (bstr (l.drop (k + 1))))).setCell ⟨W.heap.size, k, none⟩ (.int .i64 x)).heap[W.heap.size]? = some (.cells (ints ((l.take (k + 1)).map eInt) ++ List.replicate (n - (k + 1)) (Value.int .i64 0)).toArray 3)))) := HEn
      have HE2 : Hid (eInt a = -1 → Hid (RdT W ((((wr.setCell ⟨R, 0, none⟩ (.string (bstr (l.drop (k + 1))))).setCell ⟨W.heap.size, k, none⟩ (.int .i64 (a.toNat : Int))).setCell ⟨W.heap.size, k, none⟩ (.int .i64 (-1)))) R (l.drop (k + 1)) ∧ (((wr.setCell ⟨R, 0, none⟩ (.string (bstr (l.drop (k + 1))))).setCell ⟨W.heap.size, k, none⟩ (.int .i64 (a.toNat : Int))).setCell ⟨W.heap.size, k, none⟩ (.int .i64 (-1))).heap[W.heap.size]? = some (.cells (ints ((l.take (k + 1)).map eInt) ++ List.replicate (n - (k + 1)) (Value.int .i64 0)).toArray 3))) := HEm
      clear HEn HEm
      rcases Bool.eq_false_or_eq_true ((a.toNat : Int) == 255) with h5 | h5
      · have HF : Hid (eInt a = -1) := by show eInt a = -1; unfold eInt; rw [if_pos (by have := beq_iff_eq.1 h5; omega)]
        go_wp2_with (go_at_call 90; refine HCl.out.mono ?_; rintro e9 w9 ⟨rfl, hw⟩; rw [hw]; clear hw)
        go_roundw
        case rel => exact ⟨k + 1, by omega, by go_num, HE2.out HF.out⟩
        case measure => simp [intOf]; omega
      · have HF : Hid (eInt a = (a.toNat : Int)) := by show eInt a = _; unfold eInt; rw [if_neg (by have := beq_eq_false_iff_ne.1 h5; omega)]
        go_wp2_with (go_at_call 90; refine HCl.out.mono ?_; rintro e9 w9 ⟨rfl, hw⟩; rw [hw]; clear hw)
        go_roundw
        case rel => exact ⟨k + 1, by omega, by go_num, HE.out _ HF.out⟩
        case measure => simp [intOf]; omega
    · have ek : k = l.length := by omega
      have hki : (k : Int) < (n : Int) := by omega
      have hdk : l.drop k = [] := by rw [ek, List.drop_length]
      have hT := HC.out.1
      rw [hdk] at hT
      have HCl : Hid (Calls Try.prog 90 #[.pointer (some ⟨R, 0, none⟩)] wr fun r W' => r = .panicked wrongP ∧ W' = wr) := rnum_bad R wr hT.box
      have HT : Hid (RdT W wr R []) := hT
      clear hT hdk ek
      go_wp2_with (go_at_call 90; refine HCl.out.mono ?_; rintro e9 w9 ⟨rfl, hw⟩; rw [hw]; clear hw)
      exact ⟨rfl, rfl, HT.out⟩

end Go.Proofs.Ytehleeibgkpjmag
/- The program's reader: slot. -/
namespace Go.Proofs.Ytehleeibgkpjmag
open Go.RowKit Go.Shelf Go.Lib
set_option maxRecDepth 20000
set_option linter.unusedVariables false
set_option linter.unusedSimpArgs false

theorem Hid_mkG {p : Prop} (h : p) : Hid p := h
theorem row_newG {W : World} {B g : Nat} {xs : List Int} (hB : B ≤ g) (hm : xs.length ≤ 4096) (h : W.heap[g]? = some (.cells (ints xs).toArray 3)) : W.ownsRow B 3 1 (.slice (some ⟨g, 0, none⟩) xs.length xs.length) xs.length (ints xs) :=
  ⟨by rw [ints_length, Nat.mul_one], .inr ⟨g, xs.length, _, rfl, hB, h, Nat.le_refl _, by unfold maxLen; omega, by simp [ints_length], by rw [Nat.mul_one]; exact List.take_of_length_le (by rw [ints_length]; exact Nat.le_refl _)⟩⟩
theorem row_new4 {W : World} {B g : Nat} {l : List UInt8} (hB : B ≤ g) (h4 : 4 ≤ l.length) (h : W.heap[g]? = some (.cells (ints ((l.take 4).map eInt)).toArray 3)) : W.ownsRow B 3 1 (.slice (some ⟨g, 0, none⟩) 4 4) ((l.take 4).map eInt).length (ints ((l.take 4).map eInt)) := by
  have e : ((l.take 4).map eInt).length = 4 := by rw [List.length_map, List.length_take]; omega
  have := row_newG hB (by omega) h
  rw [e] at this ⊢
  exact this

set_option maxHeartbeats 2000000 in
theorem rslot_0 (R : Nat) (a : UInt8) (l : List UInt8) (W : World) (hb : W.heap[R]? = some (.cells #[.string (bstr (a :: l))] 112)) (hm : l.length < 4096) (ha : a.toNat = 0) :
    Calls Try.prog 91 #[.pointer (some ⟨R, 0, none⟩)] W fun r W' => ∃ tv, r = .returned (.agg #[.int .i64 0, .string ⟨#[]⟩, tv]) ∧ RdT W W' R (l) ∧ W'.ownsRow W.heap.size 3 1 tv ([] : List Int).length (ints ([] : List Int)) := by
  have hR : R < W.heap.size := (Array.getElem?_eq_some_iff.1 hb).1
  have hbV : (W.alloc (.cells #[.int .i64 0, .string ⟨#[]⟩, .slice none 0 0] 60)).heap[R]? = some (.cells #[.string (bstr (a :: l))] 112) := cells_alloc hb _
  have mz : (W.alloc (.cells #[.int .i64 0, .string ⟨#[]⟩, .slice none 0 0] 60)).heap[W.heap.size]? = some (.cells #[.int .i64 0, .string ⟨#[]⟩, .slice none 0 0] 60) := World.alloc_heap_new _ _
  have ne1 : ¬ W.heap.size = R := by omega
  have ne2 : ¬ R = W.heap.size := by omega
  have HNu : Hid (Calls Try.prog 90 #[.pointer (some ⟨R, 0, none⟩)] (W.alloc (.cells #[.int .i64 0, .string ⟨#[]⟩, .slice none 0 0] 60)) fun r W' => r = .returned (.int .i64 (a.toNat : Int)) ∧ W' = (W.alloc (.cells #[.int .i64 0, .string ⟨#[]⟩, .slice none 0 0] 60)).setCell ⟨R, 0, none⟩ (.string (bstr l))) := rnum_ok R a l (W.alloc (.cells #[.int .i64 0, .string ⟨#[]⟩, .slice none 0 0] 60)) hbV (by omega)
  obtain ⟨w1, hw1⟩ : ∃ X, (W.alloc (.cells #[.int .i64 0, .string ⟨#[]⟩, .slice none 0 0] 60)).setCell ⟨R, 0, none⟩ (.string (bstr l)) = X := ⟨_, rfl⟩
  have T1 : RdT W w1 R l := by rw [← hw1]; exact ((RdT.refl hb).alloc _).set l
  have z1 : w1.heap[W.heap.size]? = some (.cells #[.int .i64 0, .string ⟨#[]⟩, .slice none 0 0] 60) := by rw [← hw1]; exact (Below.heap_setCell _ ⟨R, 0, none⟩ _ _ ne1).trans mz
  rw [hw1] at HNu
  have h0 : ((a.toNat : Int) == 0) = true := by rw [ha]; rfl
  obtain ⟨z0, z1', z2⟩ := three z1; have y0 := cells_frozen z1 0; have y1 := cells_frozen z1 1; have y2 := cells_frozen z1 2
  have HT : Hid (RdT W w1 R l) := T1
  clear hb hbV mz hw1 T1 z1 ha
  go_enter Try.func91, Try.ntmps91
  go_wp2_with (go_at_call 90; refine HNu.out.mono ?_; rintro e9 w9 ⟨rfl, hw⟩; rw [hw]; clear hw)
  refine bodyPost_ret (v := .agg #[.int .i64 0, .string ⟨#[]⟩, .slice none 0 0]) (by simp [results, Try.results91, go_sem, z0, z1', z2]) rfl ?_
  exact ⟨_, rfl, ((HT.out.other (Nat.le_refl _) hR _).other (Nat.le_refl _) hR _).other (Nat.le_refl _) hR _, World.ownsRow_nil _ _ _ _⟩

set_option maxHeartbeats 2000000 in
theorem rslot_1 (R : Nat) (a : UInt8) (l : List UInt8) (W : World) (hb : W.heap[R]? = some (.cells #[.string (bstr (a :: l))] 112)) (hm : l.length < 4096) (ha : a.toNat = 1) (h4 : 4 ≤ l.length) :
    Calls Try.prog 91 #[.pointer (some ⟨R, 0, none⟩)] W fun r W' => ∃ tv, r = .returned (.agg #[.int .i64 1, .string (bstr (l.take 4)), tv]) ∧ RdT W W' R (l.drop 4) ∧ W'.ownsRow W.heap.size 3 1 tv ([] : List Int).length (ints ([] : List Int)) := by
  have hR : R < W.heap.size := (Array.getElem?_eq_some_iff.1 hb).1
  have hbV : (W.alloc (.cells #[.int .i64 0, .string ⟨#[]⟩, .slice none 0 0] 60)).heap[R]? = some (.cells #[.string (bstr (a :: l))] 112) := cells_alloc hb _
  have mz : (W.alloc (.cells #[.int .i64 0, .string ⟨#[]⟩, .slice none 0 0] 60)).heap[W.heap.size]? = some (.cells #[.int .i64 0, .string ⟨#[]⟩, .slice none 0 0] 60) := World.alloc_heap_new _ _
  have ne1 : ¬ W.heap.size = R := by omega
  have ne2 : ¬ R = W.heap.size := by omega
  have HNu : Hid (Calls Try.prog 90 #[.pointer (some ⟨R, 0, none⟩)] (W.alloc (.cells #[.int .i64 0, .string ⟨#[]⟩, .slice none 0 0] 60)) fun r W' => r = .returned (.int .i64 (a.toNat : Int)) ∧ W' = (W.alloc (.cells #[.int .i64 0, .string ⟨#[]⟩, .slice none 0 0] 60)).setCell ⟨R, 0, none⟩ (.string (bstr l))) := rnum_ok R a l (W.alloc (.cells #[.int .i64 0, .string ⟨#[]⟩, .slice none 0 0] 60)) hbV (by omega)
  obtain ⟨w1, hw1⟩ : ∃ X, (W.alloc (.cells #[.int .i64 0, .string ⟨#[]⟩, .slice none 0 0] 60)).setCell ⟨R, 0, none⟩ (.string (bstr l)) = X := ⟨_, rfl⟩
  have T1 : RdT W w1 R l := by rw [← hw1]; exact ((RdT.refl hb).alloc _).set l
  have z1 : w1.heap[W.heap.size]? = some (.cells #[.int .i64 0, .string ⟨#[]⟩, .slice none 0 0] 60) := by rw [← hw1]; exact (Below.heap_setCell _ ⟨R, 0, none⟩ _ _ ne1).trans mz
  rw [hw1] at HNu
  have h0 : ((a.toNat : Int) == 0) = false := by rw [ha]; rfl
  have h1 : ((a.toNat : Int) == 1) = true := by rw [ha]; rfl
  have HTx : Hid (Calls Try.prog 104 #[.pointer (some ⟨R, 0, none⟩), .int .i64 4] w1 fun r W' => r = .returned (.string (bstr (l.take 4))) ∧ W' = w1.setCell ⟨R, 0, none⟩ (.string (bstr (l.drop 4)))) := rtext_ok R 4 l w1 T1.box h4 (by omega)
  obtain ⟨w2, hw2⟩ : ∃ X, w1.setCell ⟨R, 0, none⟩ (.string (bstr (l.drop 4))) = X := ⟨_, rfl⟩
  have HT : Hid (RdT W w2 R (l.drop 4)) := by rw [← hw2]; exact T1.set _
  have z1 : w2.heap[W.heap.size]? = some (.cells #[.int .i64 0, .string ⟨#[]⟩, .slice none 0 0] 60) := by rw [← hw2]; exact (Below.heap_setCell _ ⟨R, 0, none⟩ _ _ ne1).trans z1
  rw [hw2] at HTx
  obtain ⟨z0, z1', z2⟩ := three z1; have y0 := cells_frozen z1 0; have y1 := cells_frozen z1 1; have y2 := cells_frozen z1 2
  clear hb hbV mz hw1 T1 z1 ha hw2
  go_enter Try.func91, Try.ntmps91
  go_wp2_with (first | (go_at_call 104; refine HTx.out.mono ?_; rintro e9 w9 ⟨rfl, hw⟩; rw [hw]; clear hw) | (go_at_call 90; refine HNu.out.mono ?_; rintro e9 w9 ⟨rfl, hw⟩; rw [hw]; clear hw))
  refine bodyPost_ret (v := .agg #[.int .i64 1, .string (bstr (l.take 4)), .slice none 0 0]) (by simp [results, Try.results91, go_sem, z0, z1', z2]) rfl ?_
  exact ⟨_, rfl, ((HT.out.other (Nat.le_refl _) hR _).other (Nat.le_refl _) hR _).other (Nat.le_refl _) hR _, World.ownsRow_nil _ _ _ _⟩

set_option maxHeartbeats 2000000 in
theorem rslot_2 (R : Nat) (a : UInt8) (l : List UInt8) (W : World) (hb : W.heap[R]? = some (.cells #[.string (bstr (a :: l))] 112)) (hm : l.length < 4096) (ha : a.toNat = 2) (h4 : 4 ≤ l.length) :
    Calls Try.prog 91 #[.pointer (some ⟨R, 0, none⟩)] W fun r W' => ∃ tv, r = .returned (.agg #[.int .i64 2, .string ⟨#[]⟩, tv]) ∧ RdT W W' R (l.drop 4) ∧ W'.ownsRow W.heap.size 3 1 tv ((l.take 4).map eInt).length (ints ((l.take 4).map eInt)) := by
  have hR : R < W.heap.size := (Array.getElem?_eq_some_iff.1 hb).1
  have hbV : (W.alloc (.cells #[.int .i64 0, .string ⟨#[]⟩, .slice none 0 0] 60)).heap[R]? = some (.cells #[.string (bstr (a :: l))] 112) := cells_alloc hb _
  have mz : (W.alloc (.cells #[.int .i64 0, .string ⟨#[]⟩, .slice none 0 0] 60)).heap[W.heap.size]? = some (.cells #[.int .i64 0, .string ⟨#[]⟩, .slice none 0 0] 60) := World.alloc_heap_new _ _
  have ne1 : ¬ W.heap.size = R := by omega
  have ne2 : ¬ R = W.heap.size := by omega
  have HNu : Hid (Calls Try.prog 90 #[.pointer (some ⟨R, 0, none⟩)] (W.alloc (.cells #[.int .i64 0, .string ⟨#[]⟩, .slice none 0 0] 60)) fun r W' => r = .returned (.int .i64 (a.toNat : Int)) ∧ W' = (W.alloc (.cells #[.int .i64 0, .string ⟨#[]⟩, .slice none 0 0] 60)).setCell ⟨R, 0, none⟩ (.string (bstr l))) := rnum_ok R a l (W.alloc (.cells #[.int .i64 0, .string ⟨#[]⟩, .slice none 0 0] 60)) hbV (by omega)
  obtain ⟨w1, hw1⟩ : ∃ X, (W.alloc (.cells #[.int .i64 0, .string ⟨#[]⟩, .slice none 0 0] 60)).setCell ⟨R, 0, none⟩ (.string (bstr l)) = X := ⟨_, rfl⟩
  have T1 : RdT W w1 R l := by rw [← hw1]; exact ((RdT.refl hb).alloc _).set l
  have z1 : w1.heap[W.heap.size]? = some (.cells #[.int .i64 0, .string ⟨#[]⟩, .slice none 0 0] 60) := by rw [← hw1]; exact (Below.heap_setCell _ ⟨R, 0, none⟩ _ _ ne1).trans mz
  rw [hw1] at HNu
  have h0 : ((a.toNat : Int) == 0) = false := by rw [ha]; rfl
  have h1 : ((a.toNat : Int) == 1) = false := by rw [ha]; rfl
  have h2 : ((a.toNat : Int) == 2) = true := by rw [ha]; rfl
  have HEn : Hid (Calls Try.prog 105 #[.pointer (some ⟨R, 0, none⟩), .int .i64 4] w1 fun r W' => r = .returned (.slice (some ⟨w1.heap.size, 0, none⟩) 4 4) ∧ RdT w1 W' R (l.drop 4) ∧ W'.heap[w1.heap.size]? = some (.cells (ints ((l.take 4).map eInt)).toArray 3)) := rents_ok R 4 l w1 T1.box h4 (by omega) (by omega)
  have HT1 : Hid (RdT W w1 R l ∧ w1.heap[W.heap.size]? = some (.cells #[.int .i64 0, .string ⟨#[]⟩, .slice none 0 0] 60)) := ⟨T1, z1⟩
  clear hb hbV mz hw1 T1 z1 ha
  go_enter Try.func91, Try.ntmps91
  go_wp2_with (first | (go_at_call 105; refine HEn.out.mono ?_; rintro e9 w9 ⟨rfl, T9, g9⟩; have z1 := (T9.keep W.heap.size ((Array.getElem?_eq_some_iff.1 HT1.out.2).1) ne1).trans HT1.out.2; obtain ⟨z0, z1', z2⟩ := three z1; have y0 := cells_frozen z1 0; have y1 := cells_frozen z1 1; have y2 := cells_frozen z1 2; have HT := Hid_mkG (And.intro (HT1.out.1.trans T9) g9); clear z1 T9 g9) | (go_at_call 90; refine HNu.out.mono ?_; rintro e9 w9 ⟨rfl, hw⟩; rw [hw]; clear hw))
  refine bodyPost_ret (v := .agg #[.int .i64 2, .string ⟨#[]⟩, .slice (some ⟨w1.heap.size, 0, none⟩) 4 4]) (by simp [results, Try.results91, go_sem, z0, z1', z2]) rfl ?_
  have hw1s : W.heap.size < w1.heap.size := (Array.getElem?_eq_some_iff.1 HT1.out.2).1
  refine ⟨_, rfl, ((HT.out.1.other (Nat.le_refl _) hR _).other (Nat.le_refl _) hR _).other (Nat.le_refl _) hR _, row_new4 (by omega) h4 ?_⟩
  exact (Below.heap_setCell _ ⟨W.heap.size, 2, none⟩ _ _ (Nat.ne_of_gt hw1s)).trans ((Below.heap_setCell _ ⟨W.heap.size, 1, none⟩ _ _ (Nat.ne_of_gt hw1s)).trans ((Below.heap_setCell _ ⟨W.heap.size, 0, none⟩ _ _ (Nat.ne_of_gt hw1s)).trans HT.out.2))

set_option maxHeartbeats 2000000 in
theorem rslot_b0 (R : Nat) (W : World) (hb : W.heap[R]? = some (.cells #[.string (bstr ([]))] 112))  :
    Calls Try.prog 91 #[.pointer (some ⟨R, 0, none⟩)] W fun r W' => r = .panicked wrongP ∧ ∃ l', RdT W W' R l' := by
  have hR : R < W.heap.size := (Array.getElem?_eq_some_iff.1 hb).1
  have hbV : (W.alloc (.cells #[.int .i64 0, .string ⟨#[]⟩, .slice none 0 0] 60)).heap[R]? = some (.cells #[.string (bstr ([]))] 112) := cells_alloc hb _
  have mz : (W.alloc (.cells #[.int .i64 0, .string ⟨#[]⟩, .slice none 0 0] 60)).heap[W.heap.size]? = some (.cells #[.int .i64 0, .string ⟨#[]⟩, .slice none 0 0] 60) := World.alloc_heap_new _ _
  have ne1 : ¬ W.heap.size = R := by omega
  have ne2 : ¬ R = W.heap.size := by omega
  have HNu : Hid (Calls Try.prog 90 #[.pointer (some ⟨R, 0, none⟩)] (W.alloc (.cells #[.int .i64 0, .string ⟨#[]⟩, .slice none 0 0] 60)) fun r W' => r = .panicked wrongP ∧ W' = (W.alloc (.cells #[.int .i64 0, .string ⟨#[]⟩, .slice none 0 0] 60))) := rnum_bad R (W.alloc (.cells #[.int .i64 0, .string ⟨#[]⟩, .slice none 0 0] 60)) hbV
  have HT : Hid (RdT W (W.alloc (.cells #[.int .i64 0, .string ⟨#[]⟩, .slice none 0 0] 60)) R []) := (RdT.refl hb).alloc _
  clear hb hbV mz
  go_enter Try.func91, Try.ntmps91
  go_wp2_with (go_at_call 90; refine HNu.out.mono ?_; rintro e9 w9 ⟨rfl, hw⟩; rw [hw]; clear hw)
  exact ⟨rfl, rfl, _, HT.out⟩

set_option maxHeartbeats 2000000 in
theorem rslot_b1 (R : Nat) (a : UInt8) (l : List UInt8) (W : World) (hb : W.heap[R]? = some (.cells #[.string (bstr (a :: l))] 112)) (hm : l.length < 4096) (ha : a.toNat = 1) (h4 : l.length < 4) :
    Calls Try.prog 91 #[.pointer (some ⟨R, 0, none⟩)] W fun r W' => r = .panicked wrongP ∧ ∃ l', RdT W W' R l' := by
  have hR : R < W.heap.size := (Array.getElem?_eq_some_iff.1 hb).1
  have hbV : (W.alloc (.cells #[.int .i64 0, .string ⟨#[]⟩, .slice none 0 0] 60)).heap[R]? = some (.cells #[.string (bstr (a :: l))] 112) := cells_alloc hb _
  have mz : (W.alloc (.cells #[.int .i64 0, .string ⟨#[]⟩, .slice none 0 0] 60)).heap[W.heap.size]? = some (.cells #[.int .i64 0, .string ⟨#[]⟩, .slice none 0 0] 60) := World.alloc_heap_new _ _
  have ne1 : ¬ W.heap.size = R := by omega
  have ne2 : ¬ R = W.heap.size := by omega
  have HNu : Hid (Calls Try.prog 90 #[.pointer (some ⟨R, 0, none⟩)] (W.alloc (.cells #[.int .i64 0, .string ⟨#[]⟩, .slice none 0 0] 60)) fun r W' => r = .returned (.int .i64 (a.toNat : Int)) ∧ W' = (W.alloc (.cells #[.int .i64 0, .string ⟨#[]⟩, .slice none 0 0] 60)).setCell ⟨R, 0, none⟩ (.string (bstr l))) := rnum_ok R a l (W.alloc (.cells #[.int .i64 0, .string ⟨#[]⟩, .slice none 0 0] 60)) hbV (by omega)
  obtain ⟨w1, hw1⟩ : ∃ X, (W.alloc (.cells #[.int .i64 0, .string ⟨#[]⟩, .slice none 0 0] 60)).setCell ⟨R, 0, none⟩ (.string (bstr l)) = X := ⟨_, rfl⟩
  have T1 : RdT W w1 R l := by rw [← hw1]; exact ((RdT.refl hb).alloc _).set l
  have z1 : w1.heap[W.heap.size]? = some (.cells #[.int .i64 0, .string ⟨#[]⟩, .slice none 0 0] 60) := by rw [← hw1]; exact (Below.heap_setCell _ ⟨R, 0, none⟩ _ _ ne1).trans mz
  rw [hw1] at HNu
  have h0 : ((a.toNat : Int) == 0) = false := by rw [ha]; rfl
  have h1 : ((a.toNat : Int) == 1) = true := by rw [ha]; rfl
  have HTx : Hid (Calls Try.prog 104 #[.pointer (some ⟨R, 0, none⟩), .int .i64 4] w1 fun r W' => r = .panicked wrongP ∧ W' = w1) := rtext_bad R 4 l w1 T1.box h4 (by omega)
  have HT : Hid (RdT W w1 R l) := T1
  obtain ⟨z0, z1', z2⟩ := three z1; have y0 := cells_frozen z1 0; have y1 := cells_frozen z1 1; have y2 := cells_frozen z1 2
  clear hb hbV mz hw1 T1 z1 ha
  go_enter Try.func91, Try.ntmps91
  go_wp2_with (first | (go_at_call 104; refine HTx.out.mono ?_; rintro e9 w9 ⟨rfl, hw⟩; rw [hw]; clear hw) | (go_at_call 90; refine HNu.out.mono ?_; rintro e9 w9 ⟨rfl, hw⟩; rw [hw]; clear hw))
  exact ⟨rfl, rfl, _, HT.out⟩

set_option maxHeartbeats 2000000 in
theorem rslot_b2 (R : Nat) (a : UInt8) (l : List UInt8) (W : World) (hb : W.heap[R]? = some (.cells #[.string (bstr (a :: l))] 112)) (hm : l.length < 4096) (ha : a.toNat = 2) (h4 : l.length < 4) :
    Calls Try.prog 91 #[.pointer (some ⟨R, 0, none⟩)] W fun r W' => r = .panicked wrongP ∧ ∃ l', RdT W W' R l' := by
  have hR : R < W.heap.size := (Array.getElem?_eq_some_iff.1 hb).1
  have hbV : (W.alloc (.cells #[.int .i64 0, .string ⟨#[]⟩, .slice none 0 0] 60)).heap[R]? = some (.cells #[.string (bstr (a :: l))] 112) := cells_alloc hb _
  have mz : (W.alloc (.cells #[.int .i64 0, .string ⟨#[]⟩, .slice none 0 0] 60)).heap[W.heap.size]? = some (.cells #[.int .i64 0, .string ⟨#[]⟩, .slice none 0 0] 60) := World.alloc_heap_new _ _
  have ne1 : ¬ W.heap.size = R := by omega
  have ne2 : ¬ R = W.heap.size := by omega
  have HNu : Hid (Calls Try.prog 90 #[.pointer (some ⟨R, 0, none⟩)] (W.alloc (.cells #[.int .i64 0, .string ⟨#[]⟩, .slice none 0 0] 60)) fun r W' => r = .returned (.int .i64 (a.toNat : Int)) ∧ W' = (W.alloc (.cells #[.int .i64 0, .string ⟨#[]⟩, .slice none 0 0] 60)).setCell ⟨R, 0, none⟩ (.string (bstr l))) := rnum_ok R a l (W.alloc (.cells #[.int .i64 0, .string ⟨#[]⟩, .slice none 0 0] 60)) hbV (by omega)
  obtain ⟨w1, hw1⟩ : ∃ X, (W.alloc (.cells #[.int .i64 0, .string ⟨#[]⟩, .slice none 0 0] 60)).setCell ⟨R, 0, none⟩ (.string (bstr l)) = X := ⟨_, rfl⟩
  have T1 : RdT W w1 R l := by rw [← hw1]; exact ((RdT.refl hb).alloc _).set l
  have z1 : w1.heap[W.heap.size]? = some (.cells #[.int .i64 0, .string ⟨#[]⟩, .slice none 0 0] 60) := by rw [← hw1]; exact (Below.heap_setCell _ ⟨R, 0, none⟩ _ _ ne1).trans mz
  rw [hw1] at HNu
  have h0 : ((a.toNat : Int) == 0) = false := by rw [ha]; rfl
  have h1 : ((a.toNat : Int) == 1) = false := by rw [ha]; rfl
  have h2 : ((a.toNat : Int) == 2) = true := by rw [ha]; rfl
  have HEn : Hid (Calls Try.prog 105 #[.pointer (some ⟨R, 0, none⟩), .int .i64 4] w1 fun r W' => r = .panicked wrongP ∧ RdT w1 W' R []) := rents_bad R 4 l w1 T1.box h4 (by omega) (by omega)
  have HT1 : Hid (RdT W w1 R l) := T1
  clear hb hbV mz hw1 T1 z1 ha
  go_enter Try.func91, Try.ntmps91
  go_wp2_with (first | (go_at_call 105; refine HEn.out.mono ?_; rintro e9 w9 ⟨rfl, T9⟩; have HT := Hid_mkG (HT1.out.trans T9); clear T9) | (go_at_call 90; refine HNu.out.mono ?_; rintro e9 w9 ⟨rfl, hw⟩; rw [hw]; clear hw))
  exact ⟨rfl, rfl, _, HT.out⟩

set_option maxHeartbeats 2000000 in
theorem rslot_b3 (R : Nat) (a : UInt8) (l : List UInt8) (W : World) (hb : W.heap[R]? = some (.cells #[.string (bstr (a :: l))] 112)) (hm : l.length < 4096) (ha : 3 ≤ a.toNat) :
    Calls Try.prog 91 #[.pointer (some ⟨R, 0, none⟩)] W fun r W' => r = .panicked wrongP ∧ ∃ l', RdT W W' R l' := by
  have hR : R < W.heap.size := (Array.getElem?_eq_some_iff.1 hb).1
  have hbV : (W.alloc (.cells #[.int .i64 0, .string ⟨#[]⟩, .slice none 0 0] 60)).heap[R]? = some (.cells #[.string (bstr (a :: l))] 112) := cells_alloc hb _
  have mz : (W.alloc (.cells #[.int .i64 0, .string ⟨#[]⟩, .slice none 0 0] 60)).heap[W.heap.size]? = some (.cells #[.int .i64 0, .string ⟨#[]⟩, .slice none 0 0] 60) := World.alloc_heap_new _ _
  have ne1 : ¬ W.heap.size = R := by omega
  have ne2 : ¬ R = W.heap.size := by omega
  have HNu : Hid (Calls Try.prog 90 #[.pointer (some ⟨R, 0, none⟩)] (W.alloc (.cells #[.int .i64 0, .string ⟨#[]⟩, .slice none 0 0] 60)) fun r W' => r = .returned (.int .i64 (a.toNat : Int)) ∧ W' = (W.alloc (.cells #[.int .i64 0, .string ⟨#[]⟩, .slice none 0 0] 60)).setCell ⟨R, 0, none⟩ (.string (bstr l))) := rnum_ok R a l (W.alloc (.cells #[.int .i64 0, .string ⟨#[]⟩, .slice none 0 0] 60)) hbV (by omega)
  obtain ⟨w1, hw1⟩ : ∃ X, (W.alloc (.cells #[.int .i64 0, .string ⟨#[]⟩, .slice none 0 0] 60)).setCell ⟨R, 0, none⟩ (.string (bstr l)) = X := ⟨_, rfl⟩
  have T1 : RdT W w1 R l := by rw [← hw1]; exact ((RdT.refl hb).alloc _).set l
  have z1 : w1.heap[W.heap.size]? = some (.cells #[.int .i64 0, .string ⟨#[]⟩, .slice none 0 0] 60) := by rw [← hw1]; exact (Below.heap_setCell _ ⟨R, 0, none⟩ _ _ ne1).trans mz
  rw [hw1] at HNu
  have h0 : ((a.toNat : Int) == 0) = false := by simp; omega
  have h1 : ((a.toNat : Int) == 1) = false := by simp; omega
  have h2 : ((a.toNat : Int) == 2) = false := by simp; omega
  have HT : Hid (RdT W w1 R l) := T1
  clear hb hbV mz hw1 T1 z1 ha
  go_enter Try.func91, Try.ntmps91
  go_wp2_with (go_at_call 90; refine HNu.out.mono ?_; rintro e9 w9 ⟨rfl, hw⟩; rw [hw]; clear hw)
  exact ⟨rfl, rfl, _, HT.out⟩

theorem rslot_ok {R : Nat} {L : List UInt8} {W : World} {s : SlotD} {r : List UInt8} (hb : W.heap[R]? = some (.cells #[.string (bstr (L))] 112)) (hm : L.length ≤ 4096) (hp : pSlot L = some (s, r)) :
    Calls Try.prog 91 #[.pointer (some ⟨R, 0, none⟩)] W fun e W' => ∃ tv, e = .returned (.agg #[.int .i64 s.1, .string s.2.1, tv]) ∧ RdT W W' R r ∧ W'.ownsRow W.heap.size 3 1 tv s.2.2.length (ints s.2.2) := by
  obtain ⟨q, h1, h2⟩ := bindS hp
  cases L with
  | nil => simp [pNum] at h1
  | cons a l =>
    have h1 : (a.toNat, l) = q := by simpa [pNum] using h1
    subst h1
    have hm : l.length < 4096 := by simp at hm; omega
    unfold pKind at h2
    dsimp only at h2
    split at h2
    · rename_i ha
      have h2 : (((0 : Int), (⟨#[]⟩ : ByteArray), ([] : List Int)), l) = (s, r) := by simpa using h2
      cases h2
      exact rslot_0 R a _ W hb hm ha
    · split at h2
      · rename_i ha
        obtain ⟨t, h3, h4⟩ := mapS h2
        unfold pText at h3
        split at h3
        · rename_i hl
          have h3 : (l.take 4, l.drop 4) = t := by simpa using h3
          subst h3
          cases h4
          exact rslot_1 R a _ W hb hm ha hl
        · simp at h3
      · split at h2
        · rename_i ha
          obtain ⟨t, h3, h4⟩ := mapS h2
          unfold pEnts at h3
          split at h3
          · rename_i hl
            have h3 : ((l.take 4).map eInt, l.drop 4) = t := by simpa using h3
            subst h3
            cases h4
            exact rslot_2 R a _ W hb hm ha hl
          · simp at h3
        · simp at h2
theorem rslot_bad {R : Nat} {L : List UInt8} {W : World} (hb : W.heap[R]? = some (.cells #[.string (bstr (L))] 112)) (hm : L.length ≤ 4096) (hp : pSlot L = none) :
    Calls Try.prog 91 #[.pointer (some ⟨R, 0, none⟩)] W fun r W' => r = .panicked wrongP ∧ ∃ l', RdT W W' R l' := by
  cases L with
  | nil => exact rslot_b0 R W hb
  | cons a l =>
    have hm : l.length < 4096 := by simp at hm; omega
    have hp : pKind a.toNat l = none := hp
    unfold pKind at hp
    split at hp
    · simp at hp
    · split at hp
      · rename_i ha
        have : pText 4 l = none := by simpa using hp
        unfold pText at this
        split at this
        · simp at this
        · rename_i hl; exact rslot_b1 R a l W hb hm ha (by omega)
      · split at hp
        · rename_i ha
          have : pEnts 4 l = none := by simpa using hp
          unfold pEnts at this
          split at this
          · simp at this
          · rename_i hl; exact rslot_b2 R a l W hb hm ha (by omega)
        · rename_i n0 n1 n2
          exact rslot_b3 R a l W hb hm (by omega)
end Go.Proofs.Ytehleeibgkpjmag
/- The program's reader: root. -/
namespace Go.Proofs.Ytehleeibgkpjmag
open Go.RowKit Go.Shelf Go.Lib
set_option maxRecDepth 20000
set_option linter.unusedVariables false
set_option linter.unusedSimpArgs false

theorem rroot_ok (R g n : Nat) (l : List UInt8) (W : World) (hb : W.heap[R]? = some (.cells #[.string (bstr (l))] 112)) (hg : g ≤ 255) (hgn : (g + 3) / 4 = n) (hn : n ≤ l.length) (hm : l.length ≤ 4096) :
    Calls Try.prog 93 #[.pointer (some ⟨R, 0, none⟩), .int .i64 (g : Int)] W fun r W' => r = .returned (.slice (some ⟨W.heap.size, 0, none⟩) n n) ∧ RdT W W' R (l.drop n) ∧ W'.heap[W.heap.size]? = some (.cells (ints ((l.take n).map eInt)).toArray 3) := by
  have hE := rents_ok R n l W hb hn (by omega) hm
  have ea : ((n : Nat) : Int) = ((g : Int) + 4 - 1) / 4 := by omega
  rw [ea] at hE
  have HE := Hid_mkG hE
  clear hE ea hgn hb
  go_enter Try.func93, Try.ntmps93
  go_wp2_with (go_at_call 105; refine HE.out.mono ?_; rintro e w1 ⟨rfl, T1, g1⟩; have HT := Hid_mkG (And.intro T1 g1); clear T1 g1)
  go_ret
  exact ⟨rfl, HT.out.1, HT.out.2⟩
theorem rroot_bad (R g n : Nat) (l : List UInt8) (W : World) (hb : W.heap[R]? = some (.cells #[.string (bstr (l))] 112)) (hg : g ≤ 255) (hgn : (g + 3) / 4 = n) (hn : l.length < n) (hm : l.length ≤ 4096) :
    Calls Try.prog 93 #[.pointer (some ⟨R, 0, none⟩), .int .i64 (g : Int)] W fun r W' => r = .panicked wrongP ∧ RdT W W' R [] := by
  have hE := rents_bad R n l W hb hn (by omega) hm
  have ea : ((n : Nat) : Int) = ((g : Int) + 4 - 1) / 4 := by omega
  rw [ea] at hE
  have HE := Hid_mkG hE
  clear hE ea hgn hb
  go_enter Try.func93, Try.ntmps93
  go_wp2_with (go_at_call 105; refine HE.out.mono ?_; rintro e w1 ⟨rfl, T1⟩; have HT := Hid_mkG T1; clear T1)
  exact ⟨rfl, rfl, HT.out⟩
end Go.Proofs.Ytehleeibgkpjmag
/- The document's bytesOf. -/
namespace Go.Proofs.Ytehleeibgkpjmag
open Go.RowKit Go.Shelf Go.Lib
set_option maxRecDepth 20000
set_option linter.unusedVariables false
set_option linter.unusedSimpArgs false

theorem append_nilB (W : World) (ty : TypeId) (ao : Option Addr) (n cap : Nat) (h : n ≤ cap) : (Builtin.append_ #[68, 68] ty #[.slice ao n cap, .slice none 0 0]).run Try.prog W = .ok (.slice ao n cap) W := by
  obtain ⟨i0, hi, hz0, hz1, hz2⟩ := info_parts info5W
  cases ao <;> simp [Builtin.append_, run_underlying Try.underlying68, sizeOf, typeInfo, hi, h, storeCells, Builtin.lenOf, Builtin.firstCells, loadCells]
theorem wpList_addR {W : World} {ops : Array Oper} {rest : List Oper} {o : Oper} {a : Act} {Q : Exit → Act → World → Prop} (hgd : o.guard = none) (s x : Operand)
    (ho : o.op = .call { callee := .builtin .append, args := #[s, x], argTypes := #[68, 68] }) {B B' n k : Nat} {v u : Value} {xs ys : List UInt8}
    (hs : a.eval s = v) (hx : a.eval x = u) (hu : W.ownsRow B' 5 1 u k (bys ys)) (hown : W.ownsRow B 5 1 v n (bys xs)) (hn : n + k ≤ 100000) (hB : B ≤ W.heap.size)
    (h : ∀ v' w', Hid (w'.ownsRow B 5 1 v' (n + k) (bys (xs ++ ys))) → Hid (W.grownBy w' v.ownBlock) → wpList Try.prog ops Q rest (a.put o.dst v') w') : wpList Try.prog ops Q (o :: rest) a W := by
  obtain ⟨i0, hi, hz0, hz1, hz2⟩ := info_parts info5W
  refine wpList_plain hgd fun _ hK => ?_
  rcases hu.2 with ⟨e, hk⟩ | ⟨g, cap, cur, e, _⟩
  · subst e hk
    have hy : ys = [] := by have := hu.1; rw [bys_length] at this; exact List.length_eq_zero_iff.1 (by omega)
    subst hy
    obtain ⟨ao, cap, rfl, hc⟩ : ∃ ao cap, v = .slice ao n cap ∧ n ≤ cap := by
      rcases row_form hown with ⟨e, e2⟩ | ⟨g, cap, e, _, _, h4, _⟩
      · exact ⟨none, 0, by rw [e, e2], by omega⟩
      · exact ⟨_, cap, e, h4⟩
    unfold Oper.wp execOp
    simp only [ho, resolve, invoke, builtin, Sem.run_bind, Sem.run_pure, Result.andThen_ok, List.map_toArray, List.map_cons, List.map_nil, hs, hx, append_nilB W o.type ao n cap hc]
    exact hK _ _ (h _ W (by rw [List.append_nil]; exact hown) ⟨rfl, rfl, rfl, Nat.le_refl _, fun _ _ _ => rfl⟩)
  · subst e
    obtain ⟨v', w', hr, g2, g3, _, g5⟩ := run_append_own_at (P := Try.prog) W B 68 o.type 5 i0 (.int .u8 0) 1 1 Try.underlying68 hi hz0 hz1 hz2 rfl (by decide) v n (bys xs) hown ⟨g, 0, none⟩ k cap (bys ys) hu.1 (fun j u hj => hu.cells (g := g) rfl j u hj) (by intro u hu'; unfold bys at hu'; obtain ⟨b, _, rfl⟩ := List.mem_map.1 hu'; rfl) (by unfold maxLen; omega) (by omega) hB
    unfold Oper.wp execOp
    simp only [ho, resolve, invoke, builtin, Sem.run_bind, Sem.run_pure, Result.andThen_ok, List.map_toArray, List.map_cons, List.map_nil, hs, hx, hr]
    exact hK _ _ (h v' w' (by rw [bys_append]; exact g2) g3)
structure BoS (w wr : World) (v : Value) (l : List UInt8) : Prop where
  row : wr.ownsRow w.heap.size 5 1 v l.length (bys l)
  bel : Below w.heap.size w wr
set_option maxHeartbeats 4000000 in
theorem bytesOf_at (na : Option Addr) (nc : Nat) (xs : List Int) (w : World) (hx : Sl w (.slice na xs.length nc) xs) (hl : xs.length ≤ 50000) :
    Calls Try.prog 40 #[.slice na xs.length nc] w fun r w' => ∃ va, r = .returned va ∧ BoS w w' va (xs.map by8) := by
  have HX : Hid (Sl w (.slice na xs.length nc) xs) := hx
  have H0 : Hid (BoS w w (.slice none 0 0) ((xs.take 0).map by8)) := ⟨World.ownsRow_nil _ _ _ _, Below.refl _ _⟩
  clear hx
  go_enter Try.func40, Try.ntmps40
  go_wp2_with fail
  go_loopw [3, 4] (fun o i wr => ∃ k pa pc, k ≤ xs.length ∧ i = .int .i64 (k : Int) ∧ o = .slice pa k pc ∧ Hid (BoS w wr (.slice pa k pc) ((xs.take k).map by8))) (fun _ i _ => xs.length - (intOf i).toNat)
  case atStart => exact ⟨0, none, 0, Nat.zero_le _, rfl, rfl, H0⟩
  case round =>
    obtain ⟨k, pa, pc, hk, rfl, rfl, HC⟩ := hrel
    by_cases hlk : k < xs.length
    · have hki : (k : Int) < (xs.length : Int) := by omega
      obtain ⟨b, off, lc', e0, _, hbl, hcell⟩ := HX.out.open (by omega)
      simp only [Value.slice.injEq] at e0
      obtain ⟨rfl, _, rfl⟩ := e0
      have cp := (HC.out.bel.cell (p := ⟨b, off + k, none⟩) hbl).trans (hcell k hlk)
      obtain ⟨e, hee⟩ : ∃ x, xs.getD k 0 = x := ⟨_, rfl⟩
      rw [hee] at cp
      have hmem : xs[k] = e := by rw [← hee]; simp [List.getD, hlk]
      have HT : Hid ((xs.take (k + 1)).map by8 = (xs.take k).map by8 ++ [by8 e]) := by
        show _ = _
        rw [show xs.take (k + 1) = xs.take k ++ [xs[k]] from (List.take_append_getElem hlk).symm, List.map_append, hmem]
        rfl
      obtain ⟨L, hL⟩ : ∃ X, (xs.take k).map by8 = X := ⟨_, rfl⟩
      rw [hL] at HC HT
      have hLl : L.length = k := by rw [← hL, List.length_map, List.length_take]; omega
      have hrow := HC.out.row
      rw [hLl] at hrow
      have hsz := HC.out.bel.size
      have HLl : Hid (L.length = k) := hLl
      clear hcell hee hmem hL hbl hLl
      go_wp2_with (at_builtin; refine wpList_addB (by rfl) _ _ (by rfl) (W := wr) (B := w.heap.size) (n := k) (v := .slice pa k pc) (xs := L) (by8 e) (by first | rfl | exact (by8_wrap e).symm | (rw [by8_wrap]; done) | (rw [by8_wrap]; rfl)) (by rfl) (N := wr.heap.size) (by rfl) (by rfl) hrow (by omega) (by omega) ?_; intro v8 w8 g1 g2; obtain ⟨ga, gc, hv8⟩ := row_slice g1.out; subst hv8)
      have HN : Hid (BoS w w8 (.slice ga (k + 1) gc) ((xs.take (k + 1)).map by8)) := by
        rw [HT.out]
        refine ⟨by rw [List.length_append, HLl.out]; exact g1.out, ?_⟩
        exact (HC.out.bel.alloc HC.out.bel.size _).grown g2.out (by simp; omega) (fun q e => (hrow.lt q e).1)
      go_roundw
      case rel => exact ⟨k + 1, ga, gc, by omega, by go_num, rfl, HN⟩
      case measure => simp [intOf]; omega
    · have hki : ¬ (k : Int) < (xs.length : Int) := by omega
      have HR : Hid (BoS w wr (.slice pa k pc) (xs.map by8)) := by
        have e : k = xs.length := by omega
        have h9 := HC.out
        rw [show xs.take k = xs by rw [e, List.take_length]] at h9
        exact h9
      clear HC
      go_wp2_with fail
      go_ret
      exact ⟨.slice pa k pc, rfl, HR.out⟩
theorem bytesOf_is {w : World} {v : Value} {xs : List Int} (hx : Sl w v xs) (hl : xs.length ≤ 50000) :
    Calls Try.prog 40 #[v] w fun r w' => ∃ va, r = .returned va ∧ BoS w w' va (xs.map by8) := by
  obtain ⟨na, nc, rfl⟩ := hx.form
  exact bytesOf_at na nc xs w hx hl

theorem row_blkW {W W' : World} {B n size : Nat} {e : TypeId} {v : Value} {xs : List Value} (h : W.ownsRow B e size v n xs) (hb : ∀ g, v.ownBlock = some g → W'.heap[g]? = W.heap[g]?) : W'.ownsRow B e size v n xs := by
  refine ⟨h.1, ?_⟩
  rcases h.2 with hn | ⟨g, cap, cur, hv, hb', hg, rest⟩
  · exact .inl hn
  · exact .inr ⟨g, cap, cur, hv, hb', (hb g (by rw [hv]; rfl)).trans hg, rest⟩
structure IbS (w wr : World) (bx : Obj) (v : Value) (l : List UInt8) : Prop where
  row : wr.ownsRow (w.heap.size + 1) 5 1 v l.length (bys l)
  bel : Below w.heap.size w wr
  box : wr.heap[w.heap.size]? = some bx
theorem IbS.lt {w wr : World} {bx : Obj} {v : Value} {l : List UInt8} (h : IbS w wr bx v l) : w.heap.size < wr.heap.size := (Array.getElem?_eq_some_iff.1 h.box).1
theorem IbS.on {w wr wx : World} {bx : Obj} {v : Value} {l : List UInt8} (h : IbS w wr bx v l) (hb : Below wr.heap.size wr wx) : IbS w wx bx v l :=
  ⟨row_blkW h.row (fun q hq => hb.block q (h.row.lt q hq).2), h.bel.trans (hb.mono h.bel.size), (hb.block _ h.lt).trans h.box⟩
theorem IbS.grow {w wr wx : World} {bx : Obj} {v v' : Value} {n : Nat} {l l' : List UInt8} (h : IbS w wr bx v l) (hn : l'.length = n) (g1 : wx.ownsRow (w.heap.size + 1) 5 1 v' n (bys l')) (g2 : wr.grownBy wx v.ownBlock) : IbS w wx bx v' l' := by
  subst hn
  have hne : some w.heap.size ≠ v.ownBlock := fun e => by have := (h.row.lt _ e.symm).1; omega
  exact ⟨g1, h.bel.grown g2 h.bel.size (fun q e => by have := (h.row.lt _ e).1; omega), (g2.block _ h.lt hne).trans h.box⟩
end Go.Proofs.Ytehleeibgkpjmag
