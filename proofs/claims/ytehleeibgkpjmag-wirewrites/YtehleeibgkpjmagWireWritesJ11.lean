/- Texts joined: WiX, WwK, SlotsIn. -/
import Derived.Test.YtehleeibgkpjmagWireWritesJ9
import Derived.Test.YtehleeibgkpjmagWireWritesJ10
import Derived.Deep.CutRange
import Derived.Test.YtehleeibgkpjmagWireWritesJ1
import Derived.Deep.Strs
import Derived.Deep.Slices
import Derived.ProofKit
set_option linter.unusedVariables false
set_option linter.unusedSimpArgs false
/- The document's ImageFrom. -/
namespace Go.Proofs.Ytehleeibgkpjmag
open Go.RowKit Go.Shelf Go.Lib
set_option maxRecDepth 20000
set_option linter.unusedVariables false
set_option linter.unusedSimpArgs false

def AnsB (w : World) (M : ImgD) (b : Bool) (r : Ending) (w' : World) : Prop := ∃ a0 c0 a1 c1 a2 c2 a3 c3, r = .returned (.tuple #[(.agg #[.int .i64 M.guest, .slice a0 M.root.length c0, .slice a1 M.slots.length c1, .slice a2 M.refs.length c2, .slice a3 M.snaps.length c3]), .bool b]) ∧ Img w' (.agg #[.int .i64 M.guest, .slice a0 M.root.length c0, .slice a1 M.slots.length c1, .slice a2 M.refs.length c2, .slice a3 M.snaps.length c3]) M ∧ Below w.heap.size w w'
def noE (L : List UInt8) : ImgD × Bool := match noO L with | some m => (m, true) | none => (imgZ, false)
theorem wants255 (g n : Nat) (w : World) (h : g ≤ 255) (hn : (g + 3) / 4 = n) : Calls Try.prog 46 #[.int .i64 (g : Int)] w fun r w' => r = .returned (.int .i64 (n : Int)) ∧ w' = w := by
  subst hn
  go_enter Try.func46, Try.ntmps46
  go_wp2
  go_ret
  exact ⟨ret_int (by omega), rfl⟩
theorem nNum_le (l : List UInt8) : (nNum l).2.length ≤ l.length ∧ (nNum l).1 ≤ 255 := by
  cases l with
  | nil => exact ⟨Nat.le_refl _, by show 0 ≤ 255; omega⟩
  | cons a t =>
    have := a.toNat_lt
    exact ⟨by show t.length ≤ (a :: t).length; simp, by show a.toNat ≤ 255; omega⟩
theorem nList_le (l : List UInt8) : ∀ n, (nList n l).2.length ≤ l.length
  | 0 => Nat.le_refl _
  | n + 1 => Nat.le_trans (nNum_le _).1 (nList_le l n)
theorem nList_len (l : List UInt8) : ∀ n, (nList n l).1.length = n
  | 0 => rfl
  | n + 1 => by show ((nList n l).1 ++ [_]).length = _; simp [nList_len l n]
theorem nText_le (n : Nat) (l : List UInt8) : (nText n l).2.length ≤ l.length := by show (l.drop n).length ≤ _; simp
theorem nKind_le (k : Nat) (l : List UInt8) : (nKind k l).2.length ≤ l.length := by
  unfold nKind
  split
  · exact nText_le _ _
  · split
    · exact nList_le _ _
    · exact Nat.le_refl _
theorem nSlot_le (l : List UInt8) : (nSlot l).2.length ≤ l.length := Nat.le_trans (nKind_le _ _) (nNum_le l).1
theorem nSnap_le (l : List UInt8) : (nSnap l).2.length ≤ l.length := Nat.le_trans (nList_le _ _) (Nat.le_trans (nNum_le _).1 (Nat.le_trans (nText_le _ _) (nNum_le l).1))
theorem nMany_le {α : Type} {f : List UInt8 → α × List UInt8} (hf : ∀ l, (f l).2.length ≤ l.length) (l : List UInt8) : ∀ k, (nMany f k l).2.length ≤ l.length ∧ (nMany f k l).1.length = k
  | 0 => ⟨Nat.le_refl _, rfl⟩
  | k + 1 => ⟨Nat.le_trans (hf _) (nMany_le hf l k).1, by show ((nMany f k l).1 ++ [_]).length = _; simp [(nMany_le hf l k).2]⟩
theorem NoM.keepX {w X Y : World} {R D : Nat} {l l' : List UInt8} {M : ImgD} (h : NoM w X R D l M) (t : NoX w Y R l') (hk : ∀ q, q < X.heap.size → q ≠ R → Y.heap[q]? = X.heap[q]?) : NoM w Y R D l' M := by
  obtain ⟨val, hX, hb⟩ := h.ex
  have hR := h.hR
  have hD := h.hD
  exact ⟨t, h.hR, h.hD, val, hX.keep (fun g hg hl => hk g hl (by omega)), (hk D (Array.getElem?_eq_some_iff.1 hb).1 (by omega)).trans hb⟩
theorem NoM.open {w X Y : World} {R D : Nat} {l : List UInt8} {M : ImgD} (h : NoM w X R D l M) (hk : ∀ q, q < X.heap.size → q ≠ R → Y.heap[q]? = X.heap[q]?) : ∃ val, OX Y (D + 1) val M ∧ Y.heap[D]? = some (.cells #[.int .i64 M.guest, val .root, val .slots, val .refs, val .snaps] 26) ∧ ∀ b, LiveX M b → ∀ g, (val b).ownBlock = some g → g < X.heap.size := by
  obtain ⟨val, hX, hb⟩ := h.ex
  have hR := h.hR
  have hD := h.hD
  exact ⟨val, hX.keep (fun g hg hl => hk g hl (by omega)), (hk D (Array.getElem?_eq_some_iff.1 hb).1 (by omega)).trans hb, fun b hb g e => ((hX.row b hb).lt g e).2⟩
theorem NoM.below {w X Y : World} {R D : Nat} {l : List UInt8} {M : ImgD} (h : NoM w X R D l M) (b : Below X.heap.size X Y) : NoM w Y R D l M :=
  h.read ⟨b.os, b.tape, b.output, b.size, fun q hq _ => b.block q hq, (b.block R h.t.lt).trans h.t.box⟩
theorem bstr_inj {a b : List UInt8} (h : (bstr a).toList = (bstr b).toList) : a = b := by
  have e : ∀ l : List UInt8, (bstr l).toList = l := fun l => by rw [ByteArray.toList_eq]; unfold bstr; simp
  rw [e, e] at h
  exact h
theorem no_below {w W W' : World} {R : Nat} {l : List UInt8} (hb : Below w.heap.size w W) (hwR : w.heap.size ≤ R) (h : NoX W W' R l) : Below w.heap.size w W' :=
  ⟨h.os.trans hb.os, h.tape.trans hb.tape, h.output.trans hb.output, Nat.le_trans hb.size h.size, fun q hq => (h.keep q (Nat.lt_of_lt_of_le hq hb.size) (by omega)).trans (hb.block q hq)⟩
theorem row_monoX {W : World} {B B' n size : Nat} {e : TypeId} {v : Value} {xs : List Value} (h : W.ownsRow B e size v n xs) (hB : B' ≤ B) : W.ownsRow B' e size v n xs := by
  refine ⟨h.1, ?_⟩
  rcases h.2 with hn | ⟨g, cap, cur, hv, hb, rest⟩
  · exact .inl hn
  · exact .inr ⟨g, cap, cur, hv, by omega, rest⟩
theorem nMany_nx {α : Type} {f : List UInt8 → α × List UInt8} {l r r' : List UInt8} {k : Nat} {S : List α} {s : α} (h : nMany f k l = (S, r)) (h2 : f r = (s, r')) : nMany f (k + 1) l = (S ++ [s], r') := by
  show ((nMany f k l).1 ++ [(f (nMany f k l).2).1], (f (nMany f k l).2).2) = _
  rw [h]; show (S ++ [(f r).1], (f r).2) = _; rw [h2]

set_option maxHeartbeats 8000000 in
theorem imgFrom_at (L : List UInt8) (w : World) (hm : L.length ≤ 4096) : Calls Try.prog 17 #[.string (bstr L)] w (AnsB w (noE L).1 (noE L).2) := by
  have m0 : ((w.alloc (.cells #[.int .i64 0, .slice none 0 0, .slice none 0 0, .slice none 0 0, .slice none 0 0] 26)).alloc (.cells #[.string (bstr L)] 80)).heap[w.heap.size]? = some (.cells #[.int .i64 0, .slice none 0 0, .slice none 0 0, .slice none 0 0, .slice none 0 0] 26) := cells_alloc (World.alloc_heap_new _ _) _
  have m1 : ((w.alloc (.cells #[.int .i64 0, .slice none 0 0, .slice none 0 0, .slice none 0 0, .slice none 0 0] 26)).alloc (.cells #[.string (bstr L)] 80)).heap[w.heap.size + 1]? = some (.cells #[.string (bstr L)] 80) := by have := World.alloc_heap_new (w.alloc (.cells #[.int .i64 0, .slice none 0 0, .slice none 0 0, .slice none 0 0, .slice none 0 0] 26)) (.cells #[.string (bstr L)] 80); simpa using this
  have hz0 : ((w.alloc (.cells #[.int .i64 0, .slice none 0 0, .slice none 0 0, .slice none 0 0, .slice none 0 0] 26)).alloc (.cells #[.string (bstr L)] 80)).heap.size = w.heap.size + 1 + 1 := by simp
  have b0 : Below w.heap.size w ((w.alloc (.cells #[.int .i64 0, .slice none 0 0, .slice none 0 0, .slice none 0 0, .slice none 0 0] 26)).alloc (.cells #[.string (bstr L)] 80)) := ((Below.refl _ _).alloc (Nat.le_refl _) _).alloc (by simp) _
  obtain ⟨w1, hw1⟩ : ∃ X, ((w.alloc (.cells #[.int .i64 0, .slice none 0 0, .slice none 0 0, .slice none 0 0, .slice none 0 0] 26)).alloc (.cells #[.string (bstr L)] 80)) = X := ⟨_, rfl⟩
  rw [hw1] at m0 m1 hz0 b0
  obtain ⟨R, hRe⟩ : ∃ X, w.heap.size + 1 = X := ⟨_, rfl⟩
  rw [hRe] at m1 hz0
  have hR : R < w1.heap.size := by omega
  have HZ := Hid_mkZ (And.intro m0 (And.intro hRe (And.intro hz0 b0)))
  obtain ⟨g, L1, hg⟩ : ∃ a b, nNum L = (a, b) := ⟨_, _, rfl⟩
  have hg5 := nNum_le L
  rw [hg] at hg5
  dsimp only at hg5
  have HB := Hid_mkZ (nbyte_is m1 hm)
  rw [hg] at HB
  have HW1 := Hid_mkZ (And.intro hw1 hRe)
  clear m0 m1 hz0 b0 hw1 hRe
  go_enter Try.func17, Try.ntmps17
  go_upto_region 2 with fail
  rw [HW1.out.1]
  try rw [HW1.out.2]
  go_wp2_with fail
  refine HB.out.mono ?_
  rintro e9 wa ⟨rfl, Ta⟩
  clear HB
  have HMb := Hid_mkZ (NoM.start Ta hR (g : Int))
  obtain ⟨D, hDe⟩ : ∃ X, wa.heap.size = X := ⟨_, rfl⟩
  have hD0 := Ta.size
  rw [hDe] at HMb hD0
  have HDe := Hid_mkZ hDe
  clear Ta hDe
  obtain ⟨n, L2, hn⟩ : ∃ a b, nNum L1 = (a, b) := ⟨_, _, rfl⟩
  have hn5 := nNum_le L1
  rw [hn] at hn5
  dsimp only at hn5
  have HN := Hid_mkZ ((nbyte_is HMb.out.t.box (by omega)).mono fun r W' q => (show r = .returned (.int .i64 ((nNum L1).1 : Int)) ∧ NoM w1 W' R D (nNum L1).2 ⟨(g : Int), [], [], [], []⟩ from ⟨q.1, HMb.out.read q.2⟩))
  rw [hn] at HN
  go_upto_region 3 with fail
  try rw [HDe.out]
  go_wp2_with fail
  refine HN.out.mono ?_
  rintro e9 wc ⟨rfl, Mc⟩
  have Mc := Hid_mkZ Mc
  clear HN HMb
  go_wp2_with fail
  go_loopw [6] (fun i wr => ∃ k j : Nat, k + j = n ∧ i = .int .i64 (j : Int) ∧ ∃ lk Sk, nMany nSlot k L2 = (Sk, lk) ∧ Hid (NoM w1 wr R D lk (⟨(g : Int), [], Sk, [], []⟩ : ImgD))) (fun i _ => (intOf i).toNat)
  case atStart => exact ⟨0, n, by omega, rfl, L2, [], rfl, Mc⟩
  case round =>
    clear Mc
    obtain ⟨k, j, hkj, rfl, lk, Sk, hpk, HM⟩ := hrel
    obtain ⟨wq, hv⟩ : ∃ X, X = wr := ⟨_, rfl⟩
    subst hv
    have hle := nMany_le nSlot_le L2 k
    rw [hpk] at hle
    have hlk4 : lk.length ≤ 4096 := by have := hle.1; dsimp only at this; omega
    have HSk : Hid (Sk.length ≤ 300) := by have := hle.2; dsimp only at this; show Sk.length ≤ 300; omega
    clear hle
    by_cases hj : 0 < j
    · have hji : (0 : Int) < (j : Int) := by omega
      have hpk := Hid_mkZ hpk
      obtain ⟨M, hMe⟩ : ∃ x, (⟨(g : Int), [], Sk, [], []⟩ : ImgD) = x := ⟨_, rfl⟩
      rw [hMe] at HM
      have HMe := Hid_mkZ hMe
      clear hMe
      obtain ⟨kd, r1, hkd⟩ : ∃ a b, nNum lk = (a, b) := ⟨_, _, rfl⟩
      have hk5 := nNum_le lk
      rw [hkd] at hk5
      dsimp only at hk5
      have HB := Hid_mkZ (nbyte_is HM.out.t.box hlk4)
      rw [hkd] at HB
      go_wp2_with fail
      refine HB.out.mono ?_
      rintro e9 wa ⟨rfl, Ta⟩
      clear HB
      have HMa := Hid_mkZ (HM.out.read Ta)
      have HT := Hid_mkZ Ta
      have hsa := Ta.size
      clear Ta
      obtain ⟨xb, hxb⟩ : ∃ X, wa.heap.size = X := ⟨_, rfl⟩
      have k3 : (wa.alloc (.cells #[.int .i64 (kd : Int), .string ⟨#[]⟩, .slice none 0 0] 60)).heap[wa.heap.size]? = some (.cells #[.int .i64 (kd : Int), .string ⟨#[]⟩, .slice none 0 0] 60) := World.alloc_heap_new _ _
      have hz : (wa.alloc (.cells #[.int .i64 (kd : Int), .string ⟨#[]⟩, .slice none 0 0] 60)).heap.size = wa.heap.size + 1 := by simp
      have hkp : ∀ q, q < wa.heap.size → (wa.alloc (.cells #[.int .i64 (kd : Int), .string ⟨#[]⟩, .slice none 0 0] 60)).heap[q]? = wa.heap[q]? := fun q hq => Below.heap_alloc _ _ q hq
      have HMb := Hid_mkZ (HMa.out.alloc (.cells #[.int .i64 (kd : Int), .string ⟨#[]⟩, .slice none 0 0] 60))
      obtain ⟨wb, hwb⟩ : ∃ X, wa.alloc (.cells #[.int .i64 (kd : Int), .string ⟨#[]⟩, .slice none 0 0] 60) = X := ⟨_, rfl⟩
      rw [hwb] at k3 hz hkp HMb
      rw [hxb] at k3 hz hkp
      have HWb := Hid_mkZ (And.intro hwb hxb)
      obtain ⟨c0, c1, c2⟩ := three k3
      have f1 := cells_frozen k3 1
      have f2 := cells_frozen k3 2
      have Hb := Hid_mkZ (And.intro k3 (And.intro hz hkp))
      have hRl : R < w1.heap.size := HM.out.hR
      have hDl := HM.out.hD
      have hDa : D < xb := by
        obtain ⟨val, _, hb⟩ := HMa.out.ex
        have := (Array.getElem?_eq_some_iff.1 hb).1
        omega
      have hr4 : r1.length ≤ 4096 := by omega
      clear hwb hxb k3 hz hkp
      go_upto_region 7 with fail
      rw [HWb.out.1]
      try rw [HWb.out.2]
      by_cases h1 : kd = 1
      · have e1 : ((kd : Int) == 1) = true := by rw [h1]; rfl
        have HTx := Hid_mkZ (ntext_is (n := 4) HMb.out.t.box hr4)
        obtain ⟨tx, lr, htx⟩ : ∃ a b, nText 4 r1 = (a, b) := ⟨_, _, rfl⟩
        rw [htx] at HTx
        have HSl : Hid (nSlot lk = (((kd : Int), bstr tx, []), lr)) := by
          show nSlot lk = _
          unfold nSlot nKind
          rw [hkd]
          dsimp only
          rw [if_pos h1, htx, h1]
          rfl
        clear h1 htx hkd
        go_wp2_with fail
        refine HTx.out.mono ?_
        rintro e9 wc ⟨rfl, Tc⟩
        clear HTx
        have kc := (Tc.keep xb (by rw [Hb.out.2.1]; omega) (by omega)).trans Hb.out.1
        obtain ⟨d0, d1, d2⟩ := three kc
        have g1 := cells_frozen kc 1
        obtain ⟨Y, hY⟩ : ∃ X, wc.setCell ⟨xb, 1, none⟩ (.string (bstr tx)) = X := ⟨_, rfl⟩
        have HXb : Hid (Y.heap[xb]? = some (.cells #[.int .i64 (kd : Int), .string (bstr tx), .slice none 0 0] 60)) := by rw [← hY]; exact cells_set kc 1 _
        have HKY : Hid (∀ q, q < wa.heap.size → q ≠ R → Y.heap[q]? = wa.heap[q]?) := fun q hq hn => by
          rw [← hY, Below.heap_setCell _ ⟨xb, 1, none⟩ _ q (by have := HWb.out.2; show q ≠ xb; omega)]
          exact (Tc.keep q (by rw [Hb.out.2.1]; have := HWb.out.2; omega) hn).trans (Hb.out.2.2 q (by have := HWb.out.2; omega))
        have HY : Hid (NoM w1 Y R D lr M) := by
          refine HMa.out.keepX (l' := lr) ?_ HKY.out
          rw [← hY]; exact (HMb.out.t.trans Tc).other (by have := HMa.out.t.size; omega) hRl _
        have HTv : Hid (Y.ownsRow (D + 1) 3 1 (.slice none 0 0) ([] : List Int).length (ints ([] : List Int))) := World.ownsRow_nil _ _ _ _
        have HXs : Hid (D < Y.heap.size) := by
          obtain ⟨val, _, hb⟩ := HY.out.ex
          exact (Array.getElem?_eq_some_iff.1 hb).1
        have HYe := Hid_mkZ hY
        clear hY kc Tc c0 c1 c2 f1 f2
        go_upto_region 12 with fail
        rw [HYe.out]
        clear d0 d1 d2 g1
        obtain ⟨val, hX, hbox, hlow⟩ := HMa.out.open HKY.out
        have hD := HY.out.hD
        have hDl : D < Y.heap.size := (Array.getElem?_eq_some_iff.1 hbox).1
        obtain ⟨kn, hkn⟩ : ∃ x, M.slots.length = x := ⟨_, rfl⟩
        have hkn4 : kn ≤ 300 := by rw [← hkn, ← HMe.out]; exact HSk.out
        obtain ⟨pa, pc, hp, _⟩ := hX.forms .slots (LiveX.slots _)
        have hp : val .slots = .slice pa kn pc := by rw [hp]; show Value.slice pa M.slots.length pc = _; rw [hkn]
        have hrow := hX.row .slots (LiveX.slots _)
        have hrow : Y.ownsRow (D + 1) 60 3 (val .slots) M.slots.length (flatS M.slots (fun j => val (.tab j))) := hrow
        rw [hkn, hp] at hrow
        have HX : Hid (OX Y (D + 1) val M ∧ (val .slots = .slice pa kn pc ∧ M.slots.length = kn) ∧ Y.heap[D]? = some (.cells #[.int .i64 M.guest, val .root, val .slots, val .refs, val .snaps] 26) ∧ FarX M val (.tab M.slots.length) (.slice none 0 0)) := ⟨hX, ⟨hp, hkn⟩, hbox, fun b _ _ g hg _ => by cases hg⟩
        rw [hp] at hbox
        obtain ⟨d0, d1, d2, d3, d4⟩ := five hbox
        have fD := cells_frozen hbox 2
        obtain ⟨t0, t1, t2⟩ := three HXb.out
        have HBX := Hid_mkZ hbox
        have HRW := Hid_mkZ hrow
        have hDs := HXs.out
        clear hX hp hkn hbox hrow
        go_wp2_with (at_builtin; refine wpList_app3 (by rfl) _ _ 23 60 _ Try.underlying23 infoSlot (by rfl) (by rfl) (B := D + 1) (v := .slice pa kn pc) (c0 := .int .i64 (kd : Int)) (c1 := .string (bstr tx)) (c2 := .slice none 0 0) (by rfl) (by rfl) (by rfl) (by rfl) (by rfl) (by simp) HRW.out (by omega) (by omega) ?_; intro v1 w8 h1 h2 h3; obtain ⟨g1, cap1, hv1⟩ := row_some h1.out; subst hv1; have z2 := (h2.block D (by simp; omega) (fun e => by have := (HRW.out.lt D e.symm).1; omega)).trans (cells_alloc HBX.out _); obtain ⟨x0, x1, x2, x3, x4⟩ := five z2; have y2 := cells_frozen z2 2; have H1 := Hid_mkZ h1; have H2 := Hid_mkZ h2; have H3 := Hid_mkZ h3; clear h1 h2 h3 z2)
        have HN : NoM w1 (w8.setCell ⟨D, 2, none⟩ (.slice (some ⟨g1, 0, none⟩) (kn + 1) cap1)) R D lr { M with slots := M.slots ++ [((kd : Int), bstr tx, ([] : List Int))] } := by
          refine NoM.slot (es := ([] : List Int)) (kk := (kd : Int)) (dd := bstr tx) (ev := .slice none 0 0) (HY.out.t.alloc (.cells #[.int .i64 (kd : Int), .string (bstr tx), .slice none 0 0] 60)) HY.out.hR HY.out.hD (HX.out.1.alloc _) (cells_alloc HX.out.2.2.1 _) (row_blkS1 HTv.out (fun g e => Below.heap_alloc _ _ g (HTv.out.lt g e).2)) HX.out.2.2.2 (by rw [HX.out.2.1.1]; exact H2.out) (by rw [HX.out.2.1.2]; exact H1.out.out) ?_
          rw [HX.out.2.1.1]
          rcases H3.out.out with x | x
          · exact .inl x
          · refine .inr (fun g e => ?_)
            rw [x] at e
            cases e
            simp
        have HN := Hid_mkZ HN
        go_roundw
        case rel => exact ⟨k + 1, j - 1, by omega, by go_num, lr, _, nMany_nx hpk.out HSl.out, by rw [← HMe.out] at HN; exact HN⟩
        case measure => simp [intOf]; omega

      by_cases h2 : kd = 2
      · have e1 : ((kd : Int) == 1) = false := by rw [h2]; rfl
        have e2 : ((kd : Int) == 2) = true := by rw [h2]; rfl
        have HTx := Hid_mkZ (nlist_at R 4 r1 wb HMb.out.t.box (by omega) (fun k => Nat.le_trans (nList_le r1 k) hr4))
        obtain ⟨es, lr, htx⟩ : ∃ a b, nList 4 r1 = (a, b) := ⟨_, _, rfl⟩
        have hes : es.length = 4 := by have := nList_len r1 4; rw [htx] at this; exact this
        rw [htx] at HTx
        have HSl : Hid (nSlot lk = (((kd : Int), ⟨#[]⟩, es), lr)) := by
          show nSlot lk = _
          unfold nSlot nKind
          rw [hkd]
          dsimp only
          rw [if_neg (by omega), if_pos h2, htx, h2]
          rfl
        have Hes := Hid_mkZ hes
        clear hes h1 h2 htx hkd
        go_wp2_with fail
        refine HTx.out.mono ?_
        rintro e9 wc ⟨tv, rfl, Tc, rc⟩
        obtain ⟨ta, tc, rfl⟩ := row_slice rc
        clear HTx
        have kc := (Tc.keep xb (by rw [Hb.out.2.1]; omega) (by omega)).trans Hb.out.1
        obtain ⟨d0, d1, d2⟩ := three kc
        have g2 := cells_frozen kc 2
        obtain ⟨Y, hY⟩ : ∃ X, wc.setCell ⟨xb, 2, none⟩ (.slice ta 4 tc) = X := ⟨_, rfl⟩
        have HXb : Hid (Y.heap[xb]? = some (.cells #[.int .i64 (kd : Int), .string ⟨#[]⟩, .slice ta 4 tc] 60)) := by rw [← hY]; exact cells_set kc 2 _
        have HKY : Hid (∀ q, q < wa.heap.size → q ≠ R → Y.heap[q]? = wa.heap[q]?) := fun q hq hn => by
          rw [← hY, Below.heap_setCell _ ⟨xb, 2, none⟩ _ q (by have := HWb.out.2; show q ≠ xb; omega)]
          exact (Tc.keep q (by rw [Hb.out.2.1]; have := HWb.out.2; omega) hn).trans (Hb.out.2.2 q (by have := HWb.out.2; omega))
        have HY : Hid (NoM w1 Y R D lr M) := by
          refine HMa.out.keepX (l' := lr) ?_ HKY.out
          rw [← hY]; exact (HMb.out.t.trans Tc).other (by have := HMa.out.t.size; omega) hRl _
        have HTv : Hid (Y.ownsRow (D + 1) 3 1 (.slice ta 4 tc) es.length (ints es)) := by
          show Y.ownsRow (D + 1) 3 1 (.slice ta 4 tc) es.length (ints es)
          rw [Hes.out, ← hY]
          exact row_monoX (ownsRow_setCell_other rc (fun e => by have h9 : wb.heap.size ≤ xb := (rc.lt _ e).1; rw [Hb.out.2.1] at h9; omega) _) (by rw [Hb.out.2.1]; omega)
        have HXs : Hid (D < Y.heap.size) := by
          obtain ⟨val, _, hb⟩ := HY.out.ex
          exact (Array.getElem?_eq_some_iff.1 hb).1
        have HFr : Hid (∀ g, (Value.slice ta 4 tc).ownBlock = some g → xb < g) := fun g e => by have := (rc.lt _ e).1; rw [Hb.out.2.1] at this; omega
        have HYe := Hid_mkZ hY
        clear hY kc Tc c0 c1 c2 f1 f2 rc
        go_upto_region 12 with fail
        rw [HYe.out]
        clear d0 d1 d2 g2
        obtain ⟨val, hX, hbox, hlow⟩ := HMa.out.open HKY.out
        have hD := HY.out.hD
        have hDl : D < Y.heap.size := (Array.getElem?_eq_some_iff.1 hbox).1
        obtain ⟨kn, hkn⟩ : ∃ x, M.slots.length = x := ⟨_, rfl⟩
        have hkn4 : kn ≤ 300 := by rw [← hkn, ← HMe.out]; exact HSk.out
        obtain ⟨pa, pc, hp, _⟩ := hX.forms .slots (LiveX.slots _)
        have hp : val .slots = .slice pa kn pc := by rw [hp]; show Value.slice pa M.slots.length pc = _; rw [hkn]
        have hrow := hX.row .slots (LiveX.slots _)
        have hrow : Y.ownsRow (D + 1) 60 3 (val .slots) M.slots.length (flatS M.slots (fun j => val (.tab j))) := hrow
        rw [hkn, hp] at hrow
        have HX : Hid (OX Y (D + 1) val M ∧ (val .slots = .slice pa kn pc ∧ M.slots.length = kn) ∧ Y.heap[D]? = some (.cells #[.int .i64 M.guest, val .root, val .slots, val .refs, val .snaps] 26) ∧ FarX M val (.tab M.slots.length) (.slice ta 4 tc)) := ⟨hX, ⟨hp, hkn⟩, hbox, fun b hb _ g hg e => by have h5 := HFr.out g hg; have h6 := hlow b hb g e; have h7 := HWb.out.2; omega⟩
        rw [hp] at hbox
        obtain ⟨d0, d1, d2, d3, d4⟩ := five hbox
        have fD := cells_frozen hbox 2
        obtain ⟨t0, t1, t2⟩ := three HXb.out
        have HBX := Hid_mkZ hbox
        have HRW := Hid_mkZ hrow
        have hDs := HXs.out
        clear hX hp hkn hbox hrow
        go_wp2_with (at_builtin; refine wpList_app3 (by rfl) _ _ 23 60 _ Try.underlying23 infoSlot (by rfl) (by rfl) (B := D + 1) (v := .slice pa kn pc) (c0 := .int .i64 (kd : Int)) (c1 := .string ⟨#[]⟩) (c2 := .slice ta 4 tc) (by rfl) (by rfl) (by rfl) (by rfl) (by rfl) (by simp) HRW.out (by omega) (by omega) ?_; intro v1 w8 h1 h2 h3; obtain ⟨g1, cap1, hv1⟩ := row_some h1.out; subst hv1; have z2 := (h2.block D (by simp; omega) (fun e => by have := (HRW.out.lt D e.symm).1; omega)).trans (cells_alloc HBX.out _); obtain ⟨x0, x1, x2, x3, x4⟩ := five z2; have y2 := cells_frozen z2 2; have H1 := Hid_mkZ h1; have H2 := Hid_mkZ h2; have H3 := Hid_mkZ h3; clear h1 h2 h3 z2)
        have HN : NoM w1 (w8.setCell ⟨D, 2, none⟩ (.slice (some ⟨g1, 0, none⟩) (kn + 1) cap1)) R D lr { M with slots := M.slots ++ [((kd : Int), ⟨#[]⟩, es)] } := by
          refine NoM.slot (es := es) (kk := (kd : Int)) (dd := ⟨#[]⟩) (ev := .slice ta 4 tc) (HY.out.t.alloc (.cells #[.int .i64 (kd : Int), .string ⟨#[]⟩, .slice ta 4 tc] 60)) HY.out.hR HY.out.hD (HX.out.1.alloc _) (cells_alloc HX.out.2.2.1 _) (row_blkS1 HTv.out (fun g e => Below.heap_alloc _ _ g (HTv.out.lt g e).2)) HX.out.2.2.2 (by rw [HX.out.2.1.1]; exact H2.out) (by rw [HX.out.2.1.2]; exact H1.out.out) ?_
          rw [HX.out.2.1.1]
          rcases H3.out.out with x | x
          · exact .inl x
          · refine .inr (fun g e => ?_)
            rw [x] at e
            cases e
            simp
        have HN := Hid_mkZ HN
        go_roundw
        case rel => exact ⟨k + 1, j - 1, by omega, by go_num, lr, _, nMany_nx hpk.out HSl.out, by rw [← HMe.out] at HN; exact HN⟩
        case measure => simp [intOf]; omega

      · have e1 : ((kd : Int) == 1) = false := by simp; omega
        have e2 : ((kd : Int) == 2) = false := by simp; omega
        obtain ⟨lr, hlr⟩ : ∃ X, X = r1 := ⟨_, rfl⟩
        subst hlr
        have HSl : Hid (nSlot lk = (((kd : Int), ⟨#[]⟩, []), lr)) := by
          show nSlot lk = _
          unfold nSlot nKind
          rw [hkd]
          dsimp only
          rw [if_neg h1, if_neg h2]
        clear h1 h2 hkd
        obtain ⟨Y, hY⟩ : ∃ X, X = wb := ⟨_, rfl⟩
        subst hY
        have HXb := Hid_mkZ Hb.out.1
        have HY := Hid_mkZ HMb.out
        have HKY : Hid (∀ q, q < wa.heap.size → q ≠ R → Y.heap[q]? = wa.heap[q]?) := fun q hq hn => Hb.out.2.2 q (by have := HWb.out.2; omega)
        have HTv : Hid (Y.ownsRow (D + 1) 3 1 (.slice none 0 0) ([] : List Int).length (ints ([] : List Int))) := World.ownsRow_nil _ _ _ _
        have HXs : Hid (D < Y.heap.size) := by
          obtain ⟨val, _, hb⟩ := HY.out.ex
          exact (Array.getElem?_eq_some_iff.1 hb).1
        clear f1 f2
        go_upto_region 12 with fail
        clear c0 c1 c2
        obtain ⟨val, hX, hbox, hlow⟩ := HMa.out.open HKY.out
        have hD := HY.out.hD
        have hDl : D < Y.heap.size := (Array.getElem?_eq_some_iff.1 hbox).1
        obtain ⟨kn, hkn⟩ : ∃ x, M.slots.length = x := ⟨_, rfl⟩
        have hkn4 : kn ≤ 300 := by rw [← hkn, ← HMe.out]; exact HSk.out
        obtain ⟨pa, pc, hp, _⟩ := hX.forms .slots (LiveX.slots _)
        have hp : val .slots = .slice pa kn pc := by rw [hp]; show Value.slice pa M.slots.length pc = _; rw [hkn]
        have hrow := hX.row .slots (LiveX.slots _)
        have hrow : Y.ownsRow (D + 1) 60 3 (val .slots) M.slots.length (flatS M.slots (fun j => val (.tab j))) := hrow
        rw [hkn, hp] at hrow
        have HX : Hid (OX Y (D + 1) val M ∧ (val .slots = .slice pa kn pc ∧ M.slots.length = kn) ∧ Y.heap[D]? = some (.cells #[.int .i64 M.guest, val .root, val .slots, val .refs, val .snaps] 26) ∧ FarX M val (.tab M.slots.length) (.slice none 0 0)) := ⟨hX, ⟨hp, hkn⟩, hbox, fun b _ _ g hg _ => by cases hg⟩
        rw [hp] at hbox
        obtain ⟨d0, d1, d2, d3, d4⟩ := five hbox
        have fD := cells_frozen hbox 2
        obtain ⟨t0, t1, t2⟩ := three HXb.out
        have HBX := Hid_mkZ hbox
        have HRW := Hid_mkZ hrow
        have hDs := HXs.out
        clear hX hp hkn hbox hrow
        go_wp2_with (at_builtin; refine wpList_app3 (by rfl) _ _ 23 60 _ Try.underlying23 infoSlot (by rfl) (by rfl) (B := D + 1) (v := .slice pa kn pc) (c0 := .int .i64 (kd : Int)) (c1 := .string ⟨#[]⟩) (c2 := .slice none 0 0) (by rfl) (by rfl) (by rfl) (by rfl) (by rfl) (by simp) HRW.out (by omega) (by omega) ?_; intro v1 w8 h1 h2 h3; obtain ⟨g1, cap1, hv1⟩ := row_some h1.out; subst hv1; have z2 := (h2.block D (by simp; omega) (fun e => by have := (HRW.out.lt D e.symm).1; omega)).trans (cells_alloc HBX.out _); obtain ⟨x0, x1, x2, x3, x4⟩ := five z2; have y2 := cells_frozen z2 2; have H1 := Hid_mkZ h1; have H2 := Hid_mkZ h2; have H3 := Hid_mkZ h3; clear h1 h2 h3 z2)
        have HN : NoM w1 (w8.setCell ⟨D, 2, none⟩ (.slice (some ⟨g1, 0, none⟩) (kn + 1) cap1)) R D lr { M with slots := M.slots ++ [((kd : Int), ⟨#[]⟩, ([] : List Int))] } := by
          refine NoM.slot (es := ([] : List Int)) (kk := (kd : Int)) (dd := ⟨#[]⟩) (ev := .slice none 0 0) (HY.out.t.alloc (.cells #[.int .i64 (kd : Int), .string ⟨#[]⟩, .slice none 0 0] 60)) HY.out.hR HY.out.hD (HX.out.1.alloc _) (cells_alloc HX.out.2.2.1 _) (row_blkS1 HTv.out (fun g e => Below.heap_alloc _ _ g (HTv.out.lt g e).2)) HX.out.2.2.2 (by rw [HX.out.2.1.1]; exact H2.out) (by rw [HX.out.2.1.2]; exact H1.out.out) ?_
          rw [HX.out.2.1.1]
          rcases H3.out.out with x | x
          · exact .inl x
          · refine .inr (fun g e => ?_)
            rw [x] at e
            cases e
            simp
        have HN := Hid_mkZ HN
        go_roundw
        case rel => exact ⟨k + 1, j - 1, by omega, by go_num, lr, _, nMany_nx hpk.out HSl.out, by rw [← HMe.out] at HN; exact HN⟩
        case measure => simp [intOf]; omega

    · have e0 : j = 0 := by omega
      subst e0
      have ek : k = n := by omega
      rw [ek] at hpk
      clear ek
      obtain ⟨SS, hSe⟩ : ∃ X, X = Sk := ⟨_, rfl⟩
      subst hSe
      obtain ⟨l3, hSe⟩ : ∃ X, X = lk := ⟨_, rfl⟩
      subst hSe
      have hSS := Hid_mkZ hpk
      obtain ⟨h, L4, hh⟩ : ∃ a b, nNum l3 = (a, b) := ⟨_, _, rfl⟩
      have hh5 := nNum_le l3
      rw [hh] at hh5
      dsimp only at hh5
      have HN := Hid_mkZ ((nbyte_is HM.out.t.box hlk4).mono fun r W' q => (show r = .returned (.int .i64 ((nNum l3).1 : Int)) ∧ NoM w1 W' R D (nNum l3).2 ⟨(g : Int), [], SS, [], []⟩ from ⟨q.1, HM.out.read q.2⟩))
      rw [hh] at HN
      have HSl9 := HSk
      have Hh := Hid_mkZ (And.intro hSS.out hh)
      clear HM HSk hpk
      go_wp2_with fail
      refine HN.out.mono ?_
      rintro e9 wx ⟨rfl, Mx⟩
      have Mx := Hid_mkZ Mx
      clear HN
      go_wp2_with fail
      go_loopw [8] (fun i wr => ∃ k j : Nat, k + j = h ∧ i = .int .i64 (j : Int) ∧ ∃ lk Sk, nMany nSnap k L4 = (Sk, lk) ∧ Hid (NoM w1 wr R D lk (⟨(g : Int), [], SS, [], Sk⟩ : ImgD))) (fun i _ => (intOf i).toNat)
      case atStart => exact ⟨0, h, by omega, rfl, L4, [], rfl, Mx⟩
      case round =>
        clear Mx
        obtain ⟨k, j, hkj, rfl, lk, Sk, hpk, HM⟩ := hrel
        obtain ⟨wq, hv⟩ : ∃ X, X = wr := ⟨_, rfl⟩
        subst hv
        have hle := nMany_le nSnap_le L4 k
        rw [hpk] at hle
        have hlk4 : lk.length ≤ 4096 := by have := hle.1; dsimp only at this; omega
        have HSk : Hid (Sk.length ≤ 300) := by have := hle.2; dsimp only at this; show Sk.length ≤ 300; omega
        clear hle
        by_cases hj : 0 < j
        · have hji : (0 : Int) < (j : Int) := by omega
          have hpk := Hid_mkZ hpk
          obtain ⟨M, hMe⟩ : ∃ x, (⟨(g : Int), [], SS, [], Sk⟩ : ImgD) = x := ⟨_, rfl⟩
          rw [hMe] at HM
          have HMe := Hid_mkZ hMe
          clear hMe
          obtain ⟨sz, r1, hsz⟩ : ∃ a b, nNum lk = (a, b) := ⟨_, _, rfl⟩
          have hs5 := nNum_le lk
          rw [hsz] at hs5
          dsimp only at hs5
          have HB := Hid_mkZ (nbyte_is HM.out.t.box hlk4)
          rw [hsz] at HB
          go_wp2_with fail
          refine HB.out.mono ?_
          rintro e9 wz ⟨rfl, Tz⟩
          clear HB
          have HMz := Hid_mkZ (HM.out.read Tz)
          clear Tz
          obtain ⟨tx, r2, htx⟩ : ∃ a b, nText sz r1 = (a, b) := ⟨_, _, rfl⟩
          have ht5 := nText_le sz r1
          rw [htx] at ht5
          dsimp only at ht5
          have HTx := Hid_mkZ (ntext_is (n := sz) HMz.out.t.box (by omega))
          rw [htx] at HTx
          go_wp2_with fail
          refine HTx.out.mono ?_
          rintro e9 wa ⟨rfl, Ta⟩
          clear HTx
          have HMa := Hid_mkZ (HMz.out.read Ta)
          have hsa := Ta.size
          clear Ta
          obtain ⟨xb, hxb⟩ : ∃ X, wa.heap.size = X := ⟨_, rfl⟩
          have k3 : (wa.alloc (.cells #[.string (bstr tx), .int .i64 0, .slice none 0 0] 74)).heap[wa.heap.size]? = some (.cells #[.string (bstr tx), .int .i64 0, .slice none 0 0] 74) := World.alloc_heap_new _ _
          have hz : (wa.alloc (.cells #[.string (bstr tx), .int .i64 0, .slice none 0 0] 74)).heap.size = wa.heap.size + 1 := by simp
          have hkp : ∀ q, q < wa.heap.size → (wa.alloc (.cells #[.string (bstr tx), .int .i64 0, .slice none 0 0] 74)).heap[q]? = wa.heap[q]? := fun q hq => Below.heap_alloc _ _ q hq
          have HMb := Hid_mkZ (HMa.out.alloc (.cells #[.string (bstr tx), .int .i64 0, .slice none 0 0] 74))
          obtain ⟨wb, hwb⟩ : ∃ X, wa.alloc (.cells #[.string (bstr tx), .int .i64 0, .slice none 0 0] 74) = X := ⟨_, rfl⟩
          rw [hwb] at k3 hz hkp HMb
          rw [hxb] at k3 hz hkp
          have HWb := Hid_mkZ (And.intro hwb hxb)
          have Hb := Hid_mkZ (And.intro k3 (And.intro hz hkp))
          have hRl : R < w1.heap.size := HM.out.hR
          have hDl := HM.out.hD
          have hDa : D < xb := by
            obtain ⟨val, _, hb⟩ := HMa.out.ex
            have := (Array.getElem?_eq_some_iff.1 hb).1
            omega
          obtain ⟨gg, r3, hgg⟩ : ∃ a b, nNum r2 = (a, b) := ⟨_, _, rfl⟩
          have hg5 := nNum_le r2
          rw [hgg] at hg5
          dsimp only at hg5
          have HB := Hid_mkZ (nbyte_is HMb.out.t.box (by omega))
          rw [hgg] at HB
          clear hwb hxb k3 hz hkp
          go_upto_region 18 with fail
          rw [HWb.out.1]
          try rw [HWb.out.2]
          go_wp2_with fail
          refine HB.out.mono ?_
          rintro e9 wc ⟨rfl, Tc⟩
          clear HB
          have kc := (Tc.keep xb (by rw [Hb.out.2.1]; omega) (by omega)).trans Hb.out.1
          obtain ⟨d0, d1, d2⟩ := three kc
          have g1 := cells_frozen kc 1
          obtain ⟨wd, hwd⟩ : ∃ X, wc.setCell ⟨xb, 1, none⟩ (.int .i64 (gg : Int)) = X := ⟨_, rfl⟩
          have kd : wd.heap[xb]? = some (.cells #[.string (bstr tx), .int .i64 (gg : Int), .slice none 0 0] 74) := by rw [← hwd]; exact cells_set kc 1 _
          have HKd : Hid (∀ q, q < wa.heap.size → q ≠ R → wd.heap[q]? = wa.heap[q]?) := fun q hq hn => by
            rw [← hwd, Below.heap_setCell _ ⟨xb, 1, none⟩ _ q (by have := HWb.out.2; show q ≠ xb; omega)]
            exact (Tc.keep q (by rw [Hb.out.2.1]; have := HWb.out.2; omega) hn).trans (Hb.out.2.2 q (by have := HWb.out.2; omega))
          have HMd : Hid (NoM w1 wd R D r3 M) := by
            refine HMa.out.keepX (l' := r3) ?_ HKd.out
            rw [← hwd]; exact (HMb.out.t.trans Tc).other (by have := HMa.out.t.size; omega) hRl _
          have hszd : xb < wd.heap.size := (Array.getElem?_eq_some_iff.1 kd).1
          have HWd := Hid_mkZ hwd
          have Kd := Hid_mkZ kd
          clear hwd kc Tc
          go_upto_region 19 with fail
          rw [HWd.out]
          clear d0 d1 d2 g1
          obtain ⟨d0, d1, d2⟩ := three kd
          have g2 := cells_frozen kd 2
          obtain ⟨nn, hnn⟩ : ∃ x, (gg + 3) / 4 = x := ⟨_, rfl⟩
          have HWa := Hid_mkZ (wants255 gg nn wd (by omega) hnn)
          have hn1 : nn ≤ 1000 := by omega
          obtain ⟨es, lr, hli⟩ : ∃ a b, nList nn r3 = (a, b) := ⟨_, _, rfl⟩
          have HLi := Hid_mkZ (nlist_at R nn r3 wd HMd.out.t.box hn1 (fun k => Nat.le_trans (nList_le r3 k) (by omega)))
          have hes : es.length = nn := by have := nList_len r3 nn; rw [hli] at this; exact this
          rw [hli] at HLi
          have Hes := Hid_mkZ hes
          have HSl : Hid (nSnap lk = ((bstr tx, (gg : Int), es), lr)) := by
            show nSnap lk = _
            have e1 : nSnapT lk = (tx, r2) := by unfold nSnapT; rw [hsz]; exact htx
            have e2 : nSnapG lk = (gg, r3) := by unfold nSnapG; rw [e1]; exact hgg
            have e3 : nSnapR lk = (es, lr) := by unfold nSnapR; rw [e2]; show nList ((gg + 3) / 4) r3 = _; rw [hnn]; exact hli
            unfold nSnap
            rw [e1, e2, e3]
            rfl
          clear hes kd hnn hsz htx hgg hli
          go_wp2_with fail
          refine HWa.out.mono ?_
          rintro e9 w9 ⟨rfl, hw⟩
          rw [hw]
          clear hw HWa
          go_wp2_with fail
          refine HLi.out.mono ?_
          rintro e9 we ⟨tv, rfl, Te, re⟩
          obtain ⟨ta, tc, rfl⟩ := row_slice re
          clear HLi d0 d1 d2 g2
          have ke := (Te.keep xb hszd (by omega)).trans Kd.out
          obtain ⟨d0, d1, d2⟩ := three ke
          have g2 := cells_frozen ke 2
          obtain ⟨Y, hY⟩ : ∃ X, we.setCell ⟨xb, 2, none⟩ (.slice ta nn tc) = X := ⟨_, rfl⟩
          have HXb : Hid (Y.heap[xb]? = some (.cells #[.string (bstr tx), .int .i64 (gg : Int), .slice ta nn tc] 74)) := by rw [← hY]; exact cells_set ke 2 _
          have hwad : wa.heap.size ≤ wd.heap.size := by have := HWb.out.2; omega
          have HKY : Hid (∀ q, q < wa.heap.size → q ≠ R → Y.heap[q]? = wa.heap[q]?) := fun q hq hn => by
            rw [← hY, Below.heap_setCell _ ⟨xb, 2, none⟩ _ q (by have := HWb.out.2; show q ≠ xb; omega)]
            exact (Te.keep q (by omega) hn).trans (HKd.out q hq hn)
          have HY : Hid (NoM w1 Y R D lr M) := by
            refine HMa.out.keepX (l' := lr) ?_ HKY.out
            rw [← hY]; exact (HMd.out.t.trans Te).other (by have := HMa.out.t.size; omega) hRl _
          have HTv : Hid (Y.ownsRow (D + 1) 3 1 (.slice ta nn tc) es.length (ints es)) := by
            show Y.ownsRow (D + 1) 3 1 (.slice ta nn tc) es.length (ints es)
            rw [Hes.out, ← hY]
            exact row_monoX (ownsRow_setCell_other re (fun e => by have h9 : wd.heap.size ≤ xb := (re.lt _ e).1; omega) _) (by omega)
          have HXs : Hid (D < Y.heap.size) := by
            obtain ⟨val, _, hb⟩ := HY.out.ex
            exact (Array.getElem?_eq_some_iff.1 hb).1
          have HFr : Hid (∀ g, (Value.slice ta nn tc).ownBlock = some g → xb < g) := fun g e => by have := (re.lt _ e).1; omega
          have HYe := Hid_mkZ hY
          clear hY ke Te re
          go_upto_region 20 with fail
          rw [HYe.out]
          clear d0 d1 d2 g2
          obtain ⟨val, hX, hbox, hlow⟩ := HMa.out.open HKY.out
          have hD := HY.out.hD
          have hDl : D < Y.heap.size := (Array.getElem?_eq_some_iff.1 hbox).1
          obtain ⟨kn, hkn⟩ : ∃ x, M.snaps.length = x := ⟨_, rfl⟩
          have hkn4 : kn ≤ 300 := by rw [← hkn, ← HMe.out]; exact HSk.out
          obtain ⟨pa, pc, hp, _⟩ := hX.forms .snaps (LiveX.snaps _)
          have hp : val .snaps = .slice pa kn pc := by rw [hp]; show Value.slice pa M.snaps.length pc = _; rw [hkn]
          have hrow := hX.row .snaps (LiveX.snaps _)
          have hrow : Y.ownsRow (D + 1) 74 3 (val .snaps) M.snaps.length (flatN M.snaps (fun j => val (.sr j))) := hrow
          rw [hkn, hp] at hrow
          have HX : Hid (OX Y (D + 1) val M ∧ (val .snaps = .slice pa kn pc ∧ M.snaps.length = kn) ∧ Y.heap[D]? = some (.cells #[.int .i64 M.guest, val .root, val .slots, val .refs, val .snaps] 26) ∧ FarX M val (.sr M.snaps.length) (.slice ta nn tc)) := ⟨hX, ⟨hp, hkn⟩, hbox, fun b hb _ g hg e => by have h5 := HFr.out g hg; have h6 := hlow b hb g e; have h7 := HWb.out.2; omega⟩
          rw [hp] at hbox
          obtain ⟨d0, d1, d2, d3, d4⟩ := five hbox
          have fD := cells_frozen hbox 4
          obtain ⟨t0, t1, t2⟩ := three HXb.out
          have HBX := Hid_mkZ hbox
          have HRW := Hid_mkZ hrow
          have hDs := HXs.out
          clear hX hp hkn hbox hrow
          go_wp2_with (at_builtin; refine wpList_app3 (by rfl) _ _ 24 74 _ Try.underlying24 infoSnap (by rfl) (by rfl) (B := D + 1) (v := .slice pa kn pc) (c0 := .string (bstr tx)) (c1 := .int .i64 (gg : Int)) (c2 := .slice ta nn tc) (by rfl) (by rfl) (by rfl) (by rfl) (by rfl) (by simp) HRW.out (by omega) (by omega) ?_; intro v1 w8 h1 h2 h3; obtain ⟨g1, cap1, hv1⟩ := row_some h1.out; subst hv1; have z2 := (h2.block D (by simp; omega) (fun e => by have := (HRW.out.lt D e.symm).1; omega)).trans (cells_alloc HBX.out _); obtain ⟨x0, x1, x2, x3, x4⟩ := five z2; have y2 := cells_frozen z2 4; have H1 := Hid_mkZ h1; have H2 := Hid_mkZ h2; have H3 := Hid_mkZ h3; clear h1 h2 h3 z2)
          have HN : NoM w1 (w8.setCell ⟨D, 4, none⟩ (.slice (some ⟨g1, 0, none⟩) (kn + 1) cap1)) R D lr { M with snaps := M.snaps ++ [(bstr tx, (gg : Int), es)] } := by
            refine NoM.snap (es := es) (kk := (gg : Int)) (dd := bstr tx) (ev := .slice ta nn tc) (HY.out.t.alloc (.cells #[.string (bstr tx), .int .i64 (gg : Int), .slice ta nn tc] 74)) HY.out.hR HY.out.hD (HX.out.1.alloc _) (cells_alloc HX.out.2.2.1 _) (row_blkS1 HTv.out (fun g e => Below.heap_alloc _ _ g (HTv.out.lt g e).2)) HX.out.2.2.2 (by rw [HX.out.2.1.1]; exact H2.out) (by rw [HX.out.2.1.2]; exact H1.out.out) ?_
            rw [HX.out.2.1.1]
            rcases H3.out.out with x | x
            · exact .inl x
            · refine .inr (fun g e => ?_)
              rw [x] at e
              cases e
              simp
          have HN := Hid_mkZ HN
          go_roundw
          case rel => exact ⟨k + 1, j - 1, by omega, by go_num, lr, _, nMany_nx hpk.out HSl.out, by rw [← HMe.out] at HN; exact HN⟩
          case measure => simp [intOf]; omega

        · have e0 : j = 0 := by omega
          subst e0
          have ek : k = h := by omega
          rw [ek] at hpk
          clear ek
          have hle2 := nMany_le nSnap_le L4 h
          rw [hpk] at hle2
          dsimp only at hle2
          obtain ⟨rn, hrn⟩ : ∃ x, (g + 3) / 4 = x := ⟨_, rfl⟩
          obtain ⟨es, lr, hli⟩ : ∃ a b, nList rn lk = (a, b) := ⟨_, _, rfl⟩
          have hImg : nImg L = ⟨(g : Int), es, SS, [], Sk⟩ := by
            have e1 : nG L = (g, L1) := hg
            have e2 : nN L = (n, L2) := by unfold nN; rw [e1]; exact hn
            have e3 : nS L = (SS, l3) := by unfold nS; rw [e2]; exact Hh.out.1
            have e4 : nK L = (h, L4) := by unfold nK; rw [e3]; exact Hh.out.2
            have e5 : nW L = (Sk, lk) := by unfold nW; rw [e4]; exact hpk
            unfold nImg nR
            rw [e1, e3, e5]
            dsimp only
            rw [hrn, hli]
          have HImg := Hid_mkZ hImg
          have hes : es.length = rn := by have := nList_len lk rn; rw [hli] at this; exact this
          have Hes := Hid_mkZ hes
          have hrn9 : rn ≤ 1000 := by omega
          have HWa := Hid_mkZ (wants255 g rn wq (by omega) hrn)
          have HLi := Hid_mkZ (nlist_at R rn lk wq HM.out.t.box hrn9 (fun k => Nat.le_trans (nList_le lk k) (by omega)))
          rw [hli] at HLi
          obtain ⟨val, hX, hbox⟩ := HM.out.ex
          have hDl : D < wq.heap.size := (Array.getElem?_eq_some_iff.1 hbox).1
          have hDw := HM.out.hD
          have hDR : D ≠ R := by omega
          obtain ⟨d0, d1, d2, d3, d4⟩ := five hbox
          have HX := Hid_mkZ (And.intro hX hbox)
          have Hlk := Hid_mkZ HM.out.t
          clear hes hrn hli hImg hpk hle2 hX hbox
          go_wp2_with fail
          refine HWa.out.mono ?_
          rintro e9 w9 ⟨rfl, hw⟩
          rw [hw]
          clear hw HWa
          go_wp2_with fail
          refine HLi.out.mono ?_
          rintro e9 w7 ⟨tv, rfl, T7, r7⟩
          obtain ⟨ta, tc, rfl⟩ := row_slice r7
          clear HLi d0 d1 d2 d3 d4
          have q7 := (T7.keep D hDl hDR).trans HX.out.2
          obtain ⟨u0, u1, u2, u3, u4⟩ := five q7
          have f7 := cells_frozen q7 1
          have M8 : NoM w1 (w7.setCell ⟨D, 1, none⟩ (.slice ta rn tc)) R D lr ⟨(g : Int), es, SS, [], Sk⟩ := by
            have hX7 := HX.out.1.keep (W' := w7) (fun g hg hl => T7.keep g hl (by omega))
            exact NoM.root (Hlk.out.trans T7) hR hDw hX7 q7 (by rw [Hes.out]; exact row_monoX r7 (by omega)) (farX_new HX.out.1 _ (fun g e => (r7.lt g e).1))
          obtain ⟨w8, hw8⟩ : ∃ X, w7.setCell ⟨D, 1, none⟩ (.slice ta rn tc) = X := ⟨_, rfl⟩
          rw [hw8] at M8
          have M8 := Hid_mkZ M8
          have HW8 := Hid_mkZ hw8
          clear T7 r7 q7 hw8
          go_upto_region 22 with fail
          rw [HW8.out]
          clear u0 u1 u2 u3 u4 f7
          obtain ⟨val8, hX8, hbox8⟩ := M8.out.ex
          obtain ⟨kn, hkn⟩ : ∃ x, SS.length = x := ⟨_, rfl⟩
          have hkn3 : kn ≤ 1000 := by have := HSl9.out; omega
          obtain ⟨pa, pc, hp, _⟩ := hX8.forms .slots (LiveX.slots _)
          have hp : val8 .slots = .slice pa kn pc := by rw [hp]; show Value.slice pa SS.length pc = _; rw [hkn]
          have Hkn := Hid_mkZ hkn
          have HX8 := Hid_mkZ (And.intro hX8 (And.intro hbox8 hp))
          rw [hp] at hbox8
          obtain ⟨u0, u1, u2, u3, u4⟩ := five hbox8
          have f3 := cells_frozen hbox8 3
          have hmk : ∀ W, (Instr.makeSlice 22 (.int .i64 (kn : Int)) (.int .i64 (kn : Int))).run Try.prog W = .ok (.slice (some ⟨W.heap.size, 0, none⟩) kn kn) (W.alloc (.cells (Array.replicate kn (.int .i64 0)) 3)) := fun W => by have := mk_intsR kn hkn3 W; simpa using this
          have hD8 : D < w8.heap.size := (Array.getElem?_eq_some_iff.1 hbox8).1
          have nD8 : ¬ D = w8.heap.size := by omega
          have nD8' : ¬ w8.heap.size = D := by omega
          have M9 : NoM w1 ((w8.alloc (.cells (Array.replicate kn (.int .i64 0)) 3)).setCell ⟨D, 3, none⟩ (.slice (some ⟨w8.heap.size, 0, none⟩) kn kn)) R D lr (wzer ⟨(g : Int), es, SS, [], Sk⟩) := by
            have hg8 : (w8.alloc (.cells (Array.replicate kn (.int .i64 0)) 3)).heap[w8.heap.size]? = some (.cells (ints (rfZ SS)).toArray 3) := by
              rw [World.alloc_heap_new]; unfold rfZ ints; rw [hkn]; simp
            have hrz : (rfZ SS).length = kn := by unfold rfZ; rw [List.length_replicate, hkn]
            exact NoM.refs (es := rfZ SS) (M8.out.t.alloc _) hR hDw (HX8.out.1.alloc _) (cells_alloc HX8.out.2.1 _) (by have := row_newG (B := D + 1) (by omega) (by omega) hg8; rw [hrz] at this ⊢; exact this) (farX_new HX8.out.1 _ (fun g e => by cases e; exact Nat.le_refl _))
          have hsw : (w8.alloc (.cells (Array.replicate kn (.int .i64 0)) 3)).setCell ⟨D, 3, none⟩ (.slice (some ⟨w8.heap.size, 0, none⟩) kn kn) = (w8.setCell ⟨D, 3, none⟩ (.slice (some ⟨w8.heap.size, 0, none⟩) kn kn)).alloc (.cells (Array.replicate kn (.int .i64 0)) 3) := World.setCell_alloc_past _ _ _ _ hD8
          obtain ⟨w9, hw9⟩ : ∃ X, (w8.setCell ⟨D, 3, none⟩ (.slice (some ⟨w8.heap.size, 0, none⟩) kn kn)).alloc (.cells (Array.replicate kn (.int .i64 0)) 3) = X := ⟨_, rfl⟩
          rw [hsw, hw9] at M9
          clear hsw
          have M9 := Hid_mkZ M9
          have HW9 := Hid_mkZ hw9
          clear hX8 hbox8 hp hw9 hkn
          go_upto_region 23 with fail
          rw [HW9.out]
          clear u0 u1 u2 u3 u4 f3 hmk nD8 nD8'
          have hZ1 : w.heap.size + 1 = R := HZ.out.2.1
          have hZ2 : w1.heap.size = R + 1 := HZ.out.2.2.1
          have hZR : w.heap.size ≠ R := by omega
          have hZl : w.heap.size < w1.heap.size := by omega
          have hZD : w.heap.size ≠ D := by omega
          clear hZ1 hZ2
          obtain ⟨m0, hm0⟩ : ∃ x, (⟨(g : Int), es, SS, [], Sk⟩ : ImgD) = x := ⟨_, rfl⟩
          have HI0 : Hid (nImg L = m0) := by rw [← hm0]; exact HImg.out
          rw [hm0] at M9
          obtain ⟨a0, c0, a1, c1, a2, c2, a3, c3, b9, I9, _⟩ := M9.out.img
          obtain ⟨u0, u1, u2, u3, u4⟩ := five b9
          have I9 := Hid_mkZ I9
          have HB9 := Hid_mkZ b9
          have Hm0 := Hid_mkZ hm0
          clear b9 hm0 HImg
          by_cases hS : shapeE (wzer m0) = 0
          · have HSh := Hid_mkZ (shapeOf_is I9.out hS)
            go_wp2_with fail
            refine HSh.out.mono ?_
            rintro e9 w10 ⟨rfl, b10⟩
            have M10 := Hid_mkZ (M9.out.below b10)
            have I10 := Hid_mkZ (I9.out.below b10)
            have k10 := cells_below HB9.out b10 (Array.getElem?_eq_some_iff.1 HB9.out).1
            have HK10 := Hid_mkZ k10
            clear HSh b10 u0 u1 u2 u3 u4
            obtain ⟨u0, u1, u2, u3, u4⟩ := five k10
            have HCn := Hid_mkZ (countsOf_is I10.out hS)
            clear k10
            go_wp2_with fail
            refine HCn.out.mono ?_
            rintro e9 w11 ⟨⟨rfl, hL⟩, b11⟩
            clear HCn u0 u1 u2 u3 u4
            have k11 := cells_below HK10.out b11 (Array.getElem?_eq_some_iff.1 HK10.out).1
            obtain ⟨u0, u1, u2, u3, u4⟩ := five k11
            have f3 := cells_frozen k11 3
            have hcl : (cntL (wzer m0)).length = m0.slots.length := cntL_length _
            have hml : m0.slots.length ≤ 1000 := by have := HSl9.out; have e := Hm0.out; rw [← e]; show SS.length ≤ 1000; omega
            have M12 : NoM w1 (w11.setCell ⟨D, 3, none⟩ (.slice (some ⟨w10.heap.size + 1, 0, none⟩) m0.slots.length m0.slots.length)) R D lr (wcnt m0) := by
              obtain ⟨v11, hX11, hb11, hlow⟩ := M10.out.open (Y := w11) (fun q hq _ => b11.block q hq)
              have hg11 : w11.heap[w10.heap.size + 1]? = some (.cells (ints (cntL (wzer m0))).toArray 3) := hL
              have hDk : D < w10.heap.size := (Array.getElem?_eq_some_iff.1 HK10.out).1
              have hr := row_newG (B := D + 1) (by omega) (by omega) hg11
              have key := NoM.refs (es := cntL (wzer m0)) (M10.out.below b11).t hR hDw hX11 hb11 hr (fun b hb _ g hg e => by have h6 := hlow b hb g e; have h7 : w10.heap.size + 1 = g := (by cases hg; rfl); omega)
              rw [hcl] at key
              exact key
            obtain ⟨w12, hw12⟩ : ∃ X, w11.setCell ⟨D, 3, none⟩ (.slice (some ⟨w10.heap.size + 1, 0, none⟩) m0.slots.length m0.slots.length) = X := ⟨_, rfl⟩
            rw [hw12] at M12
            have M12 := Hid_mkZ M12
            have HW12 := Hid_mkZ hw12
            clear b11 k11 hL hw12 hcl
            go_upto_region 26 with fail
            first | rw [HW12.out] | (have e12 := HW12.out; simp only [wzer] at e12 ⊢; rw [e12])
            clear u0 u1 u2 u3 u4 f3
            obtain ⟨p0, q0, p1, q1, p2, q2, p3, q3, b12, I12, F12⟩ := M12.out.img
            obtain ⟨u0, u1, u2, u3, u4⟩ := five b12
            have HB12 := Hid_mkZ b12
            have I12 := Hid_mkZ I12
            have F12 := Hid_mkZ F12
            clear b12
            obtain ⟨m2, hm2⟩ : ∃ x, wcnt m0 = x := ⟨_, rfl⟩
            have Hm2 := Hid_mkZ hm2
            rw [hm2] at u0 u1 u2 u3 u4 M12 I12 F12 HB12
            clear hm2
            by_cases hC : checkE m2 = 0
            · have HCk := Hid_mkZ (checkImage_is I12.out hC)
              obtain ⟨S, hSe⟩ : ∃ x, bstr (imgB m2) = x := ⟨_, rfl⟩
              have HSe := Hid_mkZ hSe
              go_wp2_with fail
              refine HCk.out.mono ?_
              rintro e9 w13 ⟨rfl, b13⟩
              have M13 := Hid_mkZ (M12.out.below b13)
              have I13 := Hid_mkZ (I12.out.below b13)
              have k13 := cells_below HB12.out b13 (Array.getElem?_eq_some_iff.1 HB12.out).1
              have HK13 := Hid_mkZ k13
              have HF13 := Hid_mkZ (fun (q : Nat) (hq : q < w12.heap.size) => b13.block q hq)
              have hs13 := b13.size
              clear HCk b13 u0 u1 u2 u3 u4
              obtain ⟨u0, u1, u2, u3, u4⟩ := five k13
              clear k13
              have HBy := Hid_mkZ (imgBytes_is I13.out (checkE_shape hC) hSe)
              clear hSe
              go_wp2_with fail
              refine HBy.out.mono ?_
              rintro e9 w10 ⟨rfl, b14⟩
              have M10 := Hid_mkZ (M13.out.below b14)
              have k14 := cells_below HK13.out b14 (Array.getElem?_eq_some_iff.1 HK13.out).1
              have HF14 := Hid_mkZ (fun (q : Nat) (hq : q < w12.heap.size) => (b14.block q (by omega)).trans (HF13.out q hq))
              clear HBy u0 u1 u2 u3 u4 b14
              have z10 := (M10.out.t.keep w.heap.size hZl hZR).trans HZ.out.1
              obtain ⟨z0, z1, z2, z3, z4⟩ := five z10
              have y0 := cells_frozen z10 0
              have y1 := cells_frozen z10 1
              have y2 := cells_frozen z10 2
              have y3 := cells_frozen z10 3
              have y4 := cells_frozen z10 4
              have Z10 := Hid_mkZ z10
              clear z10
              obtain ⟨u0, u1, u2, u3, u4⟩ := five k14
              clear k14
              by_cases hL : imgB m2 = L
              · have hcmp : (S.toList != (bstr L).toList) = false := by rw [← HSe.out, hL]; simp
                have hcm2 : (S.toList == (bstr L).toList) = true := by rw [← HSe.out, hL]; simp
                have hfi : fine m0 = true := by
                  have hC' : checkE (wcnt m0) = 0 := by rw [Hm2.out]; exact hC
                  unfold fine; rw [hS, hC']; rfl
                have HNo : Hid (noE L = (m2, true)) := by
                  show noE L = _
                  unfold noE noO
                  rw [HI0.out, Hm2.out, if_pos ⟨hfi, hL⟩]
                obtain ⟨uL, huL⟩ : ∃ x, bstr L = x := ⟨_, rfl⟩
                rw [huL] at hcmp hcm2
                have HuL := Hid_mkZ huL
                clear hL hS hC hfi
                simp only [huL]
                clear huL
                go_wp2_with fail
                obtain ⟨W3, hW3⟩ : ∃ X, X = ((((w10.setCell ⟨w.heap.size, 0, none⟩ (.int .i64 m2.guest)).setCell ⟨w.heap.size, 1, none⟩ (.slice p0 m2.root.length q0)).setCell ⟨w.heap.size, 2, none⟩ (.slice p1 m2.slots.length q1)).setCell ⟨w.heap.size, 3, none⟩ (.slice p2 m2.refs.length q2)).setCell ⟨w.heap.size, 4, none⟩ (.slice p3 m2.snaps.length q3) := ⟨_, rfl⟩
                obtain ⟨j0, j1, j2⟩ := set_five Z10.out hW3
                obtain ⟨z0, z1, z2, z3, z4⟩ := five j0
                rw [← hW3]
                clear hW3
                refine bodyPost_ret (v := .tuple #[.agg #[.int .i64 m2.guest, .slice p0 m2.root.length q0, .slice p1 m2.slots.length q1, .slice p2 m2.refs.length q2, .slice p3 m2.snaps.length q3], .bool true]) (by simp [results, Try.results17, go_sem, z0, z1, z2, z3, z4]) rfl ?_
                rw [HNo.out]
                exact ⟨p0, q0, p1, q1, p2, q2, p3, q3, rfl, F12.out W3 (fun q hq hl => (j1 q (by omega)).trans (HF14.out q hl)), j2 _ _ (Nat.le_refl _) (no_below HZ.out.2.2.2 (by have := HZ.out.2.1; omega) M10.out.t)⟩
              · have hcmp : (S.toList != (bstr L).toList) = true := by
                  rw [← HSe.out]
                  have hb : ¬ (bstr (imgB m2)).toList = (bstr L).toList := fun e => hL (bstr_inj e)
                  simpa using hb
                have hcm2 : (S.toList == (bstr L).toList) = false := by rw [bne, Bool.not_eq_true'] at hcmp; exact hcmp
                have HNo : Hid (noE L = (imgZ, false)) := by
                  show noE L = _
                  unfold noE noO
                  rw [HI0.out, Hm2.out, if_neg (fun x => hL x.2)]
                obtain ⟨uL, huL⟩ : ∃ x, bstr L = x := ⟨_, rfl⟩
                rw [huL] at hcmp hcm2
                clear hL hS hC
                simp only [huL]
                clear huL
                go_wp2_with fail
                obtain ⟨W3, hW3⟩ : ∃ X, X = ((((w10.setCell ⟨w.heap.size, 0, none⟩ (.int .i64 0)).setCell ⟨w.heap.size, 1, none⟩ (.slice none 0 0)).setCell ⟨w.heap.size, 2, none⟩ (.slice none 0 0)).setCell ⟨w.heap.size, 3, none⟩ (.slice none 0 0)).setCell ⟨w.heap.size, 4, none⟩ (.slice none 0 0) := ⟨_, rfl⟩
                obtain ⟨j0, j1, j2⟩ := set_five Z10.out hW3
                obtain ⟨z0, z1, z2, z3, z4⟩ := five j0
                rw [← hW3]
                clear hW3
                refine bodyPost_ret (v := .tuple #[(.agg #[.int .i64 0, .slice none 0 0, .slice none 0 0, .slice none 0 0, .slice none 0 0]), .bool false]) (by simp [results, Try.results17, go_sem, z0, z1, z2, z3, z4]) rfl ?_
                rw [HNo.out]
                exact ⟨none, 0, none, 0, none, 0, none, 0, rfl, (OI.zero _ 0).img, j2 _ _ (Nat.le_refl _) (no_below HZ.out.2.2.2 (by have := HZ.out.2.1; omega) M10.out.t)⟩
            · have HCk := Hid_mkZ (checkImage_is I12.out rfl)
              have hne : (checkE m2 != 0) = true := by simpa using hC
              have HNo : Hid (noE L = (imgZ, false)) := by
                show noE L = _
                unfold noE noO
                rw [HI0.out, if_neg (fun x => by have := x.1; unfold fine at this; simp only [Bool.and_eq_true, beq_iff_eq] at this; rw [Hm2.out] at this; exact hC this.2)]
              obtain ⟨E, hE⟩ : ∃ x, checkE m2 = x := ⟨_, rfl⟩
              rw [hE] at HCk hne
              clear hE hC hS
              go_wp2_with fail
              refine HCk.out.mono ?_
              rintro e9 w10 ⟨rfl, b14⟩
              have M10 := Hid_mkZ (M12.out.below b14)
              clear HCk u0 u1 u2 u3 u4 b14
              have z10 := (M10.out.t.keep w.heap.size hZl hZR).trans HZ.out.1
              obtain ⟨z0, z1, z2, z3, z4⟩ := five z10
              have y0 := cells_frozen z10 0
              have y1 := cells_frozen z10 1
              have y2 := cells_frozen z10 2
              have y3 := cells_frozen z10 3
              have y4 := cells_frozen z10 4
              have Z10 := Hid_mkZ z10
              clear z10
              go_wp2_with fail
              obtain ⟨W3, hW3⟩ : ∃ X, X = ((((w10.setCell ⟨w.heap.size, 0, none⟩ (.int .i64 0)).setCell ⟨w.heap.size, 1, none⟩ (.slice none 0 0)).setCell ⟨w.heap.size, 2, none⟩ (.slice none 0 0)).setCell ⟨w.heap.size, 3, none⟩ (.slice none 0 0)).setCell ⟨w.heap.size, 4, none⟩ (.slice none 0 0) := ⟨_, rfl⟩
              obtain ⟨j0, j1, j2⟩ := set_five Z10.out hW3
              obtain ⟨z0, z1, z2, z3, z4⟩ := five j0
              rw [← hW3]
              clear hW3
              refine bodyPost_ret (v := .tuple #[(.agg #[.int .i64 0, .slice none 0 0, .slice none 0 0, .slice none 0 0, .slice none 0 0]), .bool false]) (by simp [results, Try.results17, go_sem, z0, z1, z2, z3, z4]) rfl ?_
              rw [HNo.out]
              exact ⟨none, 0, none, 0, none, 0, none, 0, rfl, (OI.zero _ 0).img, j2 _ _ (Nat.le_refl _) (no_below HZ.out.2.2.2 (by have := HZ.out.2.1; omega) M10.out.t)⟩
          · have HSh := Hid_mkZ (shapeOf_is I9.out rfl)
            have hne : (shapeE (wzer m0) != 0) = true := by simpa using hS
            have HNo : Hid (noE L = (imgZ, false)) := by
              show noE L = _
              unfold noE noO
              rw [HI0.out, if_neg (fun x => by have := x.1; unfold fine at this; simp only [Bool.and_eq_true, beq_iff_eq] at this; exact hS this.1)]
            obtain ⟨E, hE⟩ : ∃ x, shapeE (wzer m0) = x := ⟨_, rfl⟩
            rw [hE] at HSh hne
            clear hE hS
            go_wp2_with fail
            refine HSh.out.mono ?_
            rintro e9 w10 ⟨rfl, b10⟩
            have M10 := Hid_mkZ (M9.out.below b10)
            have z10 := (M10.out.t.keep w.heap.size hZl hZR).trans HZ.out.1
            obtain ⟨z0, z1, z2, z3, z4⟩ := five z10
            have y0 := cells_frozen z10 0
            have y1 := cells_frozen z10 1
            have y2 := cells_frozen z10 2
            have y3 := cells_frozen z10 3
            have y4 := cells_frozen z10 4
            have Z10 := Hid_mkZ z10
            clear HSh b10 u0 u1 u2 u3 u4 z10
            go_wp2_with fail
            obtain ⟨W3, hW3⟩ : ∃ X, X = ((((w10.setCell ⟨w.heap.size, 0, none⟩ (.int .i64 0)).setCell ⟨w.heap.size, 1, none⟩ (.slice none 0 0)).setCell ⟨w.heap.size, 2, none⟩ (.slice none 0 0)).setCell ⟨w.heap.size, 3, none⟩ (.slice none 0 0)).setCell ⟨w.heap.size, 4, none⟩ (.slice none 0 0) := ⟨_, rfl⟩
            obtain ⟨j0, j1, j2⟩ := set_five Z10.out hW3
            obtain ⟨z0, z1, z2, z3, z4⟩ := five j0
            rw [← hW3]
            clear hW3
            refine bodyPost_ret (v := .tuple #[(.agg #[.int .i64 0, .slice none 0 0, .slice none 0 0, .slice none 0 0, .slice none 0 0]), .bool false]) (by simp [results, Try.results17, go_sem, z0, z1, z2, z3, z4]) rfl ?_
            rw [HNo.out]
            exact ⟨none, 0, none, 0, none, 0, none, 0, rfl, (OI.zero _ 0).img, j2 _ _ (Nat.le_refl _) (no_below HZ.out.2.2.2 (by have := HZ.out.2.1; omega) M10.out.t)⟩


end Go.Proofs.Ytehleeibgkpjmag
/- The walk of WireWrites. -/
namespace Go.Proofs.Ytehleeibgkpjmag
open Go.RowKit Go.Shelf Go.Lib
set_option maxRecDepth 20000
set_option linter.unusedVariables false
set_option linter.unusedSimpArgs false

theorem img_ZA (W : World) : Img W (.agg #[.int .i64 0, .slice none 0 0, .slice none 0 0, .slice none 0 0, .slice none 0 0]) imgZ := (OI.zero W 0).img
theorem if_at {u : ByteArray} {w : World} (h : u.size ≤ 4096) : Calls Try.prog 17 #[.string u] w (AnsB w (noE (bytes u)).1 (noE (bytes u)).2) := by
  have := imgFrom_at (bytes u) w (by rw [show (bytes u).length = u.size by unfold bytes; rfl]; exact h)
  rw [bstr_bytes] at this
  exact this
theorem if_ok {u : ByteArray} {m : ImgD} {w : World} (h : u.size ≤ 4096) (h2 : noE (bytes u) = (m, true)) : Calls Try.prog 17 #[.string u] w (AnsB w m true) := by
  have := if_at (w := w) h; rw [h2] at this; exact this
theorem if_no {u : ByteArray} {w : World} (h : u.size ≤ 4096) (h2 : noE (bytes u) = (imgZ, false)) : Calls Try.prog 17 #[.string u] w (AnsB w imgZ false) := by
  have := if_at (w := w) h; rw [h2] at this; exact this
set_option maxHeartbeats 8000000 in
theorem wwk_y_many (ra : Option Addr) (rc : Nat) (sa : Option Addr) (sc : Nat) (fa : Option Addr) (fc : Nat) (na : Option Addr) (nc : Nat) (m : ImgD) (u : ByteArray) (S : ByteArray) (E : Int) (w : World) (h : Img w (.agg #[.int .i64 m.guest, .slice ra m.root.length rc, .slice sa m.slots.length sc, .slice fa m.refs.length fc, .slice na m.snaps.length nc]) m) (HS : Hid (wiV m = S)) (HE : Hid (checkE m = E)) (hE0 : (E == 0) = true) (HB : Hid (shapeE m = 0 ∧ bstr (imgB m) = S)) (HR : Hid (rdE u = (imgZ, 2))) (hsz : (4096 : Int) < (u.size : Int)) :
    Calls Try.prog 4 #[.agg #[.int .i64 m.guest, .slice ra m.root.length rc, .slice sa m.slots.length sc, .slice fa m.refs.length fc, .slice na m.snaps.length nc], .string u] w fun r w' => r = .returned (.bool true) ∧ Below w.heap.size w w' := by
  have hB : Below w.heap.size w (w.alloc (.cells #[.int .i64 m.guest, .slice ra m.root.length rc, .slice sa m.slots.length sc, .slice fa m.refs.length fc, .slice na m.snaps.length nc] 26)) := (Below.refl _ _).alloc (Nat.le_refl _) _
  have mb_m : (w.alloc (.cells #[.int .i64 m.guest, .slice ra m.root.length rc, .slice sa m.slots.length sc, .slice fa m.refs.length fc, .slice na m.snaps.length nc] 26)).heap[w.heap.size]? = some (.cells #[.int .i64 m.guest, .slice ra m.root.length rc, .slice sa m.slots.length sc, .slice fa m.refs.length fc, .slice na m.snaps.length nc] 26) := World.alloc_heap_new _ _
  have I_m := h.below hB
  clear h
  go_enter Try.func4, Try.ntmps4
  obtain ⟨m0, m1, m2, m3, m4⟩ := five mb_m
  have hh_mb_m := Hid_mkG mb_m
  have hh_I_m := Hid_mkG I_m
  have hh_hB := Hid_mkG hB
  clear mb_m I_m hB
  go_wp2_with fail
  clear m0 m1 m2 m3 m4
  have mb_m := hh_mb_m.out
  have I_m := hh_I_m.out
  have hB := hh_hB.out
  clear hh_mb_m hh_I_m hh_hB
  refine (wwr_is I_m HS.out HE.out).mono ?_
  rintro e w1 ⟨rfl, bb⟩
  replace mb_m := cells_below mb_m bb (Array.getElem?_eq_some_iff.1 mb_m).1
  replace hB := Below.on hB bb
  replace I_m := I_m.below bb
  clear bb
  obtain ⟨m0, m1, m2, m3, m4⟩ := five mb_m
  have hh_mb_m := Hid_mkG mb_m
  have hh_I_m := Hid_mkG I_m
  have hh_hB := Hid_mkG hB
  clear mb_m I_m hB
  go_wp2_with fail
  clear m0 m1 m2 m3 m4
  have mb_m := hh_mb_m.out
  have I_m := hh_I_m.out
  have hB := hh_hB.out
  clear hh_mb_m hh_I_m hh_hB
  refine (checkImage_is I_m HE.out).mono ?_
  rintro e w2 ⟨rfl, bb⟩
  replace mb_m := cells_below mb_m bb (Array.getElem?_eq_some_iff.1 mb_m).1
  replace hB := Below.on hB bb
  replace I_m := I_m.below bb
  clear bb
  obtain ⟨m0, m1, m2, m3, m4⟩ := five mb_m
  have hh_mb_m := Hid_mkG mb_m
  have hh_I_m := Hid_mkG I_m
  have hh_hB := Hid_mkG hB
  clear mb_m I_m hB
  go_wp2_with fail
  clear m0 m1 m2 m3 m4
  have mb_m := hh_mb_m.out
  have I_m := hh_I_m.out
  have hB := hh_hB.out
  clear hh_mb_m hh_I_m hh_hB
  refine (imgBytes_is I_m HB.out.1 HB.out.2).mono ?_
  rintro e w3 ⟨rfl, bb⟩
  replace mb_m := cells_below mb_m bb (Array.getElem?_eq_some_iff.1 mb_m).1
  replace hB := Below.on hB bb
  replace I_m := I_m.below bb
  clear bb
  clear mb_m
  clear I_m
  have hh_hB := Hid_mkG hB
  clear hB
  go_wp2_with fail
  have hB := hh_hB.out
  clear hh_hB
  refine (rd_no HR.out).mono ?_
  rintro e w4 ⟨x_r, x_rc, x_s, x_sc, x_f, x_fc, x_n, x_nc, rfl, I_x, bb⟩
  try dsimp only
  replace hB := Below.on hB bb
  clear bb
  have ba : Below w4.heap.size w4 (w4.alloc (.cells #[.int .i64 imgZ.guest, .slice x_r imgZ.root.length x_rc, .slice x_s imgZ.slots.length x_sc, .slice x_f imgZ.refs.length x_fc, .slice x_n imgZ.snaps.length x_nc] 26)) := (Below.refl _ _).alloc (Nat.le_refl _) _
  replace hB := Below.on hB ba
  replace I_x := I_x.below ba
  clear ba
  have mb_x : (w4.alloc (.cells #[.int .i64 imgZ.guest, .slice x_r imgZ.root.length x_rc, .slice x_s imgZ.slots.length x_sc, .slice x_f imgZ.refs.length x_fc, .slice x_n imgZ.snaps.length x_nc] 26)).heap[w4.heap.size]? = some (.cells #[.int .i64 imgZ.guest, .slice x_r imgZ.root.length x_rc, .slice x_s imgZ.slots.length x_sc, .slice x_f imgZ.refs.length x_fc, .slice x_n imgZ.snaps.length x_nc] 26) := World.alloc_heap_new _ _
  have hh_mb_x := Hid_mkG mb_x
  have hh_I_x := Hid_mkG I_x
  have hh_hB := Hid_mkG hB
  clear mb_x I_x hB
  go_wp2_with fail
  have mb_x := hh_mb_x.out
  have I_x := hh_I_x.out
  have hB := hh_hB.out
  clear hh_mb_x hh_I_x hh_hB
  refine (wireBegun_any _).mono ?_
  rintro e w5 ⟨rfl, bb⟩
  replace mb_x := cells_below mb_x bb (Array.getElem?_eq_some_iff.1 mb_x).1
  replace hB := Below.on hB bb
  replace I_x := I_x.below bb
  clear bb
  obtain ⟨x0, x1, x2, x3, x4⟩ := five mb_x
  have hh_mb_x := Hid_mkG mb_x
  have hh_I_x := Hid_mkG I_x
  have hh_hB := Hid_mkG hB
  clear mb_x I_x hB
  go_wp2_with fail
  clear x0 x1 x2 x3 x4
  have mb_x := hh_mb_x.out
  have I_x := hh_I_x.out
  have hB := hh_hB.out
  clear hh_mb_x hh_I_x hh_hB
  refine (sameI_is I_x (img_ZA _)).mono ?_
  rintro e w6 ⟨rfl, bb⟩
  replace mb_x := cells_below mb_x bb (Array.getElem?_eq_some_iff.1 mb_x).1
  replace hB := Below.on hB bb
  replace I_x := I_x.below bb
  clear bb
  clear mb_x
  clear I_x
  have hh_hB := Hid_mkG hB
  clear hB
  go_wp2_with fail
  go_ret
  have hB := hh_hB.out
  exact ⟨rfl, hB⟩
set_option maxHeartbeats 8000000 in
theorem wwk_y_some (ra : Option Addr) (rc : Nat) (sa : Option Addr) (sc : Nat) (fa : Option Addr) (fc : Nat) (na : Option Addr) (nc : Nat) (m : ImgD) (u : ByteArray) (S : ByteArray) (E : Int) (w : World) (h : Img w (.agg #[.int .i64 m.guest, .slice ra m.root.length rc, .slice sa m.slots.length sc, .slice fa m.refs.length fc, .slice na m.snaps.length nc]) m) (HS : Hid (wiV m = S)) (HE : Hid (checkE m = E)) (hE0 : (E == 0) = true) (HB : Hid (shapeE m = 0 ∧ bstr (imgB m) = S)) (M2 : ImgD) (HR : Hid (rdE u = (M2, 0))) (hsz : ¬ (4096 : Int) < (u.size : Int)) (HL : Hid (u.size ≤ 4096)) (HI : Hid (noE (bytes u) = (M2, true))) :
    Calls Try.prog 4 #[.agg #[.int .i64 m.guest, .slice ra m.root.length rc, .slice sa m.slots.length sc, .slice fa m.refs.length fc, .slice na m.snaps.length nc], .string u] w fun r w' => r = .returned (.bool true) ∧ Below w.heap.size w w' := by
  have hB : Below w.heap.size w (w.alloc (.cells #[.int .i64 m.guest, .slice ra m.root.length rc, .slice sa m.slots.length sc, .slice fa m.refs.length fc, .slice na m.snaps.length nc] 26)) := (Below.refl _ _).alloc (Nat.le_refl _) _
  have mb_m : (w.alloc (.cells #[.int .i64 m.guest, .slice ra m.root.length rc, .slice sa m.slots.length sc, .slice fa m.refs.length fc, .slice na m.snaps.length nc] 26)).heap[w.heap.size]? = some (.cells #[.int .i64 m.guest, .slice ra m.root.length rc, .slice sa m.slots.length sc, .slice fa m.refs.length fc, .slice na m.snaps.length nc] 26) := World.alloc_heap_new _ _
  have I_m := h.below hB
  clear h
  go_enter Try.func4, Try.ntmps4
  obtain ⟨m0, m1, m2, m3, m4⟩ := five mb_m
  have hh_mb_m := Hid_mkG mb_m
  have hh_I_m := Hid_mkG I_m
  have hh_hB := Hid_mkG hB
  clear mb_m I_m hB
  go_wp2_with fail
  clear m0 m1 m2 m3 m4
  have mb_m := hh_mb_m.out
  have I_m := hh_I_m.out
  have hB := hh_hB.out
  clear hh_mb_m hh_I_m hh_hB
  refine (wwr_is I_m HS.out HE.out).mono ?_
  rintro e w1 ⟨rfl, bb⟩
  replace mb_m := cells_below mb_m bb (Array.getElem?_eq_some_iff.1 mb_m).1
  replace hB := Below.on hB bb
  replace I_m := I_m.below bb
  clear bb
  obtain ⟨m0, m1, m2, m3, m4⟩ := five mb_m
  have hh_mb_m := Hid_mkG mb_m
  have hh_I_m := Hid_mkG I_m
  have hh_hB := Hid_mkG hB
  clear mb_m I_m hB
  go_wp2_with fail
  clear m0 m1 m2 m3 m4
  have mb_m := hh_mb_m.out
  have I_m := hh_I_m.out
  have hB := hh_hB.out
  clear hh_mb_m hh_I_m hh_hB
  refine (checkImage_is I_m HE.out).mono ?_
  rintro e w2 ⟨rfl, bb⟩
  replace mb_m := cells_below mb_m bb (Array.getElem?_eq_some_iff.1 mb_m).1
  replace hB := Below.on hB bb
  replace I_m := I_m.below bb
  clear bb
  obtain ⟨m0, m1, m2, m3, m4⟩ := five mb_m
  have hh_mb_m := Hid_mkG mb_m
  have hh_I_m := Hid_mkG I_m
  have hh_hB := Hid_mkG hB
  clear mb_m I_m hB
  go_wp2_with fail
  clear m0 m1 m2 m3 m4
  have mb_m := hh_mb_m.out
  have I_m := hh_I_m.out
  have hB := hh_hB.out
  clear hh_mb_m hh_I_m hh_hB
  refine (imgBytes_is I_m HB.out.1 HB.out.2).mono ?_
  rintro e w3 ⟨rfl, bb⟩
  replace mb_m := cells_below mb_m bb (Array.getElem?_eq_some_iff.1 mb_m).1
  replace hB := Below.on hB bb
  replace I_m := I_m.below bb
  clear bb
  clear mb_m
  clear I_m
  have hh_hB := Hid_mkG hB
  clear hB
  go_wp2_with fail
  have hB := hh_hB.out
  clear hh_hB
  refine (rd_ok HR.out).mono ?_
  rintro e w4 ⟨x_r, x_rc, x_s, x_sc, x_f, x_fc, x_n, x_nc, rfl, I_x, bb⟩
  try dsimp only
  replace hB := Below.on hB bb
  clear bb
  have ba : Below w4.heap.size w4 (w4.alloc (.cells #[.int .i64 M2.guest, .slice x_r M2.root.length x_rc, .slice x_s M2.slots.length x_sc, .slice x_f M2.refs.length x_fc, .slice x_n M2.snaps.length x_nc] 26)) := (Below.refl _ _).alloc (Nat.le_refl _) _
  replace hB := Below.on hB ba
  replace I_x := I_x.below ba
  clear ba
  have mb_x : (w4.alloc (.cells #[.int .i64 M2.guest, .slice x_r M2.root.length x_rc, .slice x_s M2.slots.length x_sc, .slice x_f M2.refs.length x_fc, .slice x_n M2.snaps.length x_nc] 26)).heap[w4.heap.size]? = some (.cells #[.int .i64 M2.guest, .slice x_r M2.root.length x_rc, .slice x_s M2.slots.length x_sc, .slice x_f M2.refs.length x_fc, .slice x_n M2.snaps.length x_nc] 26) := World.alloc_heap_new _ _
  have hh_mb_x := Hid_mkG mb_x
  have hh_I_x := Hid_mkG I_x
  have hh_hB := Hid_mkG hB
  clear mb_x I_x hB
  go_wp2_with fail
  have mb_x := hh_mb_x.out
  have I_x := hh_I_x.out
  have hB := hh_hB.out
  clear hh_mb_x hh_I_x hh_hB
  refine (if_ok HL.out HI.out).mono ?_
  rintro e w5 ⟨y_r, y_rc, y_s, y_sc, y_f, y_fc, y_n, y_nc, rfl, I_y, bb⟩
  try dsimp only
  replace mb_x := cells_below mb_x bb (Array.getElem?_eq_some_iff.1 mb_x).1
  replace hB := Below.on hB bb
  replace I_x := I_x.below bb
  clear bb
  replace mb_x := cells_alloc mb_x (.cells #[.int .i64 M2.guest, .slice y_r M2.root.length y_rc, .slice y_s M2.slots.length y_sc, .slice y_f M2.refs.length y_fc, .slice y_n M2.snaps.length y_nc] 26)
  have ba : Below w5.heap.size w5 (w5.alloc (.cells #[.int .i64 M2.guest, .slice y_r M2.root.length y_rc, .slice y_s M2.slots.length y_sc, .slice y_f M2.refs.length y_fc, .slice y_n M2.snaps.length y_nc] 26)) := (Below.refl _ _).alloc (Nat.le_refl _) _
  replace hB := Below.on hB ba
  replace I_x := I_x.below ba
  replace I_y := I_y.below ba
  clear ba
  have mb_y : (w5.alloc (.cells #[.int .i64 M2.guest, .slice y_r M2.root.length y_rc, .slice y_s M2.slots.length y_sc, .slice y_f M2.refs.length y_fc, .slice y_n M2.snaps.length y_nc] 26)).heap[w5.heap.size]? = some (.cells #[.int .i64 M2.guest, .slice y_r M2.root.length y_rc, .slice y_s M2.slots.length y_sc, .slice y_f M2.refs.length y_fc, .slice y_n M2.snaps.length y_nc] 26) := World.alloc_heap_new _ _
  have hh_mb_x := Hid_mkG mb_x
  have hh_mb_y := Hid_mkG mb_y
  have hh_I_x := Hid_mkG I_x
  have hh_I_y := Hid_mkG I_y
  have hh_hB := Hid_mkG hB
  clear mb_x mb_y I_x I_y hB
  go_wp2_with fail
  have mb_x := hh_mb_x.out
  have mb_y := hh_mb_y.out
  have I_x := hh_I_x.out
  have I_y := hh_I_y.out
  have hB := hh_hB.out
  clear hh_mb_x hh_mb_y hh_I_x hh_I_y hh_hB
  refine (wireBegun_any _).mono ?_
  rintro e w6 ⟨rfl, bb⟩
  replace mb_x := cells_below mb_x bb (Array.getElem?_eq_some_iff.1 mb_x).1
  replace mb_y := cells_below mb_y bb (Array.getElem?_eq_some_iff.1 mb_y).1
  replace hB := Below.on hB bb
  replace I_x := I_x.below bb
  replace I_y := I_y.below bb
  clear bb
  obtain ⟨x0, x1, x2, x3, x4⟩ := five mb_x
  obtain ⟨y0, y1, y2, y3, y4⟩ := five mb_y
  have hh_mb_x := Hid_mkG mb_x
  have hh_mb_y := Hid_mkG mb_y
  have hh_I_x := Hid_mkG I_x
  have hh_I_y := Hid_mkG I_y
  have hh_hB := Hid_mkG hB
  clear mb_x mb_y I_x I_y hB
  go_wp2_with fail
  clear x0 x1 x2 x3 x4 y0 y1 y2 y3 y4
  have mb_x := hh_mb_x.out
  have mb_y := hh_mb_y.out
  have I_x := hh_I_x.out
  have I_y := hh_I_y.out
  have hB := hh_hB.out
  clear hh_mb_x hh_mb_y hh_I_x hh_I_y hh_hB
  refine (sameI_is I_x I_y).mono ?_
  rintro e w7 ⟨rfl, bb⟩
  replace mb_x := cells_below mb_x bb (Array.getElem?_eq_some_iff.1 mb_x).1
  replace mb_y := cells_below mb_y bb (Array.getElem?_eq_some_iff.1 mb_y).1
  replace hB := Below.on hB bb
  replace I_x := I_x.below bb
  replace I_y := I_y.below bb
  clear bb
  clear mb_x
  clear I_x
  clear mb_y
  clear I_y
  have hh_hB := Hid_mkG hB
  clear hB
  go_wp2_with fail
  go_ret
  have hB := hh_hB.out
  exact ⟨rfl, hB⟩
set_option maxHeartbeats 8000000 in
theorem wwk_y_none (ra : Option Addr) (rc : Nat) (sa : Option Addr) (sc : Nat) (fa : Option Addr) (fc : Nat) (na : Option Addr) (nc : Nat) (m : ImgD) (u : ByteArray) (S : ByteArray) (E : Int) (w : World) (h : Img w (.agg #[.int .i64 m.guest, .slice ra m.root.length rc, .slice sa m.slots.length sc, .slice fa m.refs.length fc, .slice na m.snaps.length nc]) m) (HS : Hid (wiV m = S)) (HE : Hid (checkE m = E)) (hE0 : (E == 0) = true) (HB : Hid (shapeE m = 0 ∧ bstr (imgB m) = S)) (HR : Hid (rdE u = (imgZ, 1))) (hsz : ¬ (4096 : Int) < (u.size : Int)) (HL : Hid (u.size ≤ 4096)) (HI : Hid (noE (bytes u) = (imgZ, false))) :
    Calls Try.prog 4 #[.agg #[.int .i64 m.guest, .slice ra m.root.length rc, .slice sa m.slots.length sc, .slice fa m.refs.length fc, .slice na m.snaps.length nc], .string u] w fun r w' => r = .returned (.bool true) ∧ Below w.heap.size w w' := by
  have hB : Below w.heap.size w (w.alloc (.cells #[.int .i64 m.guest, .slice ra m.root.length rc, .slice sa m.slots.length sc, .slice fa m.refs.length fc, .slice na m.snaps.length nc] 26)) := (Below.refl _ _).alloc (Nat.le_refl _) _
  have mb_m : (w.alloc (.cells #[.int .i64 m.guest, .slice ra m.root.length rc, .slice sa m.slots.length sc, .slice fa m.refs.length fc, .slice na m.snaps.length nc] 26)).heap[w.heap.size]? = some (.cells #[.int .i64 m.guest, .slice ra m.root.length rc, .slice sa m.slots.length sc, .slice fa m.refs.length fc, .slice na m.snaps.length nc] 26) := World.alloc_heap_new _ _
  have I_m := h.below hB
  clear h
  go_enter Try.func4, Try.ntmps4
  obtain ⟨m0, m1, m2, m3, m4⟩ := five mb_m
  have hh_mb_m := Hid_mkG mb_m
  have hh_I_m := Hid_mkG I_m
  have hh_hB := Hid_mkG hB
  clear mb_m I_m hB
  go_wp2_with fail
  clear m0 m1 m2 m3 m4
  have mb_m := hh_mb_m.out
  have I_m := hh_I_m.out
  have hB := hh_hB.out
  clear hh_mb_m hh_I_m hh_hB
  refine (wwr_is I_m HS.out HE.out).mono ?_
  rintro e w1 ⟨rfl, bb⟩
  replace mb_m := cells_below mb_m bb (Array.getElem?_eq_some_iff.1 mb_m).1
  replace hB := Below.on hB bb
  replace I_m := I_m.below bb
  clear bb
  obtain ⟨m0, m1, m2, m3, m4⟩ := five mb_m
  have hh_mb_m := Hid_mkG mb_m
  have hh_I_m := Hid_mkG I_m
  have hh_hB := Hid_mkG hB
  clear mb_m I_m hB
  go_wp2_with fail
  clear m0 m1 m2 m3 m4
  have mb_m := hh_mb_m.out
  have I_m := hh_I_m.out
  have hB := hh_hB.out
  clear hh_mb_m hh_I_m hh_hB
  refine (checkImage_is I_m HE.out).mono ?_
  rintro e w2 ⟨rfl, bb⟩
  replace mb_m := cells_below mb_m bb (Array.getElem?_eq_some_iff.1 mb_m).1
  replace hB := Below.on hB bb
  replace I_m := I_m.below bb
  clear bb
  obtain ⟨m0, m1, m2, m3, m4⟩ := five mb_m
  have hh_mb_m := Hid_mkG mb_m
  have hh_I_m := Hid_mkG I_m
  have hh_hB := Hid_mkG hB
  clear mb_m I_m hB
  go_wp2_with fail
  clear m0 m1 m2 m3 m4
  have mb_m := hh_mb_m.out
  have I_m := hh_I_m.out
  have hB := hh_hB.out
  clear hh_mb_m hh_I_m hh_hB
  refine (imgBytes_is I_m HB.out.1 HB.out.2).mono ?_
  rintro e w3 ⟨rfl, bb⟩
  replace mb_m := cells_below mb_m bb (Array.getElem?_eq_some_iff.1 mb_m).1
  replace hB := Below.on hB bb
  replace I_m := I_m.below bb
  clear bb
  clear mb_m
  clear I_m
  have hh_hB := Hid_mkG hB
  clear hB
  go_wp2_with fail
  have hB := hh_hB.out
  clear hh_hB
  refine (rd_no HR.out).mono ?_
  rintro e w4 ⟨x_r, x_rc, x_s, x_sc, x_f, x_fc, x_n, x_nc, rfl, I_x, bb⟩
  try dsimp only
  replace hB := Below.on hB bb
  clear bb
  have ba : Below w4.heap.size w4 (w4.alloc (.cells #[.int .i64 imgZ.guest, .slice x_r imgZ.root.length x_rc, .slice x_s imgZ.slots.length x_sc, .slice x_f imgZ.refs.length x_fc, .slice x_n imgZ.snaps.length x_nc] 26)) := (Below.refl _ _).alloc (Nat.le_refl _) _
  replace hB := Below.on hB ba
  replace I_x := I_x.below ba
  clear ba
  have mb_x : (w4.alloc (.cells #[.int .i64 imgZ.guest, .slice x_r imgZ.root.length x_rc, .slice x_s imgZ.slots.length x_sc, .slice x_f imgZ.refs.length x_fc, .slice x_n imgZ.snaps.length x_nc] 26)).heap[w4.heap.size]? = some (.cells #[.int .i64 imgZ.guest, .slice x_r imgZ.root.length x_rc, .slice x_s imgZ.slots.length x_sc, .slice x_f imgZ.refs.length x_fc, .slice x_n imgZ.snaps.length x_nc] 26) := World.alloc_heap_new _ _
  have hh_mb_x := Hid_mkG mb_x
  have hh_I_x := Hid_mkG I_x
  have hh_hB := Hid_mkG hB
  clear mb_x I_x hB
  go_wp2_with fail
  have mb_x := hh_mb_x.out
  have I_x := hh_I_x.out
  have hB := hh_hB.out
  clear hh_mb_x hh_I_x hh_hB
  refine (if_no HL.out HI.out).mono ?_
  rintro e w5 ⟨y_r, y_rc, y_s, y_sc, y_f, y_fc, y_n, y_nc, rfl, I_y, bb⟩
  try dsimp only
  replace mb_x := cells_below mb_x bb (Array.getElem?_eq_some_iff.1 mb_x).1
  replace hB := Below.on hB bb
  replace I_x := I_x.below bb
  clear bb
  replace mb_x := cells_alloc mb_x (.cells #[.int .i64 imgZ.guest, .slice y_r imgZ.root.length y_rc, .slice y_s imgZ.slots.length y_sc, .slice y_f imgZ.refs.length y_fc, .slice y_n imgZ.snaps.length y_nc] 26)
  have ba : Below w5.heap.size w5 (w5.alloc (.cells #[.int .i64 imgZ.guest, .slice y_r imgZ.root.length y_rc, .slice y_s imgZ.slots.length y_sc, .slice y_f imgZ.refs.length y_fc, .slice y_n imgZ.snaps.length y_nc] 26)) := (Below.refl _ _).alloc (Nat.le_refl _) _
  replace hB := Below.on hB ba
  replace I_x := I_x.below ba
  replace I_y := I_y.below ba
  clear ba
  have mb_y : (w5.alloc (.cells #[.int .i64 imgZ.guest, .slice y_r imgZ.root.length y_rc, .slice y_s imgZ.slots.length y_sc, .slice y_f imgZ.refs.length y_fc, .slice y_n imgZ.snaps.length y_nc] 26)).heap[w5.heap.size]? = some (.cells #[.int .i64 imgZ.guest, .slice y_r imgZ.root.length y_rc, .slice y_s imgZ.slots.length y_sc, .slice y_f imgZ.refs.length y_fc, .slice y_n imgZ.snaps.length y_nc] 26) := World.alloc_heap_new _ _
  have hh_mb_x := Hid_mkG mb_x
  have hh_mb_y := Hid_mkG mb_y
  have hh_I_x := Hid_mkG I_x
  have hh_I_y := Hid_mkG I_y
  have hh_hB := Hid_mkG hB
  clear mb_x mb_y I_x I_y hB
  go_wp2_with fail
  have mb_x := hh_mb_x.out
  have mb_y := hh_mb_y.out
  have I_x := hh_I_x.out
  have I_y := hh_I_y.out
  have hB := hh_hB.out
  clear hh_mb_x hh_mb_y hh_I_x hh_I_y hh_hB
  refine (wireBegun_any _).mono ?_
  rintro e w6 ⟨rfl, bb⟩
  replace mb_x := cells_below mb_x bb (Array.getElem?_eq_some_iff.1 mb_x).1
  replace mb_y := cells_below mb_y bb (Array.getElem?_eq_some_iff.1 mb_y).1
  replace hB := Below.on hB bb
  replace I_x := I_x.below bb
  replace I_y := I_y.below bb
  clear bb
  obtain ⟨x0, x1, x2, x3, x4⟩ := five mb_x
  obtain ⟨y0, y1, y2, y3, y4⟩ := five mb_y
  have hh_mb_x := Hid_mkG mb_x
  have hh_mb_y := Hid_mkG mb_y
  have hh_I_x := Hid_mkG I_x
  have hh_I_y := Hid_mkG I_y
  have hh_hB := Hid_mkG hB
  clear mb_x mb_y I_x I_y hB
  go_wp2_with fail
  clear x0 x1 x2 x3 x4 y0 y1 y2 y3 y4
  have mb_x := hh_mb_x.out
  have mb_y := hh_mb_y.out
  have I_x := hh_I_x.out
  have I_y := hh_I_y.out
  have hB := hh_hB.out
  clear hh_mb_x hh_mb_y hh_I_x hh_I_y hh_hB
  refine (sameI_is I_x I_y).mono ?_
  rintro e w7 ⟨rfl, bb⟩
  replace mb_x := cells_below mb_x bb (Array.getElem?_eq_some_iff.1 mb_x).1
  replace mb_y := cells_below mb_y bb (Array.getElem?_eq_some_iff.1 mb_y).1
  replace hB := Below.on hB bb
  replace I_x := I_x.below bb
  replace I_y := I_y.below bb
  clear bb
  clear mb_x
  clear I_x
  clear mb_y
  clear I_y
  have hh_hB := Hid_mkG hB
  clear hB
  go_wp2_with fail
  go_ret
  have hB := hh_hB.out
  exact ⟨rfl, hB⟩
set_option maxHeartbeats 8000000 in
theorem wwk_n_many (ra : Option Addr) (rc : Nat) (sa : Option Addr) (sc : Nat) (fa : Option Addr) (fc : Nat) (na : Option Addr) (nc : Nat) (m : ImgD) (u : ByteArray)  (E : Int) (w : World) (h : Img w (.agg #[.int .i64 m.guest, .slice ra m.root.length rc, .slice sa m.slots.length sc, .slice fa m.refs.length fc, .slice na m.snaps.length nc]) m) (HS : Hid (wiV m = ⟨#[]⟩)) (HE : Hid (checkE m = E)) (hE0 : (E == 0) = false) (HR : Hid (rdE u = (imgZ, 2))) (hsz : (4096 : Int) < (u.size : Int)) :
    Calls Try.prog 4 #[.agg #[.int .i64 m.guest, .slice ra m.root.length rc, .slice sa m.slots.length sc, .slice fa m.refs.length fc, .slice na m.snaps.length nc], .string u] w fun r w' => r = .returned (.bool true) ∧ Below w.heap.size w w' := by
  have hB : Below w.heap.size w (w.alloc (.cells #[.int .i64 m.guest, .slice ra m.root.length rc, .slice sa m.slots.length sc, .slice fa m.refs.length fc, .slice na m.snaps.length nc] 26)) := (Below.refl _ _).alloc (Nat.le_refl _) _
  have mb_m : (w.alloc (.cells #[.int .i64 m.guest, .slice ra m.root.length rc, .slice sa m.slots.length sc, .slice fa m.refs.length fc, .slice na m.snaps.length nc] 26)).heap[w.heap.size]? = some (.cells #[.int .i64 m.guest, .slice ra m.root.length rc, .slice sa m.slots.length sc, .slice fa m.refs.length fc, .slice na m.snaps.length nc] 26) := World.alloc_heap_new _ _
  have I_m := h.below hB
  clear h
  go_enter Try.func4, Try.ntmps4
  obtain ⟨m0, m1, m2, m3, m4⟩ := five mb_m
  have hh_mb_m := Hid_mkG mb_m
  have hh_I_m := Hid_mkG I_m
  have hh_hB := Hid_mkG hB
  clear mb_m I_m hB
  go_wp2_with fail
  clear m0 m1 m2 m3 m4
  have mb_m := hh_mb_m.out
  have I_m := hh_I_m.out
  have hB := hh_hB.out
  clear hh_mb_m hh_I_m hh_hB
  refine (wwr_is I_m HS.out HE.out).mono ?_
  rintro e w1 ⟨rfl, bb⟩
  replace mb_m := cells_below mb_m bb (Array.getElem?_eq_some_iff.1 mb_m).1
  replace hB := Below.on hB bb
  replace I_m := I_m.below bb
  clear bb
  obtain ⟨m0, m1, m2, m3, m4⟩ := five mb_m
  have hh_mb_m := Hid_mkG mb_m
  have hh_I_m := Hid_mkG I_m
  have hh_hB := Hid_mkG hB
  clear mb_m I_m hB
  go_wp2_with fail
  clear m0 m1 m2 m3 m4
  have mb_m := hh_mb_m.out
  have I_m := hh_I_m.out
  have hB := hh_hB.out
  clear hh_mb_m hh_I_m hh_hB
  refine (checkImage_is I_m HE.out).mono ?_
  rintro e w2 ⟨rfl, bb⟩
  replace mb_m := cells_below mb_m bb (Array.getElem?_eq_some_iff.1 mb_m).1
  replace hB := Below.on hB bb
  replace I_m := I_m.below bb
  clear bb
  clear mb_m
  clear I_m
  have hh_hB := Hid_mkG hB
  clear hB
  go_wp2_with fail
  have hB := hh_hB.out
  clear hh_hB
  refine (rd_no HR.out).mono ?_
  rintro e w3 ⟨x_r, x_rc, x_s, x_sc, x_f, x_fc, x_n, x_nc, rfl, I_x, bb⟩
  try dsimp only
  replace hB := Below.on hB bb
  clear bb
  have ba : Below w3.heap.size w3 (w3.alloc (.cells #[.int .i64 imgZ.guest, .slice x_r imgZ.root.length x_rc, .slice x_s imgZ.slots.length x_sc, .slice x_f imgZ.refs.length x_fc, .slice x_n imgZ.snaps.length x_nc] 26)) := (Below.refl _ _).alloc (Nat.le_refl _) _
  replace hB := Below.on hB ba
  replace I_x := I_x.below ba
  clear ba
  have mb_x : (w3.alloc (.cells #[.int .i64 imgZ.guest, .slice x_r imgZ.root.length x_rc, .slice x_s imgZ.slots.length x_sc, .slice x_f imgZ.refs.length x_fc, .slice x_n imgZ.snaps.length x_nc] 26)).heap[w3.heap.size]? = some (.cells #[.int .i64 imgZ.guest, .slice x_r imgZ.root.length x_rc, .slice x_s imgZ.slots.length x_sc, .slice x_f imgZ.refs.length x_fc, .slice x_n imgZ.snaps.length x_nc] 26) := World.alloc_heap_new _ _
  have hh_mb_x := Hid_mkG mb_x
  have hh_I_x := Hid_mkG I_x
  have hh_hB := Hid_mkG hB
  clear mb_x I_x hB
  go_wp2_with fail
  have mb_x := hh_mb_x.out
  have I_x := hh_I_x.out
  have hB := hh_hB.out
  clear hh_mb_x hh_I_x hh_hB
  refine (wireBegun_any _).mono ?_
  rintro e w4 ⟨rfl, bb⟩
  replace mb_x := cells_below mb_x bb (Array.getElem?_eq_some_iff.1 mb_x).1
  replace hB := Below.on hB bb
  replace I_x := I_x.below bb
  clear bb
  obtain ⟨x0, x1, x2, x3, x4⟩ := five mb_x
  have hh_mb_x := Hid_mkG mb_x
  have hh_I_x := Hid_mkG I_x
  have hh_hB := Hid_mkG hB
  clear mb_x I_x hB
  go_wp2_with fail
  clear x0 x1 x2 x3 x4
  have mb_x := hh_mb_x.out
  have I_x := hh_I_x.out
  have hB := hh_hB.out
  clear hh_mb_x hh_I_x hh_hB
  refine (sameI_is I_x (img_ZA _)).mono ?_
  rintro e w5 ⟨rfl, bb⟩
  replace mb_x := cells_below mb_x bb (Array.getElem?_eq_some_iff.1 mb_x).1
  replace hB := Below.on hB bb
  replace I_x := I_x.below bb
  clear bb
  clear mb_x
  clear I_x
  have hh_hB := Hid_mkG hB
  clear hB
  go_wp2_with fail
  go_ret
  have hB := hh_hB.out
  exact ⟨rfl, hB⟩
set_option maxHeartbeats 8000000 in
theorem wwk_n_some (ra : Option Addr) (rc : Nat) (sa : Option Addr) (sc : Nat) (fa : Option Addr) (fc : Nat) (na : Option Addr) (nc : Nat) (m : ImgD) (u : ByteArray)  (E : Int) (w : World) (h : Img w (.agg #[.int .i64 m.guest, .slice ra m.root.length rc, .slice sa m.slots.length sc, .slice fa m.refs.length fc, .slice na m.snaps.length nc]) m) (HS : Hid (wiV m = ⟨#[]⟩)) (HE : Hid (checkE m = E)) (hE0 : (E == 0) = false) (M2 : ImgD) (HR : Hid (rdE u = (M2, 0))) (hsz : ¬ (4096 : Int) < (u.size : Int)) (HL : Hid (u.size ≤ 4096)) (HI : Hid (noE (bytes u) = (M2, true))) :
    Calls Try.prog 4 #[.agg #[.int .i64 m.guest, .slice ra m.root.length rc, .slice sa m.slots.length sc, .slice fa m.refs.length fc, .slice na m.snaps.length nc], .string u] w fun r w' => r = .returned (.bool true) ∧ Below w.heap.size w w' := by
  have hB : Below w.heap.size w (w.alloc (.cells #[.int .i64 m.guest, .slice ra m.root.length rc, .slice sa m.slots.length sc, .slice fa m.refs.length fc, .slice na m.snaps.length nc] 26)) := (Below.refl _ _).alloc (Nat.le_refl _) _
  have mb_m : (w.alloc (.cells #[.int .i64 m.guest, .slice ra m.root.length rc, .slice sa m.slots.length sc, .slice fa m.refs.length fc, .slice na m.snaps.length nc] 26)).heap[w.heap.size]? = some (.cells #[.int .i64 m.guest, .slice ra m.root.length rc, .slice sa m.slots.length sc, .slice fa m.refs.length fc, .slice na m.snaps.length nc] 26) := World.alloc_heap_new _ _
  have I_m := h.below hB
  clear h
  go_enter Try.func4, Try.ntmps4
  obtain ⟨m0, m1, m2, m3, m4⟩ := five mb_m
  have hh_mb_m := Hid_mkG mb_m
  have hh_I_m := Hid_mkG I_m
  have hh_hB := Hid_mkG hB
  clear mb_m I_m hB
  go_wp2_with fail
  clear m0 m1 m2 m3 m4
  have mb_m := hh_mb_m.out
  have I_m := hh_I_m.out
  have hB := hh_hB.out
  clear hh_mb_m hh_I_m hh_hB
  refine (wwr_is I_m HS.out HE.out).mono ?_
  rintro e w1 ⟨rfl, bb⟩
  replace mb_m := cells_below mb_m bb (Array.getElem?_eq_some_iff.1 mb_m).1
  replace hB := Below.on hB bb
  replace I_m := I_m.below bb
  clear bb
  obtain ⟨m0, m1, m2, m3, m4⟩ := five mb_m
  have hh_mb_m := Hid_mkG mb_m
  have hh_I_m := Hid_mkG I_m
  have hh_hB := Hid_mkG hB
  clear mb_m I_m hB
  go_wp2_with fail
  clear m0 m1 m2 m3 m4
  have mb_m := hh_mb_m.out
  have I_m := hh_I_m.out
  have hB := hh_hB.out
  clear hh_mb_m hh_I_m hh_hB
  refine (checkImage_is I_m HE.out).mono ?_
  rintro e w2 ⟨rfl, bb⟩
  replace mb_m := cells_below mb_m bb (Array.getElem?_eq_some_iff.1 mb_m).1
  replace hB := Below.on hB bb
  replace I_m := I_m.below bb
  clear bb
  clear mb_m
  clear I_m
  have hh_hB := Hid_mkG hB
  clear hB
  go_wp2_with fail
  have hB := hh_hB.out
  clear hh_hB
  refine (rd_ok HR.out).mono ?_
  rintro e w3 ⟨x_r, x_rc, x_s, x_sc, x_f, x_fc, x_n, x_nc, rfl, I_x, bb⟩
  try dsimp only
  replace hB := Below.on hB bb
  clear bb
  have ba : Below w3.heap.size w3 (w3.alloc (.cells #[.int .i64 M2.guest, .slice x_r M2.root.length x_rc, .slice x_s M2.slots.length x_sc, .slice x_f M2.refs.length x_fc, .slice x_n M2.snaps.length x_nc] 26)) := (Below.refl _ _).alloc (Nat.le_refl _) _
  replace hB := Below.on hB ba
  replace I_x := I_x.below ba
  clear ba
  have mb_x : (w3.alloc (.cells #[.int .i64 M2.guest, .slice x_r M2.root.length x_rc, .slice x_s M2.slots.length x_sc, .slice x_f M2.refs.length x_fc, .slice x_n M2.snaps.length x_nc] 26)).heap[w3.heap.size]? = some (.cells #[.int .i64 M2.guest, .slice x_r M2.root.length x_rc, .slice x_s M2.slots.length x_sc, .slice x_f M2.refs.length x_fc, .slice x_n M2.snaps.length x_nc] 26) := World.alloc_heap_new _ _
  have hh_mb_x := Hid_mkG mb_x
  have hh_I_x := Hid_mkG I_x
  have hh_hB := Hid_mkG hB
  clear mb_x I_x hB
  go_wp2_with fail
  have mb_x := hh_mb_x.out
  have I_x := hh_I_x.out
  have hB := hh_hB.out
  clear hh_mb_x hh_I_x hh_hB
  refine (if_ok HL.out HI.out).mono ?_
  rintro e w4 ⟨y_r, y_rc, y_s, y_sc, y_f, y_fc, y_n, y_nc, rfl, I_y, bb⟩
  try dsimp only
  replace mb_x := cells_below mb_x bb (Array.getElem?_eq_some_iff.1 mb_x).1
  replace hB := Below.on hB bb
  replace I_x := I_x.below bb
  clear bb
  replace mb_x := cells_alloc mb_x (.cells #[.int .i64 M2.guest, .slice y_r M2.root.length y_rc, .slice y_s M2.slots.length y_sc, .slice y_f M2.refs.length y_fc, .slice y_n M2.snaps.length y_nc] 26)
  have ba : Below w4.heap.size w4 (w4.alloc (.cells #[.int .i64 M2.guest, .slice y_r M2.root.length y_rc, .slice y_s M2.slots.length y_sc, .slice y_f M2.refs.length y_fc, .slice y_n M2.snaps.length y_nc] 26)) := (Below.refl _ _).alloc (Nat.le_refl _) _
  replace hB := Below.on hB ba
  replace I_x := I_x.below ba
  replace I_y := I_y.below ba
  clear ba
  have mb_y : (w4.alloc (.cells #[.int .i64 M2.guest, .slice y_r M2.root.length y_rc, .slice y_s M2.slots.length y_sc, .slice y_f M2.refs.length y_fc, .slice y_n M2.snaps.length y_nc] 26)).heap[w4.heap.size]? = some (.cells #[.int .i64 M2.guest, .slice y_r M2.root.length y_rc, .slice y_s M2.slots.length y_sc, .slice y_f M2.refs.length y_fc, .slice y_n M2.snaps.length y_nc] 26) := World.alloc_heap_new _ _
  have hh_mb_x := Hid_mkG mb_x
  have hh_mb_y := Hid_mkG mb_y
  have hh_I_x := Hid_mkG I_x
  have hh_I_y := Hid_mkG I_y
  have hh_hB := Hid_mkG hB
  clear mb_x mb_y I_x I_y hB
  go_wp2_with fail
  have mb_x := hh_mb_x.out
  have mb_y := hh_mb_y.out
  have I_x := hh_I_x.out
  have I_y := hh_I_y.out
  have hB := hh_hB.out
  clear hh_mb_x hh_mb_y hh_I_x hh_I_y hh_hB
  refine (wireBegun_any _).mono ?_
  rintro e w5 ⟨rfl, bb⟩
  replace mb_x := cells_below mb_x bb (Array.getElem?_eq_some_iff.1 mb_x).1
  replace mb_y := cells_below mb_y bb (Array.getElem?_eq_some_iff.1 mb_y).1
  replace hB := Below.on hB bb
  replace I_x := I_x.below bb
  replace I_y := I_y.below bb
  clear bb
  obtain ⟨x0, x1, x2, x3, x4⟩ := five mb_x
  obtain ⟨y0, y1, y2, y3, y4⟩ := five mb_y
  have hh_mb_x := Hid_mkG mb_x
  have hh_mb_y := Hid_mkG mb_y
  have hh_I_x := Hid_mkG I_x
  have hh_I_y := Hid_mkG I_y
  have hh_hB := Hid_mkG hB
  clear mb_x mb_y I_x I_y hB
  go_wp2_with fail
  clear x0 x1 x2 x3 x4 y0 y1 y2 y3 y4
  have mb_x := hh_mb_x.out
  have mb_y := hh_mb_y.out
  have I_x := hh_I_x.out
  have I_y := hh_I_y.out
  have hB := hh_hB.out
  clear hh_mb_x hh_mb_y hh_I_x hh_I_y hh_hB
  refine (sameI_is I_x I_y).mono ?_
  rintro e w6 ⟨rfl, bb⟩
  replace mb_x := cells_below mb_x bb (Array.getElem?_eq_some_iff.1 mb_x).1
  replace mb_y := cells_below mb_y bb (Array.getElem?_eq_some_iff.1 mb_y).1
  replace hB := Below.on hB bb
  replace I_x := I_x.below bb
  replace I_y := I_y.below bb
  clear bb
  clear mb_x
  clear I_x
  clear mb_y
  clear I_y
  have hh_hB := Hid_mkG hB
  clear hB
  go_wp2_with fail
  go_ret
  have hB := hh_hB.out
  exact ⟨rfl, hB⟩
set_option maxHeartbeats 8000000 in
theorem wwk_n_none (ra : Option Addr) (rc : Nat) (sa : Option Addr) (sc : Nat) (fa : Option Addr) (fc : Nat) (na : Option Addr) (nc : Nat) (m : ImgD) (u : ByteArray)  (E : Int) (w : World) (h : Img w (.agg #[.int .i64 m.guest, .slice ra m.root.length rc, .slice sa m.slots.length sc, .slice fa m.refs.length fc, .slice na m.snaps.length nc]) m) (HS : Hid (wiV m = ⟨#[]⟩)) (HE : Hid (checkE m = E)) (hE0 : (E == 0) = false) (HR : Hid (rdE u = (imgZ, 1))) (hsz : ¬ (4096 : Int) < (u.size : Int)) (HL : Hid (u.size ≤ 4096)) (HI : Hid (noE (bytes u) = (imgZ, false))) :
    Calls Try.prog 4 #[.agg #[.int .i64 m.guest, .slice ra m.root.length rc, .slice sa m.slots.length sc, .slice fa m.refs.length fc, .slice na m.snaps.length nc], .string u] w fun r w' => r = .returned (.bool true) ∧ Below w.heap.size w w' := by
  have hB : Below w.heap.size w (w.alloc (.cells #[.int .i64 m.guest, .slice ra m.root.length rc, .slice sa m.slots.length sc, .slice fa m.refs.length fc, .slice na m.snaps.length nc] 26)) := (Below.refl _ _).alloc (Nat.le_refl _) _
  have mb_m : (w.alloc (.cells #[.int .i64 m.guest, .slice ra m.root.length rc, .slice sa m.slots.length sc, .slice fa m.refs.length fc, .slice na m.snaps.length nc] 26)).heap[w.heap.size]? = some (.cells #[.int .i64 m.guest, .slice ra m.root.length rc, .slice sa m.slots.length sc, .slice fa m.refs.length fc, .slice na m.snaps.length nc] 26) := World.alloc_heap_new _ _
  have I_m := h.below hB
  clear h
  go_enter Try.func4, Try.ntmps4
  obtain ⟨m0, m1, m2, m3, m4⟩ := five mb_m
  have hh_mb_m := Hid_mkG mb_m
  have hh_I_m := Hid_mkG I_m
  have hh_hB := Hid_mkG hB
  clear mb_m I_m hB
  go_wp2_with fail
  clear m0 m1 m2 m3 m4
  have mb_m := hh_mb_m.out
  have I_m := hh_I_m.out
  have hB := hh_hB.out
  clear hh_mb_m hh_I_m hh_hB
  refine (wwr_is I_m HS.out HE.out).mono ?_
  rintro e w1 ⟨rfl, bb⟩
  replace mb_m := cells_below mb_m bb (Array.getElem?_eq_some_iff.1 mb_m).1
  replace hB := Below.on hB bb
  replace I_m := I_m.below bb
  clear bb
  obtain ⟨m0, m1, m2, m3, m4⟩ := five mb_m
  have hh_mb_m := Hid_mkG mb_m
  have hh_I_m := Hid_mkG I_m
  have hh_hB := Hid_mkG hB
  clear mb_m I_m hB
  go_wp2_with fail
  clear m0 m1 m2 m3 m4
  have mb_m := hh_mb_m.out
  have I_m := hh_I_m.out
  have hB := hh_hB.out
  clear hh_mb_m hh_I_m hh_hB
  refine (checkImage_is I_m HE.out).mono ?_
  rintro e w2 ⟨rfl, bb⟩
  replace mb_m := cells_below mb_m bb (Array.getElem?_eq_some_iff.1 mb_m).1
  replace hB := Below.on hB bb
  replace I_m := I_m.below bb
  clear bb
  clear mb_m
  clear I_m
  have hh_hB := Hid_mkG hB
  clear hB
  go_wp2_with fail
  have hB := hh_hB.out
  clear hh_hB
  refine (rd_no HR.out).mono ?_
  rintro e w3 ⟨x_r, x_rc, x_s, x_sc, x_f, x_fc, x_n, x_nc, rfl, I_x, bb⟩
  try dsimp only
  replace hB := Below.on hB bb
  clear bb
  have ba : Below w3.heap.size w3 (w3.alloc (.cells #[.int .i64 imgZ.guest, .slice x_r imgZ.root.length x_rc, .slice x_s imgZ.slots.length x_sc, .slice x_f imgZ.refs.length x_fc, .slice x_n imgZ.snaps.length x_nc] 26)) := (Below.refl _ _).alloc (Nat.le_refl _) _
  replace hB := Below.on hB ba
  replace I_x := I_x.below ba
  clear ba
  have mb_x : (w3.alloc (.cells #[.int .i64 imgZ.guest, .slice x_r imgZ.root.length x_rc, .slice x_s imgZ.slots.length x_sc, .slice x_f imgZ.refs.length x_fc, .slice x_n imgZ.snaps.length x_nc] 26)).heap[w3.heap.size]? = some (.cells #[.int .i64 imgZ.guest, .slice x_r imgZ.root.length x_rc, .slice x_s imgZ.slots.length x_sc, .slice x_f imgZ.refs.length x_fc, .slice x_n imgZ.snaps.length x_nc] 26) := World.alloc_heap_new _ _
  have hh_mb_x := Hid_mkG mb_x
  have hh_I_x := Hid_mkG I_x
  have hh_hB := Hid_mkG hB
  clear mb_x I_x hB
  go_wp2_with fail
  have mb_x := hh_mb_x.out
  have I_x := hh_I_x.out
  have hB := hh_hB.out
  clear hh_mb_x hh_I_x hh_hB
  refine (if_no HL.out HI.out).mono ?_
  rintro e w4 ⟨y_r, y_rc, y_s, y_sc, y_f, y_fc, y_n, y_nc, rfl, I_y, bb⟩
  try dsimp only
  replace mb_x := cells_below mb_x bb (Array.getElem?_eq_some_iff.1 mb_x).1
  replace hB := Below.on hB bb
  replace I_x := I_x.below bb
  clear bb
  replace mb_x := cells_alloc mb_x (.cells #[.int .i64 imgZ.guest, .slice y_r imgZ.root.length y_rc, .slice y_s imgZ.slots.length y_sc, .slice y_f imgZ.refs.length y_fc, .slice y_n imgZ.snaps.length y_nc] 26)
  have ba : Below w4.heap.size w4 (w4.alloc (.cells #[.int .i64 imgZ.guest, .slice y_r imgZ.root.length y_rc, .slice y_s imgZ.slots.length y_sc, .slice y_f imgZ.refs.length y_fc, .slice y_n imgZ.snaps.length y_nc] 26)) := (Below.refl _ _).alloc (Nat.le_refl _) _
  replace hB := Below.on hB ba
  replace I_x := I_x.below ba
  replace I_y := I_y.below ba
  clear ba
  have mb_y : (w4.alloc (.cells #[.int .i64 imgZ.guest, .slice y_r imgZ.root.length y_rc, .slice y_s imgZ.slots.length y_sc, .slice y_f imgZ.refs.length y_fc, .slice y_n imgZ.snaps.length y_nc] 26)).heap[w4.heap.size]? = some (.cells #[.int .i64 imgZ.guest, .slice y_r imgZ.root.length y_rc, .slice y_s imgZ.slots.length y_sc, .slice y_f imgZ.refs.length y_fc, .slice y_n imgZ.snaps.length y_nc] 26) := World.alloc_heap_new _ _
  have hh_mb_x := Hid_mkG mb_x
  have hh_mb_y := Hid_mkG mb_y
  have hh_I_x := Hid_mkG I_x
  have hh_I_y := Hid_mkG I_y
  have hh_hB := Hid_mkG hB
  clear mb_x mb_y I_x I_y hB
  go_wp2_with fail
  have mb_x := hh_mb_x.out
  have mb_y := hh_mb_y.out
  have I_x := hh_I_x.out
  have I_y := hh_I_y.out
  have hB := hh_hB.out
  clear hh_mb_x hh_mb_y hh_I_x hh_I_y hh_hB
  refine (wireBegun_any _).mono ?_
  rintro e w5 ⟨rfl, bb⟩
  replace mb_x := cells_below mb_x bb (Array.getElem?_eq_some_iff.1 mb_x).1
  replace mb_y := cells_below mb_y bb (Array.getElem?_eq_some_iff.1 mb_y).1
  replace hB := Below.on hB bb
  replace I_x := I_x.below bb
  replace I_y := I_y.below bb
  clear bb
  obtain ⟨x0, x1, x2, x3, x4⟩ := five mb_x
  obtain ⟨y0, y1, y2, y3, y4⟩ := five mb_y
  have hh_mb_x := Hid_mkG mb_x
  have hh_mb_y := Hid_mkG mb_y
  have hh_I_x := Hid_mkG I_x
  have hh_I_y := Hid_mkG I_y
  have hh_hB := Hid_mkG hB
  clear mb_x mb_y I_x I_y hB
  go_wp2_with fail
  clear x0 x1 x2 x3 x4 y0 y1 y2 y3 y4
  have mb_x := hh_mb_x.out
  have mb_y := hh_mb_y.out
  have I_x := hh_I_x.out
  have I_y := hh_I_y.out
  have hB := hh_hB.out
  clear hh_mb_x hh_mb_y hh_I_x hh_I_y hh_hB
  refine (sameI_is I_x I_y).mono ?_
  rintro e w6 ⟨rfl, bb⟩
  replace mb_x := cells_below mb_x bb (Array.getElem?_eq_some_iff.1 mb_x).1
  replace mb_y := cells_below mb_y bb (Array.getElem?_eq_some_iff.1 mb_y).1
  replace hB := Below.on hB bb
  replace I_x := I_x.below bb
  replace I_y := I_y.below bb
  clear bb
  clear mb_x
  clear I_x
  clear mb_y
  clear I_y
  have hh_hB := Hid_mkG hB
  clear hB
  go_wp2_with fail
  go_ret
  have hB := hh_hB.out
  exact ⟨rfl, hB⟩

theorem wwk_is {w : World} {v : Value} {m : ImgD} (h : Img w v m) (u : ByteArray) :
    Calls Try.prog 4 #[v, .string u] w fun r w' => r = .returned (.bool true) ∧ Below w.heap.size w w' := by
  have h' := h
  obtain ⟨ra, rc, sa, sc, fa, fc, na, nc, rfl, _⟩ := h.parts
  by_cases hE : checkE m = 0
  · by_cases hz : 4096 < u.size
    · exact wwk_y_many ra rc sa sc fa fc na nc m u _ _ w h' (rfl) rfl (by rw [hE]; rfl) ⟨checkE_shape hE, by unfold wiV; rw [if_pos hE]⟩ (rdE_many hz) (by omega)
    · have hb : rdO (bytes u) = noO (bytes u) := rdO_noO _
      cases hp : noO (bytes u) with
      | none => exact wwk_y_none ra rc sa sc fa fc na nc m u _ _ w h' (rfl) rfl (by rw [hE]; rfl) ⟨checkE_shape hE, by unfold wiV; rw [if_pos hE]⟩ (rdE_none hz (by rw [hb, hp])) (by omega) (by show _ ≤ _; omega) (by show noE _ = _; unfold noE; rw [hp])
      | some M2 => exact wwk_y_some ra rc sa sc fa fc na nc m u _ _ w h' (rfl) rfl (by rw [hE]; rfl) ⟨checkE_shape hE, by unfold wiV; rw [if_pos hE]⟩ M2 (rdE_some hz (by rw [hb, hp])) (by omega) (by show _ ≤ _; omega) (by show noE _ = _; unfold noE; rw [hp])
  · by_cases hz : 4096 < u.size
    · exact wwk_n_many ra rc sa sc fa fc na nc m u _ w h' (by show wiV m = _; unfold wiV; rw [if_neg hE]) rfl (by simpa using hE) (rdE_many hz) (by omega)
    · have hb : rdO (bytes u) = noO (bytes u) := rdO_noO _
      cases hp : noO (bytes u) with
      | none => exact wwk_n_none ra rc sa sc fa fc na nc m u _ w h' (by show wiV m = _; unfold wiV; rw [if_neg hE]) rfl (by simpa using hE) (rdE_none hz (by rw [hb, hp])) (by omega) (by show _ ≤ _; omega) (by show noE _ = _; unfold noE; rw [hp])
      | some M2 => exact wwk_n_some ra rc sa sc fa fc na nc m u _ w h' (by show wiV m = _; unfold wiV; rw [if_neg hE]) rfl (by simpa using hE) M2 (rdE_some hz (by rw [hb, hp])) (by omega) (by show _ ≤ _; omega) (by show noE _ = _; unfold noE; rw [hp])
end Go.Proofs.Ytehleeibgkpjmag
/- From the reading of an argument to what it holds: slices of integers, slots, slices of slots. -/
namespace Go.Proofs.Ytehleeibgkpjmag
open Go.RowKit Go.Deep Go.ChangeShapes Go.WideShapes Go.ChangeAt
set_option maxRecDepth 20000

theorem cells27 : Try.prog.cellsOf 22 = 1 := by kernel_rfl
theorem cells3 : Try.prog.cellsOf 3 = 1 := by kernel_rfl
theorem cells9 : Try.prog.cellsOf 9 = 1 := by kernel_rfl
theorem cells29 : Try.prog.cellsOf 60 = 3 := by kernel_rfl

variable {H : Type} {enc : TypeId × Value → H} {w : World} {base : Nat} {spare : Nat → Bool} {held : Bool}

theorem row_at {w : World} {a : Addr} {n : Nat} {f : Nat → Value} (hn : 0 < n) (h : ∀ i, i < n → w.cell? (a.add i) = some (f i)) :
    ∃ b off, a = ⟨b, off, none⟩ ∧ b < w.heap.size ∧ ∀ i, i < n → w.cell? ⟨b, off + i, none⟩ = some (f i) := by
  have h0 := h 0 hn
  obtain ⟨b, off, spot⟩ := a
  have hspot : spot = none := by simpa [Addr.add] using World.cell?_spot h0
  subst hspot
  refine ⟨b, off, rfl, World.block_lt_of_cell? w _ (by rw [addr_add] at h0; exact h0), fun i hi => ?_⟩
  have := h i hi
  rw [addr_add] at this
  exact this

theorem sl_of_trod {n : Nat} {cs : List Value} {x : DataW H × List MemPlace} (h : DataW.trod enc Try.prog w base spare held n 22 cs = some x) : ∃ v xs, cs = [v] ∧ Sl w v xs := by
  rcases open_ints Try.underlying22 Try.underlying3 cells3 h with ⟨rfl, _⟩ | ⟨a, l, c, zs, rfl, _, hl, hm, hz, _, hcell, _⟩
  · exact ⟨_, [], rfl, Sl.nil w⟩
  · have hlz : l ≤ zs.length := by rw [hz]; split <;> omega
    have hlen : (zs.take l).length = l := by simp; omega
    refine ⟨_, zs.take l, rfl, some a, c, by rw [hlen], by rw [hlen]; omega, by rw [hlen]; exact hl, fun hne => ?_⟩
    have hpos : 0 < l := by
      rcases Nat.eq_zero_or_pos l with e | e
      · subst e; simp at hne
      · exact e
    obtain ⟨b, off, rfl, hb, hc⟩ := row_at (w := w) (a := a) (n := l) (f := fun i => .int .i64 (zs.getD i 0)) hpos (fun i hi => hcell i (by omega))
    refine ⟨b, off, rfl, hb, fun j hj => ?_⟩
    rw [hlen] at hj
    rw [hc j hj]
    simp [List.getD, hj]

set_option maxRecDepth 20000 in
theorem slot_of_trod {n : Nat} {cs : List Value} {x : DataW H × List MemPlace} (h : DataW.trod enc Try.prog w base spare held n 60 cs = some x) :
    ∃ k d tv xs, cs = [.int .i64 k, .string d, tv] ∧ Sl w tv xs := by
  obtain ⟨y0, y1, y2, m, _, hl, h0, h1, h2⟩ := trod_struct3 Try.underlying60 h
  rw [cells29] at hl
  match cs, hl with
  | [c0, c1, c2], _ =>
    simp only [cells3, cells9, cells27] at h0 h1 h2
    obtain ⟨k, e0, _, _⟩ := DataW.trod_int Try.underlying3 h0
    obtain ⟨d, e1, _, _⟩ := DataW.trod_string Try.underlying9 h1
    obtain ⟨tv, xs, e2, hs⟩ := sl_of_trod h2
    simp at e0 e1 e2
    subst e0 e1 e2
    exact ⟨k, d, _, xs, rfl, hs⟩

theorem slots_of_trod {n : Nat} {v : Value} {x : DataW H × List MemPlace} (h : DataW.trod enc Try.prog w base spare held n 23 [v] = some x) : ∃ L, Slots w v L := by
  rcases open_slice Try.underlying23 h with ⟨hv, _⟩ | ⟨a, len, cap, m, fuel, D, Pl, hv, _, hl, hm, hmm, _, hx⟩
  · simp at hv
    subst hv
    exact ⟨[], none, 0, rfl, Nat.zero_le _, Nat.zero_le _, fun h => absurd rfl h⟩
  · simp at hv
    subst hv
    rw [cells29] at hx
    have hx' : ∀ i, i < len → ∃ s : SlotD, ∃ tv, w.cell? (a.add (i * 3)) = some (.int .i64 s.1) ∧ w.cell? ((a.add (i * 3)).add 1) = some (.string s.2.1) ∧ w.cell? ((a.add (i * 3)).add 2) = some tv ∧ Sl w tv s.2.2 := by
      intro i hi
      obtain ⟨cs', h1, h2⟩ := hx i (by rw [hmm]; split <;> omega)
      obtain ⟨k, d, tv, xs, rfl, hs⟩ := slot_of_trod h2
      obtain ⟨_, _, hc⟩ := World.cells?_some h1
      have c0 := hc 0 (by omega)
      have c1 := hc 1 (by omega)
      have c2 := hc 2 (by omega)
      exact ⟨(k, d, xs), tv, by simpa [Addr.add] using c0, c1, c2, hs⟩
    obtain ⟨f, hf⟩ := choose_lt hx'
    have hlen : ((List.range len).map f).length = len := by simp
    refine ⟨(List.range len).map f, some a, cap, by rw [hlen], by rw [hlen]; omega, by rw [hlen]; exact hl, fun hne => ?_⟩
    have hpos : 0 < len := by
      rcases Nat.eq_zero_or_pos len with e | e
      · subst e; simp at hne
      · exact e
    obtain ⟨tv0, c0, _⟩ := hf 0 hpos
    obtain ⟨b, off, spot⟩ := a
    have hspot : spot = none := by simpa [Addr.add] using World.cell?_spot c0
    subst hspot
    refine ⟨b, off, rfl, World.block_lt_of_cell? w _ (by rw [addr_add] at c0; exact c0), fun j hj => ?_⟩
    rw [hlen] at hj
    obtain ⟨tv, c0, c1, c2, hs⟩ := hf j hj
    rw [addr_add] at c0 c1 c2
    rw [addr_add] at c1 c2
    have e : ((List.range len).map f)[j]'(by rw [hlen]; exact hj) = f j := by simp
    rw [e]
    exact ⟨tv, c0, c1, c2, hs⟩
end Go.Proofs.Ytehleeibgkpjmag
