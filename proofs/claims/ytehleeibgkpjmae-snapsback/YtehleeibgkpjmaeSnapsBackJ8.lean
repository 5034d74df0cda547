/- Texts joined: SameInts, NBegun, TakI, TakJ, TakL, TakK, First, With, WrI, WrJ. -/
import Derived.Test.YtehleeibgkpjmaeSnapsBackJ1
import Derived.Deep.QuietTactic
import Derived.BigQuiet
import Derived.Test.YtehleeibgkpjmaeSnapsBackJ7
import Derived.Test.YtehleeibgkpjmaeSnapsBackJ5
import Derived.Test.YtehleeibgkpjmaeSnapsBackJ3
import Derived.Test.YtehleeibgkpjmaeSnapsBackJ4
import Derived.Deep.RegionHeld3
import Derived.Deep.RegionLaw
import Derived.Deep.CutRange
import Derived.Laws.CopyOwn
/- Contract of SameInts. -/
namespace Go.Proofs.Ytehleeibgkpjmae
open Go.RowKit
set_option maxRecDepth 20000

theorem same_at (ao bo : Option Addr) (n cap cap' : Nat) (xs : List Int) (w : World) (hn : xs.length = n) (hm : n ≤ 9223372036854775807)
    (hc : ∀ j, j < n → ∃ b off, ao = some ⟨b, off, none⟩ ∧ b < w.heap.size ∧ w.cell? ⟨b, off + j, none⟩ = some (.int .i64 (xs.getD j 0)))
    (hd : ∀ j, j < n → ∃ b off, bo = some ⟨b, off, none⟩ ∧ b < w.heap.size ∧ w.cell? ⟨b, off + j, none⟩ = some (.int .i64 (xs.getD j 0))) :
    Calls Try.prog 18 #[.slice ao n cap, .slice bo n cap'] w fun r w' => r = .returned (.bool true) ∧ Below w.heap.size w w' := by
  have HC : Hid (∀ j, j < n → ∃ b off, ao = some ⟨b, off, none⟩ ∧ b < w.heap.size ∧ w.cell? ⟨b, off + j, none⟩ = some (.int .i64 (xs.getD j 0))) := hc
  have HD : Hid (∀ j, j < n → ∃ b off, bo = some ⟨b, off, none⟩ ∧ b < w.heap.size ∧ w.cell? ⟨b, off + j, none⟩ = some (.int .i64 (xs.getD j 0))) := hd
  clear hc hd
  have HN : Hid (xs.length = n) := hn
  clear hn
  go_enter Try.func18, Try.ntmps18
  go_wp2
  go_loopw [5] (fun i wr => ∃ k : Nat, k ≤ n ∧ i = .int .i64 k ∧ Below w.heap.size w wr) (fun i _ => n - (intOf i).toNat)
  case atStart => exact ⟨0, by omega, rfl, Below.refl _ _⟩
  case round =>
    obtain ⟨k, hk, rfl, hbel⟩ := hrel
    by_cases hlt : k < n
    · obtain ⟨x, hx⟩ : ∃ x, xs.getD k 0 = x := ⟨_, rfl⟩
      obtain ⟨b, off, hao, hl1, hck⟩ := HC.out k hlt
      obtain ⟨b', off', hbo, hl2, hck'⟩ := HD.out k hlt
      rw [hx] at hck hck'
      clear hx
      have g1 : wr.cell? ⟨b, off + k, none⟩ = some (.int .i64 x) := (hbel.cell (p := ⟨b, off + k, none⟩) hl1).trans hck
      have g2 : wr.cell? ⟨b', off' + k, none⟩ = some (.int .i64 x) := (hbel.cell (p := ⟨b', off' + k, none⟩) hl2).trans hck'
      have i1 : (k : Int) < (n : Int) := by omega
      go_wp2
      go_quiet (fail)
      go_wp2
      go_roundw
      case rel => exact ⟨k + 1, by omega, by go_num, below_drewN hbel _⟩
      case measure => simp [intOf]; omega
    · have e4 : k = n := by omega
      subst e4
      go_wp2
      go_ret
      exact ⟨rfl, hbel⟩
theorem same_any {v u : Value} {xs : List Int} {w : World} (h : Sl w v xs) (k : Sl w u xs) :
    Calls Try.prog 18 #[v, u] w fun r w' => r = .returned (.bool true) ∧ Below w.heap.size w w' := by
  obtain ⟨ao, cap, rfl⟩ := h.form
  obtain ⟨bo, cap', rfl⟩ := k.form
  obtain ⟨hn, hm, _, hc⟩ := h.cells
  obtain ⟨_, _, _, hd⟩ := k.cells
  exact same_at ao bo _ cap cap' xs w hn hm hc hd

end Go.Proofs.Ytehleeibgkpjmae
/- Contract of snapsBegun: it answers true. -/
namespace Go.Proofs.Ytehleeibgkpjmae
open Go.RowKit Go.Shelf
set_option maxRecDepth 20000

theorem Hid_mkN {p : Prop} (h : p) : Hid p := h
def CAtN (W : World) (p : Addr) (v : Value) : Prop := W.cell? p = some v ∧ p.block < W.heap.size
theorem CAtN.below {W W' : World} {p : Addr} {v : Value} (h : CAtN W p v) (bb : Below W.heap.size W W') : CAtN W' p v := ⟨(bb.cell h.2).trans h.1, Nat.lt_of_lt_of_le h.2 bb.size⟩
def nbA : ImgD := ⟨6, [2, 4], [(0, ⟨#[]⟩, []), (1, aaaa, []), (2, ⟨#[]⟩, [1, 0, -1, 1]), (1, bbbb, []), (2, ⟨#[]⟩, [3, 0, 0, 0])], [0, 2, 3, 1, 2], [(⟨#[110, 101, 119]⟩, 6, [2, 4]), (nOld, 4, [2])]⟩
def nbB : ImgD := ⟨4, [2], [(0, ⟨#[]⟩, []), (1, aaaa, []), (2, ⟨#[]⟩, [1, 0, -1, 1]), (0, ⟨#[]⟩, []), (0, ⟨#[]⟩, [])], [0, 2, 2, 0, 0], [(nOld, 4, [2])]⟩
def nbC : ImgD := ⟨6, [2, 4], [(0, ⟨#[]⟩, []), (1, aaaa, []), (2, ⟨#[]⟩, [1, 0, -1, 1]), (1, bbbb, []), (2, ⟨#[]⟩, [3, 0, 0, 0])], [0, 2, 1, 1, 1], []⟩
theorem nb_ma : crM pD ⟨#[110, 101, 119]⟩ = nbA := by kernel_rfl
theorem nb_ea : crE pD ⟨#[110, 101, 119]⟩ = 0 := by decide +kernel
theorem nb_mb : rvM pD nOld = nbB := by kernel_rfl
theorem nb_eb : pastE pD nOld = 0 := by decide +kernel
theorem nb_mc : dlM pD nOld = nbC := by kernel_rfl
theorem nb_ec : pastE pD nOld = 0 := by decide +kernel
theorem nb_mh : crM pD nOld = imgZ := by kernel_rfl
theorem nb_eh : crE pD nOld = 6 := by decide +kernel
theorem nb_mi : dlM pD ⟨#[120]⟩ = imgZ := by kernel_rfl
theorem nb_ei : pastE pD ⟨#[120]⟩ = 5 := by decide +kernel
set_option maxHeartbeats 2000000 in
theorem revert_is {w : World} {v : Value} {m : ImgD} (h : Img w v m) (nm : ByteArray) {M : ImgD} {E : Int} (hM : rvM m nm = M) (hE : pastE m nm = E) :
    Calls Try.prog 9 #[v, .string nm] w (AnsI w w.heap.size M E) := by
  have h' := h
  obtain ⟨ra, rc, sa, sc, fa, fc, na, nc, rfl, _⟩ := h.parts
  have b0 : Below w.heap.size w ((w.alloc (.cells #[.int .i64 m.guest, .slice ra m.root.length rc, .slice sa m.slots.length sc, .slice fa m.refs.length fc, .slice na m.snaps.length nc] 26)).alloc (.cells #[.int .i64 0, .slice none 0 0, .slice none 0 0, .slice none 0 0, .slice none 0 0] 26)) := ((Below.refl _ _).alloc (Nat.le_refl _) _).alloc (by simp) _
  have m0 : ((w.alloc (.cells #[.int .i64 m.guest, .slice ra m.root.length rc, .slice sa m.slots.length sc, .slice fa m.refs.length fc, .slice na m.snaps.length nc] 26)).alloc (.cells #[.int .i64 0, .slice none 0 0, .slice none 0 0, .slice none 0 0, .slice none 0 0] 26)).heap[w.heap.size]? = some (.cells #[.int .i64 m.guest, .slice ra m.root.length rc, .slice sa m.slots.length sc, .slice fa m.refs.length fc, .slice na m.snaps.length nc] 26) := cells_alloc (World.alloc_heap_new _ _) _
  have m1 : ((w.alloc (.cells #[.int .i64 m.guest, .slice ra m.root.length rc, .slice sa m.slots.length sc, .slice fa m.refs.length fc, .slice na m.snaps.length nc] 26)).alloc (.cells #[.int .i64 0, .slice none 0 0, .slice none 0 0, .slice none 0 0, .slice none 0 0] 26)).heap[w.heap.size + 1]? = some (.cells #[.int .i64 0, .slice none 0 0, .slice none 0 0, .slice none 0 0, .slice none 0 0] 26) := by have := World.alloc_heap_new (w.alloc (.cells #[.int .i64 m.guest, .slice ra m.root.length rc, .slice sa m.slots.length sc, .slice fa m.refs.length fc, .slice na m.snaps.length nc] 26)) (.cells #[.int .i64 0, .slice none 0 0, .slice none 0 0, .slice none 0 0, .slice none 0 0] 26); simpa using this
  have hz : ((w.alloc (.cells #[.int .i64 m.guest, .slice ra m.root.length rc, .slice sa m.slots.length sc, .slice fa m.refs.length fc, .slice na m.snaps.length nc] 26)).alloc (.cells #[.int .i64 0, .slice none 0 0, .slice none 0 0, .slice none 0 0, .slice none 0 0] 26)).heap.size = w.heap.size + 1 + 1 := by simp
  have hcall := revert_with (h'.below b0) nm hM hE
  obtain ⟨c0, c1, c2, c3, c4⟩ := five m0
  have HM : Hid (((w.alloc (.cells #[.int .i64 m.guest, .slice ra m.root.length rc, .slice sa m.slots.length sc, .slice fa m.refs.length fc, .slice na m.snaps.length nc] 26)).alloc (.cells #[.int .i64 0, .slice none 0 0, .slice none 0 0, .slice none 0 0, .slice none 0 0] 26)).heap[w.heap.size + 1]? = some (.cells #[.int .i64 0, .slice none 0 0, .slice none 0 0, .slice none 0 0, .slice none 0 0] 26) ∧ Below w.heap.size w ((w.alloc (.cells #[.int .i64 m.guest, .slice ra m.root.length rc, .slice sa m.slots.length sc, .slice fa m.refs.length fc, .slice na m.snaps.length nc] 26)).alloc (.cells #[.int .i64 0, .slice none 0 0, .slice none 0 0, .slice none 0 0, .slice none 0 0] 26)) ∧ ((w.alloc (.cells #[.int .i64 m.guest, .slice ra m.root.length rc, .slice sa m.slots.length sc, .slice fa m.refs.length fc, .slice na m.snaps.length nc] 26)).alloc (.cells #[.int .i64 0, .slice none 0 0, .slice none 0 0, .slice none 0 0, .slice none 0 0] 26)).heap.size = w.heap.size + 1 + 1) := ⟨m1, b0, hz⟩
  clear h h' m0 m1 b0 hM hE
  go_enter Try.func9, Try.ntmps9
  go_wp2_with fail
  refine hcall.mono ?_
  intro e w3 hA
  obtain ⟨val, ga, gc, la, lc, oa, oc, ta, tc, rfl, hO, b1, hI⟩ := hA.open
  dsimp only
  have k3 := cells_below HM.out.1 b1 (by rw [HM.out.2.2]; omega)
  obtain ⟨z0, z1, z2, z3, z4⟩ := five k3
  have y0 := cells_frozen k3 0
  have y1 := cells_frozen k3 1
  have y2 := cells_frozen k3 2
  have y3 := cells_frozen k3 3
  have y4 := cells_frozen k3 4
  have HP : Hid (OI w3 (w.heap.size + 1 + 1) val M) := by rw [HM.out.2.2] at hO; exact hO
  have HB : Hid (Below w.heap.size w w3) := Below.on HM.out.2.1 b1
  have HI : Hid (imgV M.guest val = .agg #[.int .i64 M.guest, .slice ga M.root.length gc, .slice la M.slots.length lc, .slice oa M.refs.length oc, .slice ta M.snaps.length tc]) := hI
  clear hO b1 hI hcall hA
  go_wp2_with fail
  have i1 : w.heap.size ≤ w.heap.size + 1 := by omega
  have hf1 : ∀ a, Live M a → (val a).ownBlock ≠ some (w.heap.size + 1) := fun a ha e => by have := ((HP.out.row a ha).lt _ e).1; omega
  refine bodyPost_ret (v := .tuple #[.agg #[.int .i64 M.guest, .slice ga M.root.length gc, .slice la M.slots.length lc, .slice oa M.refs.length oc, .slice ta M.snaps.length tc], .int .i64 E]) (by simp [results, Try.results9, go_sem, z0, z1, z2, z3, z4]) rfl ⟨val, by rw [HI.out], OI.mono (((((HP.out.far hf1).far hf1).far hf1).far hf1).far hf1) (by omega), ((((HB.out.setCell i1 _).setCell i1 _).setCell i1 _).setCell i1 _).setCell i1 _⟩
set_option maxHeartbeats 2000000 in
theorem delete_img {w : World} {v : Value} {m : ImgD} (h : Img w v m) (nm : ByteArray) {M : ImgD} {E : Int} (hM : dlM m nm = M) (hE : pastE m nm = E) :
    Calls Try.prog 10 #[v, .string nm] w (AnsI w w.heap.size M E) := by
  have h' := h
  obtain ⟨ra, rc, sa, sc, fa, fc, na, nc, rfl, _⟩ := h.parts
  have b0 : Below w.heap.size w ((w.alloc (.cells #[.int .i64 m.guest, .slice ra m.root.length rc, .slice sa m.slots.length sc, .slice fa m.refs.length fc, .slice na m.snaps.length nc] 26)).alloc (.cells #[.int .i64 0, .slice none 0 0, .slice none 0 0, .slice none 0 0, .slice none 0 0] 26)) := ((Below.refl _ _).alloc (Nat.le_refl _) _).alloc (by simp) _
  have m0 : ((w.alloc (.cells #[.int .i64 m.guest, .slice ra m.root.length rc, .slice sa m.slots.length sc, .slice fa m.refs.length fc, .slice na m.snaps.length nc] 26)).alloc (.cells #[.int .i64 0, .slice none 0 0, .slice none 0 0, .slice none 0 0, .slice none 0 0] 26)).heap[w.heap.size]? = some (.cells #[.int .i64 m.guest, .slice ra m.root.length rc, .slice sa m.slots.length sc, .slice fa m.refs.length fc, .slice na m.snaps.length nc] 26) := cells_alloc (World.alloc_heap_new _ _) _
  have m1 : ((w.alloc (.cells #[.int .i64 m.guest, .slice ra m.root.length rc, .slice sa m.slots.length sc, .slice fa m.refs.length fc, .slice na m.snaps.length nc] 26)).alloc (.cells #[.int .i64 0, .slice none 0 0, .slice none 0 0, .slice none 0 0, .slice none 0 0] 26)).heap[w.heap.size + 1]? = some (.cells #[.int .i64 0, .slice none 0 0, .slice none 0 0, .slice none 0 0, .slice none 0 0] 26) := by have := World.alloc_heap_new (w.alloc (.cells #[.int .i64 m.guest, .slice ra m.root.length rc, .slice sa m.slots.length sc, .slice fa m.refs.length fc, .slice na m.snaps.length nc] 26)) (.cells #[.int .i64 0, .slice none 0 0, .slice none 0 0, .slice none 0 0, .slice none 0 0] 26); simpa using this
  have hz : ((w.alloc (.cells #[.int .i64 m.guest, .slice ra m.root.length rc, .slice sa m.slots.length sc, .slice fa m.refs.length fc, .slice na m.snaps.length nc] 26)).alloc (.cells #[.int .i64 0, .slice none 0 0, .slice none 0 0, .slice none 0 0, .slice none 0 0] 26)).heap.size = w.heap.size + 1 + 1 := by simp
  have hcall := delete_with (h'.below b0) nm hM hE
  obtain ⟨c0, c1, c2, c3, c4⟩ := five m0
  have HM : Hid (((w.alloc (.cells #[.int .i64 m.guest, .slice ra m.root.length rc, .slice sa m.slots.length sc, .slice fa m.refs.length fc, .slice na m.snaps.length nc] 26)).alloc (.cells #[.int .i64 0, .slice none 0 0, .slice none 0 0, .slice none 0 0, .slice none 0 0] 26)).heap[w.heap.size + 1]? = some (.cells #[.int .i64 0, .slice none 0 0, .slice none 0 0, .slice none 0 0, .slice none 0 0] 26) ∧ Below w.heap.size w ((w.alloc (.cells #[.int .i64 m.guest, .slice ra m.root.length rc, .slice sa m.slots.length sc, .slice fa m.refs.length fc, .slice na m.snaps.length nc] 26)).alloc (.cells #[.int .i64 0, .slice none 0 0, .slice none 0 0, .slice none 0 0, .slice none 0 0] 26)) ∧ ((w.alloc (.cells #[.int .i64 m.guest, .slice ra m.root.length rc, .slice sa m.slots.length sc, .slice fa m.refs.length fc, .slice na m.snaps.length nc] 26)).alloc (.cells #[.int .i64 0, .slice none 0 0, .slice none 0 0, .slice none 0 0, .slice none 0 0] 26)).heap.size = w.heap.size + 1 + 1) := ⟨m1, b0, hz⟩
  clear h h' m0 m1 b0 hM hE
  go_enter Try.func10, Try.ntmps10
  go_wp2_with fail
  refine hcall.mono ?_
  intro e w3 hA
  obtain ⟨val, ga, gc, la, lc, oa, oc, ta, tc, rfl, hO, b1, hI⟩ := hA.open
  dsimp only
  have k3 := cells_below HM.out.1 b1 (by rw [HM.out.2.2]; omega)
  obtain ⟨z0, z1, z2, z3, z4⟩ := five k3
  have y0 := cells_frozen k3 0
  have y1 := cells_frozen k3 1
  have y2 := cells_frozen k3 2
  have y3 := cells_frozen k3 3
  have y4 := cells_frozen k3 4
  have HP : Hid (OI w3 (w.heap.size + 1 + 1) val M) := by rw [HM.out.2.2] at hO; exact hO
  have HB : Hid (Below w.heap.size w w3) := Below.on HM.out.2.1 b1
  have HI : Hid (imgV M.guest val = .agg #[.int .i64 M.guest, .slice ga M.root.length gc, .slice la M.slots.length lc, .slice oa M.refs.length oc, .slice ta M.snaps.length tc]) := hI
  clear hO b1 hI hcall hA
  go_wp2_with fail
  have i1 : w.heap.size ≤ w.heap.size + 1 := by omega
  have hf1 : ∀ a, Live M a → (val a).ownBlock ≠ some (w.heap.size + 1) := fun a ha e => by have := ((HP.out.row a ha).lt _ e).1; omega
  refine bodyPost_ret (v := .tuple #[.agg #[.int .i64 M.guest, .slice ga M.root.length gc, .slice la M.slots.length lc, .slice oa M.refs.length oc, .slice ta M.snaps.length tc], .int .i64 E]) (by simp [results, Try.results10, go_sem, z0, z1, z2, z3, z4]) rfl ⟨val, by rw [HI.out], OI.mono (((((HP.out.far hf1).far hf1).far hf1).far hf1).far hf1) (by omega), ((((HB.out.setCell i1 _).setCell i1 _).setCell i1 _).setCell i1 _).setCell i1 _⟩

set_option maxHeartbeats 200000000 in
theorem snapsBegun_any (w : World) : Calls Try.prog 13 #[] w fun r w' => r = .returned (.bool true) ∧ Below w.heap.size w w' := by
  go_enter Try.func13, Try.ntmps13
  have hB := Below.refl w.heap.size w
  go_wp2_with fail
  refine (pair_is _).mono ?_
  rintro e w1 ⟨⟨v_a, rfl, P_a⟩, bb⟩
  replace hB := Below.on hB bb
  clear bb
  go_wp2_with fail
  refine (create_is P_a ⟨#[110, 101, 119]⟩ nb_ma nb_ea).mono ?_
  intro e w2 hA
  obtain ⟨val, a_r, a_rc, a_s, a_sc, a_f, a_fc, a_n, a_nc, rfl, hO, bb, hI⟩ := hA.open
  dsimp only
  have I_a := hO.img
  rw [hI] at I_a
  clear hA hO hI
  rw [show nbA.guest = 6 from rfl, show nbA.root.length = 2 from rfl, show nbA.slots.length = 5 from rfl, show nbA.refs.length = 5 from rfl, show nbA.snaps.length = 2 from rfl] at I_a ⊢
  replace hB := Below.on hB bb
  replace P_a := P_a.below bb
  clear bb
  clear P_a
  have ba : Below w2.heap.size w2 (w2.alloc (.cells #[.int .i64 6, .slice a_r 2 a_rc, .slice a_s 5 a_sc, .slice a_f 5 a_fc, .slice a_n 2 a_nc] 26)) := (Below.refl _ _).alloc (Nat.le_refl _) _
  replace hB := Below.on hB ba
  replace I_a := I_a.below ba
  clear ba
  have mb_a : (w2.alloc (.cells #[.int .i64 6, .slice a_r 2 a_rc, .slice a_s 5 a_sc, .slice a_f 5 a_fc, .slice a_n 2 a_nc] 26)).heap[w2.heap.size]? = some (.cells #[.int .i64 6, .slice a_r 2 a_rc, .slice a_s 5 a_sc, .slice a_f 5 a_fc, .slice a_n 2 a_nc] 26) := World.alloc_heap_new _ _
  obtain ⟨a0, a1, a2, a3, a4⟩ := five mb_a
  go_wp2_with fail
  refine (pair_is _).mono ?_
  rintro e w3 ⟨⟨v_b, rfl, P_b⟩, bb⟩
  clear a0 a1 a2 a3 a4
  replace mb_a := cells_below mb_a bb (Array.getElem?_eq_some_iff.1 mb_a).1
  replace hB := Below.on hB bb
  replace I_a := I_a.below bb
  clear bb
  obtain ⟨a0, a1, a2, a3, a4⟩ := five mb_a
  go_wp2_with fail
  refine (revert_is P_b nOld nb_mb nb_eb).mono ?_
  intro e w4 hA
  obtain ⟨val, b_r, b_rc, b_s, b_sc, b_f, b_fc, b_n, b_nc, rfl, hO, bb, hI⟩ := hA.open
  dsimp only
  have I_b := hO.img
  rw [hI] at I_b
  clear hA hO hI
  rw [show nbB.guest = 4 from rfl, show nbB.root.length = 1 from rfl, show nbB.slots.length = 5 from rfl, show nbB.refs.length = 5 from rfl, show nbB.snaps.length = 1 from rfl] at I_b ⊢
  clear a0 a1 a2 a3 a4
  replace mb_a := cells_below mb_a bb (Array.getElem?_eq_some_iff.1 mb_a).1
  replace hB := Below.on hB bb
  replace I_a := I_a.below bb
  replace P_b := P_b.below bb
  clear bb
  clear P_b
  replace mb_a := cells_alloc mb_a (.cells #[.int .i64 4, .slice b_r 1 b_rc, .slice b_s 5 b_sc, .slice b_f 5 b_fc, .slice b_n 1 b_nc] 26)
  have ba : Below w4.heap.size w4 (w4.alloc (.cells #[.int .i64 4, .slice b_r 1 b_rc, .slice b_s 5 b_sc, .slice b_f 5 b_fc, .slice b_n 1 b_nc] 26)) := (Below.refl _ _).alloc (Nat.le_refl _) _
  replace hB := Below.on hB ba
  replace I_a := I_a.below ba
  replace I_b := I_b.below ba
  clear ba
  have mb_b : (w4.alloc (.cells #[.int .i64 4, .slice b_r 1 b_rc, .slice b_s 5 b_sc, .slice b_f 5 b_fc, .slice b_n 1 b_nc] 26)).heap[w4.heap.size]? = some (.cells #[.int .i64 4, .slice b_r 1 b_rc, .slice b_s 5 b_sc, .slice b_f 5 b_fc, .slice b_n 1 b_nc] 26) := World.alloc_heap_new _ _
  obtain ⟨a0, a1, a2, a3, a4⟩ := five mb_a
  obtain ⟨b0, b1, b2, b3, b4⟩ := five mb_b
  go_wp2_with fail
  refine (pair_is _).mono ?_
  rintro e w5 ⟨⟨v_c, rfl, P_c⟩, bb⟩
  clear a0 a1 a2 a3 a4 b0 b1 b2 b3 b4
  replace mb_a := cells_below mb_a bb (Array.getElem?_eq_some_iff.1 mb_a).1
  replace mb_b := cells_below mb_b bb (Array.getElem?_eq_some_iff.1 mb_b).1
  replace hB := Below.on hB bb
  replace I_a := I_a.below bb
  replace I_b := I_b.below bb
  clear bb
  obtain ⟨a0, a1, a2, a3, a4⟩ := five mb_a
  obtain ⟨b0, b1, b2, b3, b4⟩ := five mb_b
  go_wp2_with fail
  refine (delete_img P_c nOld nb_mc nb_ec).mono ?_
  intro e w6 hA
  obtain ⟨val, c_r, c_rc, c_s, c_sc, c_f, c_fc, c_n, c_nc, rfl, hO, bb, hI⟩ := hA.open
  dsimp only
  have I_c := hO.img
  rw [hI] at I_c
  clear hA hO hI
  rw [show nbC.guest = 6 from rfl, show nbC.root.length = 2 from rfl, show nbC.slots.length = 5 from rfl, show nbC.refs.length = 5 from rfl, show nbC.snaps.length = 0 from rfl] at I_c ⊢
  clear a0 a1 a2 a3 a4 b0 b1 b2 b3 b4
  replace mb_a := cells_below mb_a bb (Array.getElem?_eq_some_iff.1 mb_a).1
  replace mb_b := cells_below mb_b bb (Array.getElem?_eq_some_iff.1 mb_b).1
  replace hB := Below.on hB bb
  replace I_a := I_a.below bb
  replace I_b := I_b.below bb
  replace P_c := P_c.below bb
  clear bb
  clear P_c
  replace mb_a := cells_alloc mb_a (.cells #[.int .i64 6, .slice c_r 2 c_rc, .slice c_s 5 c_sc, .slice c_f 5 c_fc, .slice c_n 0 c_nc] 26)
  replace mb_b := cells_alloc mb_b (.cells #[.int .i64 6, .slice c_r 2 c_rc, .slice c_s 5 c_sc, .slice c_f 5 c_fc, .slice c_n 0 c_nc] 26)
  have ba : Below w6.heap.size w6 (w6.alloc (.cells #[.int .i64 6, .slice c_r 2 c_rc, .slice c_s 5 c_sc, .slice c_f 5 c_fc, .slice c_n 0 c_nc] 26)) := (Below.refl _ _).alloc (Nat.le_refl _) _
  replace hB := Below.on hB ba
  replace I_a := I_a.below ba
  replace I_b := I_b.below ba
  replace I_c := I_c.below ba
  clear ba
  have mb_c : (w6.alloc (.cells #[.int .i64 6, .slice c_r 2 c_rc, .slice c_s 5 c_sc, .slice c_f 5 c_fc, .slice c_n 0 c_nc] 26)).heap[w6.heap.size]? = some (.cells #[.int .i64 6, .slice c_r 2 c_rc, .slice c_s 5 c_sc, .slice c_f 5 c_fc, .slice c_n 0 c_nc] 26) := World.alloc_heap_new _ _
  obtain ⟨a0, a1, a2, a3, a4⟩ := five mb_a
  obtain ⟨b0, b1, b2, b3, b4⟩ := five mb_b
  obtain ⟨c0, c1, c2, c3, c4⟩ := five mb_c
  go_wp2_with fail
  refine (pair_is _).mono ?_
  rintro e w7 ⟨⟨v_h, rfl, P_h⟩, bb⟩
  clear a0 a1 a2 a3 a4 b0 b1 b2 b3 b4 c0 c1 c2 c3 c4
  replace mb_a := cells_below mb_a bb (Array.getElem?_eq_some_iff.1 mb_a).1
  replace mb_b := cells_below mb_b bb (Array.getElem?_eq_some_iff.1 mb_b).1
  replace mb_c := cells_below mb_c bb (Array.getElem?_eq_some_iff.1 mb_c).1
  replace hB := Below.on hB bb
  replace I_a := I_a.below bb
  replace I_b := I_b.below bb
  replace I_c := I_c.below bb
  clear bb
  obtain ⟨a0, a1, a2, a3, a4⟩ := five mb_a
  obtain ⟨b0, b1, b2, b3, b4⟩ := five mb_b
  obtain ⟨c0, c1, c2, c3, c4⟩ := five mb_c
  go_wp2_with fail
  refine (create_is P_h nOld nb_mh nb_eh).mono ?_
  intro e w8 hA
  obtain ⟨val, h_r, h_rc, h_s, h_sc, h_f, h_fc, h_n, h_nc, rfl, hO, bb, hI⟩ := hA.open
  dsimp only
  have I_h := hO.img
  rw [hI] at I_h
  clear hA hO hI
  rw [show imgZ.guest = 0 from rfl, show imgZ.root.length = 0 from rfl, show imgZ.slots.length = 0 from rfl, show imgZ.refs.length = 0 from rfl, show imgZ.snaps.length = 0 from rfl] at I_h ⊢
  clear a0 a1 a2 a3 a4 b0 b1 b2 b3 b4 c0 c1 c2 c3 c4
  replace mb_a := cells_below mb_a bb (Array.getElem?_eq_some_iff.1 mb_a).1
  replace mb_b := cells_below mb_b bb (Array.getElem?_eq_some_iff.1 mb_b).1
  replace mb_c := cells_below mb_c bb (Array.getElem?_eq_some_iff.1 mb_c).1
  replace hB := Below.on hB bb
  replace I_a := I_a.below bb
  replace I_b := I_b.below bb
  replace I_c := I_c.below bb
  replace P_h := P_h.below bb
  clear bb
  clear P_h
  replace mb_a := cells_alloc mb_a (.cells #[.int .i64 0, .slice h_r 0 h_rc, .slice h_s 0 h_sc, .slice h_f 0 h_fc, .slice h_n 0 h_nc] 26)
  replace mb_b := cells_alloc mb_b (.cells #[.int .i64 0, .slice h_r 0 h_rc, .slice h_s 0 h_sc, .slice h_f 0 h_fc, .slice h_n 0 h_nc] 26)
  replace mb_c := cells_alloc mb_c (.cells #[.int .i64 0, .slice h_r 0 h_rc, .slice h_s 0 h_sc, .slice h_f 0 h_fc, .slice h_n 0 h_nc] 26)
  have ba : Below w8.heap.size w8 (w8.alloc (.cells #[.int .i64 0, .slice h_r 0 h_rc, .slice h_s 0 h_sc, .slice h_f 0 h_fc, .slice h_n 0 h_nc] 26)) := (Below.refl _ _).alloc (Nat.le_refl _) _
  replace hB := Below.on hB ba
  replace I_a := I_a.below ba
  replace I_b := I_b.below ba
  replace I_c := I_c.below ba
  replace I_h := I_h.below ba
  clear ba
  have mb_h : (w8.alloc (.cells #[.int .i64 0, .slice h_r 0 h_rc, .slice h_s 0 h_sc, .slice h_f 0 h_fc, .slice h_n 0 h_nc] 26)).heap[w8.heap.size]? = some (.cells #[.int .i64 0, .slice h_r 0 h_rc, .slice h_s 0 h_sc, .slice h_f 0 h_fc, .slice h_n 0 h_nc] 26) := World.alloc_heap_new _ _
  clear mb_h
  clear I_h
  obtain ⟨a0, a1, a2, a3, a4⟩ := five mb_a
  obtain ⟨b0, b1, b2, b3, b4⟩ := five mb_b
  obtain ⟨c0, c1, c2, c3, c4⟩ := five mb_c
  go_wp2_with fail
  refine (pair_is _).mono ?_
  rintro e w9 ⟨⟨v_i, rfl, P_i⟩, bb⟩
  clear a0 a1 a2 a3 a4 b0 b1 b2 b3 b4 c0 c1 c2 c3 c4
  replace mb_a := cells_below mb_a bb (Array.getElem?_eq_some_iff.1 mb_a).1
  replace mb_b := cells_below mb_b bb (Array.getElem?_eq_some_iff.1 mb_b).1
  replace mb_c := cells_below mb_c bb (Array.getElem?_eq_some_iff.1 mb_c).1
  replace hB := Below.on hB bb
  replace I_a := I_a.below bb
  replace I_b := I_b.below bb
  replace I_c := I_c.below bb
  clear bb
  obtain ⟨a0, a1, a2, a3, a4⟩ := five mb_a
  obtain ⟨b0, b1, b2, b3, b4⟩ := five mb_b
  obtain ⟨c0, c1, c2, c3, c4⟩ := five mb_c
  go_wp2_with fail
  refine (delete_img P_i ⟨#[120]⟩ nb_mi nb_ei).mono ?_
  intro e w10 hA
  obtain ⟨val, i_r, i_rc, i_s, i_sc, i_f, i_fc, i_n, i_nc, rfl, hO, bb, hI⟩ := hA.open
  dsimp only
  have I_i := hO.img
  rw [hI] at I_i
  clear hA hO hI
  rw [show imgZ.guest = 0 from rfl, show imgZ.root.length = 0 from rfl, show imgZ.slots.length = 0 from rfl, show imgZ.refs.length = 0 from rfl, show imgZ.snaps.length = 0 from rfl] at I_i ⊢
  clear a0 a1 a2 a3 a4 b0 b1 b2 b3 b4 c0 c1 c2 c3 c4
  replace mb_a := cells_below mb_a bb (Array.getElem?_eq_some_iff.1 mb_a).1
  replace mb_b := cells_below mb_b bb (Array.getElem?_eq_some_iff.1 mb_b).1
  replace mb_c := cells_below mb_c bb (Array.getElem?_eq_some_iff.1 mb_c).1
  replace hB := Below.on hB bb
  replace I_a := I_a.below bb
  replace I_b := I_b.below bb
  replace I_c := I_c.below bb
  replace P_i := P_i.below bb
  clear bb
  clear P_i
  replace mb_a := cells_alloc mb_a (.cells #[.int .i64 0, .slice i_r 0 i_rc, .slice i_s 0 i_sc, .slice i_f 0 i_fc, .slice i_n 0 i_nc] 26)
  replace mb_b := cells_alloc mb_b (.cells #[.int .i64 0, .slice i_r 0 i_rc, .slice i_s 0 i_sc, .slice i_f 0 i_fc, .slice i_n 0 i_nc] 26)
  replace mb_c := cells_alloc mb_c (.cells #[.int .i64 0, .slice i_r 0 i_rc, .slice i_s 0 i_sc, .slice i_f 0 i_fc, .slice i_n 0 i_nc] 26)
  have ba : Below w10.heap.size w10 (w10.alloc (.cells #[.int .i64 0, .slice i_r 0 i_rc, .slice i_s 0 i_sc, .slice i_f 0 i_fc, .slice i_n 0 i_nc] 26)) := (Below.refl _ _).alloc (Nat.le_refl _) _
  replace hB := Below.on hB ba
  replace I_a := I_a.below ba
  replace I_b := I_b.below ba
  replace I_c := I_c.below ba
  replace I_i := I_i.below ba
  clear ba
  have mb_i : (w10.alloc (.cells #[.int .i64 0, .slice i_r 0 i_rc, .slice i_s 0 i_sc, .slice i_f 0 i_fc, .slice i_n 0 i_nc] 26)).heap[w10.heap.size]? = some (.cells #[.int .i64 0, .slice i_r 0 i_rc, .slice i_s 0 i_sc, .slice i_f 0 i_fc, .slice i_n 0 i_nc] 26) := World.alloc_heap_new _ _
  clear mb_i
  clear I_i
  obtain ⟨pan, oan, tan, e, _, lan, san⟩ := I_a.four.2.2.2.open (by decide)
  simp only [Value.slice.injEq] at e
  obtain ⟨rfl, hh, rfl⟩ := e
  clear hh
  obtain ⟨pbs, obs, tbs, e, _, lbs, sbs⟩ := I_b.four.2.1.open (by decide)
  simp only [Value.slice.injEq] at e
  obtain ⟨rfl, hh, rfl⟩ := e
  clear hh
  have ca0 : CAtN (w10.alloc (.cells #[.int .i64 0, .slice i_r 0 i_rc, .slice i_s 0 i_sc, .slice i_f 0 i_fc, .slice i_n 0 i_nc] 26)) ⟨pan, oan, none⟩ (.string ⟨#[110, 101, 119]⟩) := ⟨(san 0 (by decide)).choose_spec.1, lan⟩
  have cb3 : CAtN (w10.alloc (.cells #[.int .i64 0, .slice i_r 0 i_rc, .slice i_s 0 i_sc, .slice i_f 0 i_fc, .slice i_n 0 i_nc] 26)) ⟨pbs, obs + 9, none⟩ (.int .i64 0) := ⟨(sbs 3 (by decide)).choose_spec.1, lbs⟩
  have cb4 : CAtN (w10.alloc (.cells #[.int .i64 0, .slice i_r 0 i_rc, .slice i_s 0 i_sc, .slice i_f 0 i_fc, .slice i_n 0 i_nc] 26)) ⟨pbs, obs + 12, none⟩ (.int .i64 0) := ⟨(sbs 4 (by decide)).choose_spec.1, lbs⟩
  have Fa := I_a.four.2.2.1
  have Rb := I_b.four.1
  have Fc := I_c.four.2.2.1
  clear I_a
  clear I_b
  clear I_c
  clear san lan sbs lbs
  have hnew := Sl_new (w10.alloc (.cells #[.int .i64 0, .slice i_r 0 i_rc, .slice i_s 0 i_sc, .slice i_f 0 i_fc, .slice i_n 0 i_nc] 26)) [0, 2, 3, 1, 2] 5 rfl (by decide)
  rw [show (w10.alloc (.cells #[.int .i64 0, .slice i_r 0 i_rc, .slice i_s 0 i_sc, .slice i_f 0 i_fc, .slice i_n 0 i_nc] 26)).heap.size = w10.heap.size + 1 by simp] at hnew
  obtain ⟨a0, a1, a2, a3, a4⟩ := five mb_a
  have q_ca0 := ca0.1
  have hh_mb_a := Hid_mkN mb_a
  have hh_mb_b := Hid_mkN mb_b
  have hh_mb_c := Hid_mkN mb_c
  have hh_ca0 := Hid_mkN ca0
  have hh_cb3 := Hid_mkN cb3
  have hh_cb4 := Hid_mkN cb4
  have hh_Fa := Hid_mkN Fa
  have hh_Rb := Hid_mkN Rb
  have hh_Fc := Hid_mkN Fc
  have hh_hB := Hid_mkN hB
  have hh_hnew := Hid_mkN hnew
  clear mb_a mb_b mb_c ca0 cb3 cb4 Fa Rb Fc hB hnew
  go_wp2_with fail
  clear a0 a1 a2 a3 a4 q_ca0
  have mb_a := hh_mb_a.out
  have mb_b := hh_mb_b.out
  have mb_c := hh_mb_c.out
  have ca0 := hh_ca0.out
  have cb3 := hh_cb3.out
  have cb4 := hh_cb4.out
  have Fa := hh_Fa.out
  have Rb := hh_Rb.out
  have Fc := hh_Fc.out
  have hB := hh_hB.out
  have hnew := hh_hnew.out
  clear hh_mb_a hh_mb_b hh_mb_c hh_ca0 hh_cb3 hh_cb4 hh_Fa hh_Rb hh_Fc hh_hB hh_hnew
  replace mb_a := cells_alloc mb_a (.cells #[.int .i64 0, .int .i64 2, .int .i64 3, .int .i64 1, .int .i64 2] 3)
  replace mb_b := cells_alloc mb_b (.cells #[.int .i64 0, .int .i64 2, .int .i64 3, .int .i64 1, .int .i64 2] 3)
  replace mb_c := cells_alloc mb_c (.cells #[.int .i64 0, .int .i64 2, .int .i64 3, .int .i64 1, .int .i64 2] 3)
  have ba : Below (w10.alloc (.cells #[.int .i64 0, .slice i_r 0 i_rc, .slice i_s 0 i_sc, .slice i_f 0 i_fc, .slice i_n 0 i_nc] 26)).heap.size (w10.alloc (.cells #[.int .i64 0, .slice i_r 0 i_rc, .slice i_s 0 i_sc, .slice i_f 0 i_fc, .slice i_n 0 i_nc] 26)) ((w10.alloc (.cells #[.int .i64 0, .slice i_r 0 i_rc, .slice i_s 0 i_sc, .slice i_f 0 i_fc, .slice i_n 0 i_nc] 26)).alloc (.cells #[.int .i64 0, .int .i64 2, .int .i64 3, .int .i64 1, .int .i64 2] 3)) := (Below.refl _ _).alloc (Nat.le_refl _) _
  replace hB := Below.on hB ba
  replace ca0 := ca0.below ba
  replace cb3 := cb3.below ba
  replace cb4 := cb4.below ba
  replace Fa := Fa.below ba
  replace Rb := Rb.below ba
  replace Fc := Fc.below ba
  clear ba
  refine (same_any Fa hnew).mono ?_
  rintro e w11 ⟨rfl, bb⟩
  clear hnew
  replace mb_a := cells_below mb_a bb (Array.getElem?_eq_some_iff.1 mb_a).1
  replace mb_b := cells_below mb_b bb (Array.getElem?_eq_some_iff.1 mb_b).1
  replace mb_c := cells_below mb_c bb (Array.getElem?_eq_some_iff.1 mb_c).1
  replace hB := Below.on hB bb
  replace ca0 := ca0.below bb
  replace cb3 := cb3.below bb
  replace cb4 := cb4.below bb
  replace Fa := Fa.below bb
  replace Rb := Rb.below bb
  replace Fc := Fc.below bb
  clear bb
  clear Fa
  clear mb_a
  clear ca0
  have hnew := Sl_new w11 [2] 1 rfl (by decide)
  obtain ⟨b0, b1, b2, b3, b4⟩ := five mb_b
  have hh_mb_b := Hid_mkN mb_b
  have hh_mb_c := Hid_mkN mb_c
  have hh_cb3 := Hid_mkN cb3
  have hh_cb4 := Hid_mkN cb4
  have hh_Rb := Hid_mkN Rb
  have hh_Fc := Hid_mkN Fc
  have hh_hB := Hid_mkN hB
  have hh_hnew := Hid_mkN hnew
  clear mb_b mb_c cb3 cb4 Rb Fc hB hnew
  go_wp2_with fail
  clear b0 b1 b2 b3 b4
  have mb_b := hh_mb_b.out
  have mb_c := hh_mb_c.out
  have cb3 := hh_cb3.out
  have cb4 := hh_cb4.out
  have Rb := hh_Rb.out
  have Fc := hh_Fc.out
  have hB := hh_hB.out
  have hnew := hh_hnew.out
  clear hh_mb_b hh_mb_c hh_cb3 hh_cb4 hh_Rb hh_Fc hh_hB hh_hnew
  replace mb_b := cells_alloc mb_b (.cells #[.int .i64 2] 3)
  replace mb_c := cells_alloc mb_c (.cells #[.int .i64 2] 3)
  have ba : Below w11.heap.size w11 (w11.alloc (.cells #[.int .i64 2] 3)) := (Below.refl _ _).alloc (Nat.le_refl _) _
  replace hB := Below.on hB ba
  replace cb3 := cb3.below ba
  replace cb4 := cb4.below ba
  replace Rb := Rb.below ba
  replace Fc := Fc.below ba
  clear ba
  refine (same_any Rb hnew).mono ?_
  rintro e w12 ⟨rfl, bb⟩
  clear hnew
  replace mb_b := cells_below mb_b bb (Array.getElem?_eq_some_iff.1 mb_b).1
  replace mb_c := cells_below mb_c bb (Array.getElem?_eq_some_iff.1 mb_c).1
  replace hB := Below.on hB bb
  replace cb3 := cb3.below bb
  replace cb4 := cb4.below bb
  replace Rb := Rb.below bb
  replace Fc := Fc.below bb
  clear bb
  clear Rb
  have hnew := Sl_new w12 [0, 2, 1, 1, 1] 5 rfl (by decide)
  obtain ⟨b0, b1, b2, b3, b4⟩ := five mb_b
  obtain ⟨c0, c1, c2, c3, c4⟩ := five mb_c
  have q_cb3 := cb3.1
  have q_cb4 := cb4.1
  have hh_mb_b := Hid_mkN mb_b
  have hh_mb_c := Hid_mkN mb_c
  have hh_cb3 := Hid_mkN cb3
  have hh_cb4 := Hid_mkN cb4
  have hh_Fc := Hid_mkN Fc
  have hh_hB := Hid_mkN hB
  have hh_hnew := Hid_mkN hnew
  clear mb_b mb_c cb3 cb4 Fc hB hnew
  go_wp2_with fail
  clear b0 b1 b2 b3 b4 c0 c1 c2 c3 c4 q_cb3 q_cb4
  have mb_b := hh_mb_b.out
  have mb_c := hh_mb_c.out
  have cb3 := hh_cb3.out
  have cb4 := hh_cb4.out
  have Fc := hh_Fc.out
  have hB := hh_hB.out
  have hnew := hh_hnew.out
  clear hh_mb_b hh_mb_c hh_cb3 hh_cb4 hh_Fc hh_hB hh_hnew
  replace mb_b := cells_alloc mb_b (.cells #[.int .i64 0, .int .i64 2, .int .i64 1, .int .i64 1, .int .i64 1] 3)
  replace mb_c := cells_alloc mb_c (.cells #[.int .i64 0, .int .i64 2, .int .i64 1, .int .i64 1, .int .i64 1] 3)
  have ba : Below w12.heap.size w12 (w12.alloc (.cells #[.int .i64 0, .int .i64 2, .int .i64 1, .int .i64 1, .int .i64 1] 3)) := (Below.refl _ _).alloc (Nat.le_refl _) _
  replace hB := Below.on hB ba
  replace cb3 := cb3.below ba
  replace cb4 := cb4.below ba
  replace Fc := Fc.below ba
  clear ba
  refine (same_any Fc hnew).mono ?_
  rintro e w13 ⟨rfl, bb⟩
  clear hnew
  replace mb_b := cells_below mb_b bb (Array.getElem?_eq_some_iff.1 mb_b).1
  replace mb_c := cells_below mb_c bb (Array.getElem?_eq_some_iff.1 mb_c).1
  replace hB := Below.on hB bb
  replace cb3 := cb3.below bb
  replace cb4 := cb4.below bb
  replace Fc := Fc.below bb
  clear bb
  clear Fc
  clear cb3
  clear cb4
  clear mb_b
  clear mb_c
  have hh_hB := Hid_mkN hB
  clear hB
  go_wp2_with fail
  go_ret
  have hB := hh_hB.out
  exact ⟨rfl, hB⟩
end Go.Proofs.Ytehleeibgkpjmae
/- Contract of Take: a slot is grabbed and laid, or there is none. -/
namespace Go.Proofs.Ytehleeibgkpjmae
open Go.RowKit Go.Shelf
set_option maxRecDepth 20000

theorem DTo.pre {w w1 w2 : World} {B D : Nat} {m m1 : ImgD} {val val1 : Nm → Value} {ev : Value} (h : DTo w1 w2 B D m val ev m1 val1) (hb : Below w.heap.size w w1) (hB : B ≤ w.heap.size) : DTo w w2 B D m val ev m1 val1 :=
  ⟨h.dk, (hb.mono hB).trans h.bel, fun q hq hD hev hm => (h.keep q (Nat.lt_of_lt_of_le hq hb.size) hD hev hm).trans (hb.block q hq), fun q hq hev hm => h.src q (Nat.lt_of_lt_of_le hq hb.size) hev hm⟩
def layR (l : List Int) (n : Nat) (x : Int) : List Int := if n = l.length then l ++ [x] else l.set n x
theorem layR_length {l : List Int} {n : Nat} {x : Int} : (layR l n x).length = if n = l.length then l.length + 1 else l.length := by
  unfold layR; split <;> simp
def takeD (m : ImgD) (s : SlotD) : ImgD := { m with slots := layS m.slots (grabN m.slots) s, refs := layR m.refs (grabN m.slots) 1 }
theorem grab_is {w : World} {v : Value} {L : List SlotD} (h : Slots w v L) (hE : slotsE L = 0) {g : Nat} (hg : grabN L = g) :
    Calls Try.prog 82 #[v] w fun r w' => r = .returned (.tuple #[.int .i64 (if g = 40 then 0 else (g : Int)), .int .i64 (if g = 40 then 7 else 0)]) ∧ Below w.heap.size w w' := by
  have h1 := (slotsE_parts hE).1
  refine (grab_ok v L w h hE).mono ?_
  rintro e w' ⟨h | ⟨q, hq, hG, rfl⟩, hb⟩
  · have e40 : g = 40 := by rw [← hg]; exact (grabN_at h1).unique h.1
    rw [if_pos e40, if_pos e40]
    exact ⟨h.2, hb⟩
  · have eg : q = g := by rw [← hg]; exact hG.unique (grabN_at h1)
    subst eg
    rw [if_neg (by omega), if_neg (by omega)]
    exact ⟨rfl, hb⟩

set_option maxHeartbeats 4000000 in
theorem take_full (m : ImgD) (sa : Option Addr) (sn sc : Nat) (k : Int) (d : ByteArray) (ea : Option Addr) (en ec : Nat) (B D : Nat) (val : Nm → Value) (w : World) (hK : DK w B D val m) (e1 : val .slots = .slice sa sn sc) (hs : slotsE m.slots = 0) (hg : grabN m.slots = 40) :
    Calls Try.prog 50 #[.pointer (some ⟨D, 0, none⟩), .agg #[.int .i64 k, .string d, .slice ea en ec]] w fun r w' => r = .panicked noSlotP ∧ Below w.heap.size w w' := by
  have hK1 : DK (w.alloc (.cells #[.int .i64 k, .string d, .slice ea en ec] 72)) B D val m := hK.alloc _
  obtain ⟨d0, d1, d2, d3, d4⟩ := hK1.five
  rw [e1] at d2
  have hcall := grab_is hK1.own.img.four.2.1 hs hg
  rw [e1] at hcall
  have b0 : Below w.heap.size w (w.alloc (.cells #[.int .i64 k, .string d, .slice ea en ec] 72)) := (Below.refl _ _).alloc (Nat.le_refl _) _
  clear hg hs
  go_enter Try.func50, Try.ntmps50
  go_wp2_with (go_at_call 82; refine hcall.mono ?_; rintro e w1 ⟨rfl, b1⟩)
  exact ⟨rfl, rfl, Below.on b0 b1⟩

set_option maxHeartbeats 4000000 in
theorem take_old (m : ImgD) (sg sc : Nat) (fg fc : Nat) (k : Int) (d : ByteArray) (ea : Option Addr) (en ec : Nat) (es : List Int) (g : Nat) (B D : Nat) (val : Nm → Value) (w : World) (hK : DK w B D val m) (hB : B ≤ w.heap.size) (e1 : val .slots = .slice (some ⟨sg, 0, none⟩) m.slots.length sc) (e2 : val .refs = .slice (some ⟨fg, 0, none⟩) m.slots.length fc) (hs : slotsE m.slots = 0) (hg : grabN m.slots = g) (hgl : g < m.slots.length) (hrl : m.refs.length = m.slots.length)
    (he : w.ownsRow B 3 1 (.slice ea en ec) es.length (ints es)) (hfar : Far m val (.tab g) (.slice ea en ec)) (hD : (Value.slice ea en ec).ownBlock ≠ some D) :
    Calls Try.prog 50 #[.pointer (some ⟨D, 0, none⟩), .agg #[.int .i64 k, .string d, .slice ea en ec]] w fun r w' => r = .returned (.int .i64 (g : Int)) ∧ ∃ val', DTo w w' B D m val (.slice ea en ec) { m with slots := m.slots.set g (k, d, es), refs := m.refs.set g 1 } val' ∧ val' .root = val .root := by
  have hK1 : DK (w.alloc (.cells #[.int .i64 k, .string d, .slice ea en ec] 72)) B D val m := hK.alloc _
  have h40 := (slotsE_parts hs).2
  obtain ⟨d0, d1, d2, d3, d4⟩ := hK1.five
  rw [e1] at d2
  rw [e2] at d3
  have hcall := grab_is hK1.own.img.four.2.1 hs hg
  rw [e1] at hcall
  have g40 : ¬ g = 40 := by omega
  rw [if_neg g40, if_neg g40] at hcall
  have b0 : Below w.heap.size w (w.alloc (.cells #[.int .i64 k, .string d, .slice ea en ec] 72)) := (Below.refl _ _).alloc (Nat.le_refl _) _
  have mS : (w.alloc (.cells #[.int .i64 k, .string d, .slice ea en ec] 72)).heap[w.heap.size]? = some (.cells #[.int .i64 k, .string d, .slice ea en ec] 72) := World.alloc_heap_new _ _
  have hgi : (g : Int) < (m.slots.length : Int) := by omega
  have hgn : ((g : Int) == (m.slots.length : Int)) = false := by simp; omega
  have hgn' : ¬ (g : Int) = (m.slots.length : Int) := by omega
  clear hg hs
  go_enter Try.func50, Try.ntmps50
  go_wp2_with (go_at_call 82; refine hcall.mono ?_; rintro e w1 ⟨rfl, b1⟩; have hK2 := hK1.below b1; obtain ⟨i0, i1, i2, i3, i4⟩ := hK2.five; rw [e1] at i2; rw [e2] at i3; have mS1 := cells_below mS b1 (by simp); obtain ⟨s0, s1, s2⟩ := three mS1)
  have hgS : sg < w.heap.size ∧ B ≤ sg := by
    have := (hK.own.row .slots (Live.slots m)).lt sg (by rw [e1]; rfl)
    exact ⟨this.2, this.1⟩
  have hgF : fg < w.heap.size ∧ B ≤ fg := by
    have := (hK.own.row .refs (Live.refs m)).lt fg (by rw [e2]; rfl)
    exact ⟨this.2, this.1⟩
  have hDl := hK.lt
  have nDS : ¬ D = sg := fun e => hK.far .slots (Live.slots m) (by rw [e1, e]; rfl)
  have nDF : ¬ D = fg := fun e => hK.far .refs (Live.refs m) (by rw [e2, e]; rfl)
  have nSD : ¬ sg = D := fun e => nDS e.symm
  have nFD : ¬ fg = D := fun e => nDF e.symm
  have nSF : ¬ sg = fg := fun e => hK.own.apart .slots .refs (Live.slots m) (Live.refs m) (by intro x; cases x) sg (by rw [e1]; rfl) (by rw [e2, e]; rfl)
  have nFS : ¬ fg = sg := fun e => nSF e.symm
  have nWS : ¬ w.heap.size = sg := by omega
  have nSW : ¬ sg = w.heap.size := by omega
  have nWF : ¬ w.heap.size = fg := by omega
  have nFW : ¬ fg = w.heap.size := by omega
  have hT1 := (DTo.refl hK1 (.slice ea en ec)).below (by simp; omega) b1
  have hr1 := hT1.dk.own.row .slots (Live.slots m)
  rw [e1] at hr1
  have hr1 : w1.ownsRow B 72 3 (.slice (some ⟨sg, 0, none⟩) m.slots.length sc) m.slots.length (flatS m.slots (fun j => val (.tab j))) := hr1
  obtain ⟨t0, t1, t2⟩ := flatS_get (L := m.slots) (tv := fun j => val (.tab j)) hgl
  have t0 := (hr1.cellAt (g * 3) (by omega)).trans t0
  have t1 := (hr1.cellAt (g * 3 + 1) (by omega)).trans t1
  have t2 := (hr1.cellAt (g * 3 + 2) (by omega)).trans t2
  have u0 := hr1.frozenAt (g * 3)
  have u1 := hr1.frozenAt (g * 3 + 1)
  have u2 := hr1.frozenAt (g * 3 + 2)
  have hr2 := hT1.dk.own.row .refs (Live.refs m)
  rw [e2] at hr2
  have hr2 : w1.ownsRow B 3 1 (.slice (some ⟨fg, 0, none⟩) m.slots.length fc) m.slots.length (ints m.refs) := by rw [← hrl]; rw [← hrl] at hr2; exact hr2
  have t3 : w1.cell? ⟨fg, g, none⟩ = some (.int .i64 (m.refs.getD g 0)) := by
    refine (hr2.cellAt g (by omega)).trans ?_
    unfold ints
    rw [List.getElem?_map, List.getElem?_eq_getElem (by rw [hrl]; exact hgl)]
    simp [List.getD, hrl, hgl]
  have u3 := hr2.frozenAt g
  clear hr1 hr2 hcall hK1 hK2 mS mS1 d0 d1 d2 d3 d4 i0 i1 i4
  go_region_held3 (fun W => W.cell? ⟨D, 0 + 1 + 1, none⟩ = some (.slice (some ⟨sg, 0, none⟩) m.slots.length sc) ∧ W.cell? ⟨D, 0 + 1 + 1 + 1, none⟩ = some (.slice (some ⟨fg, 0, none⟩) m.slots.length fc) ∧ W.cell? ⟨w.heap.size, 0, none⟩ = some (.int .i64 k) ∧ W.cell? ⟨w.heap.size, 0 + 1, none⟩ = some (.string d) ∧ W.cell? ⟨w.heap.size, 0 + 1 + 1, none⟩ = some (.slice ea en ec)) (first | exact ⟨i2, i3, s0, s1, s2⟩ | go_keep) (fail)
  have hev := row_keep (he.alloc (.cells #[.int .i64 k, .string d, .slice ea en ec] 72)) b1
  have hF := (hT1.setSlot hgl e1 k d es hev hfar hD (fun q e => .inl e)).setRefs (g := fg) (n := m.slots.length) (cap := fc) ((upd_other _ _ (by intro x; cases x)).trans e2) g 1
  have HF : Hid (DTo w ((((w1.setCell ⟨sg, g * 3, none⟩ (.int .i64 k)).setCell ⟨sg, g * 3 + 1, none⟩ (.string d)).setCell ⟨sg, g * 3 + 2, none⟩ (.slice ea en ec)).setCell ⟨fg, g, none⟩ (.int .i64 1)).drew B D m val (.slice ea en ec) { m with slots := m.slots.set g (k, d, es), refs := m.refs.set g 1 } (upd val (.tab g) (.slice ea en ec))) := (hF.drew).pre b0 hB
  clear hF hev hT1
  go_wp2_with fail
  go_ret
  exact ⟨rfl, _, HF.out, upd_other _ _ (by intro x; cases x)⟩
end Go.Proofs.Ytehleeibgkpjmae
/- Take: a slot is put behind all. -/
namespace Go.Proofs.Ytehleeibgkpjmae
open Go.RowKit Go.Shelf
set_option maxRecDepth 20000

abbrev z3 : List Value := [.int .i64 0, .string ⟨#[]⟩, .slice none 0 0]
abbrev z1 : List Value := [.int .i64 0]
structure TkI (w1 : World) (B : Nat) (sv0 fv0 : Value) (n : Nat) (xs ys : List Value) (sv fv : Value) (cS cR : Bool) (W : World) : Prop where
  bel : Below B w1 W
  bB : B ≤ w1.heap.size
  s : W.ownsRow B 72 3 sv (if cS then n + 1 else n) (if cS then xs ++ z3 else xs)
  r : W.ownsRow B 3 1 fv (if cR then n + 1 else n) (if cR then ys ++ z1 else ys)
  keep : ∀ q, q < w1.heap.size → sv0.ownBlock ≠ some q → fv0.ownBlock ≠ some q → W.heap[q]? = w1.heap[q]?
  sb : sv.ownBlock = sv0.ownBlock ∨ ∀ g, sv.ownBlock = some g → w1.heap.size ≤ g
  fb : fv.ownBlock = fv0.ownBlock ∨ ∀ g, fv.ownBlock = some g → w1.heap.size ≤ g
  ap : ∀ g, sv.ownBlock = some g → fv.ownBlock ≠ some g
theorem TkI.alloc {w1 : World} {B : Nat} {sv0 fv0 : Value} {n : Nat} {xs ys : List Value} {sv fv : Value} {cS cR : Bool} {W : World} (h : TkI w1 B sv0 fv0 n xs ys sv fv cS cR W) (o : Obj) : TkI w1 B sv0 fv0 n xs ys sv fv cS cR (W.alloc o) :=
  ⟨h.bel.alloc (Nat.le_trans h.bB h.bel.size) o, h.bB, h.s.alloc o, h.r.alloc o, fun q hq h1 h2 => (Below.heap_alloc W o q (Nat.lt_of_lt_of_le hq h.bel.size)).trans (h.keep q hq h1 h2), h.sb, h.fb, h.ap⟩
theorem TkI.drew {w1 : World} {B : Nat} {sv0 fv0 : Value} {n : Nat} {xs ys : List Value} {sv fv : Value} {cS cR : Bool} {W : World} (h : TkI w1 B sv0 fv0 n xs ys sv fv cS cR W) : TkI w1 B sv0 fv0 n xs ys sv fv cS cR W.drew :=
  ⟨h.bel.drew, h.bB, h.s.drew, h.r.drew, h.keep, h.sb, h.fb, h.ap⟩
theorem row_type {W : World} {B n size : Nat} {e : TypeId} {v : Value} {xs : List Value} (h : W.ownsRow B e size v n xs) {q : Nat} {A : Array Value} {t : TypeId} (hq : W.heap[q]? = some (.cells A t)) (ht : t ≠ e) : some q ≠ v.ownBlock := fun x => by
  rcases h.2 with ⟨rfl, _⟩ | ⟨g, cap, cur, rfl, _, hg, _⟩
  · cases x
  · have x : q = g := Option.some.inj x
    subst x
    rw [hg] at hq
    simp only [Option.some.injEq, Obj.cells.injEq] at hq
    exact ht hq.2.1.symm
def Kp (W W' : World) (e : TypeId) : Prop := ∀ (q : Nat) (A : Array Value) (t : TypeId), W.heap[q]? = some (.cells A t) → t ≠ e → W'.heap[q]? = some (.cells A t)
theorem kp_grown {W W' : World} {B n size : Nat} {e : TypeId} {v : Value} {xs : List Value} (h : W.ownsRow B e size v n xs) (hg : W.grownBy W' v.ownBlock) : Kp W W' e := fun q _ _ hq ht =>
  (hg.block q (Array.getElem?_eq_some_iff.1 hq).1 (row_type h hq ht)).trans hq
theorem TkI.appS {w1 : World} {B : Nat} {sv0 fv0 : Value} {n : Nat} {xs ys : List Value} {sv fv v' : Value} {cR : Bool} {W W' : World} (h : TkI w1 B sv0 fv0 n xs ys sv fv false cR W) (hg : W.grownBy W' sv.ownBlock) (hr : W'.ownsRow B 72 3 v' (n + 1) (xs ++ z3)) (hb : v'.ownBlock = sv.ownBlock ∨ v'.ownBlock = some W.heap.size) : TkI w1 B sv0 fv0 n xs ys v' fv true cR W' := by
  have hne : fv.ownBlock = none ∨ fv.ownBlock ≠ sv.ownBlock := by
    cases e : fv.ownBlock with
    | none => exact .inl rfl
    | some g => exact .inr (fun x => h.ap g x.symm e)
  have hlt : ∀ g, fv.ownBlock = some g → g < W.heap.size := fun g e => (h.r.lt g e).2
  refine ⟨h.bel.grown hg (Nat.le_trans h.bB h.bel.size) (fun k e => (h.s.lt k e).1), h.bB, hr, h.r.kept hg hne, fun q hq h1 h2 => ?_, ?_, h.fb, ?_⟩
  · refine (hg.block q (Nat.lt_of_lt_of_le hq h.bel.size) (fun e => ?_)).trans (h.keep q hq h1 h2)
    rcases h.sb with x | x
    · exact h1 (x.symm.trans e.symm)
    · have := x q e.symm; omega
  · rcases hb with x | x
    · rw [x]; exact h.sb
    · refine .inr (fun g e => ?_)
      rw [x] at e
      cases e
      exact h.bel.size
  · intro g e
    rcases hb with x | x
    · exact h.ap g (x.symm.trans e)
    · rw [x] at e
      cases e
      intro y
      have := hlt _ y
      omega
theorem TkI.appR {w1 : World} {B : Nat} {sv0 fv0 : Value} {n : Nat} {xs ys : List Value} {sv fv v' : Value} {cS : Bool} {W W' : World} (h : TkI w1 B sv0 fv0 n xs ys sv fv cS false W) (hg : W.grownBy W' fv.ownBlock) (hr : W'.ownsRow B 3 1 v' (n + 1) (ys ++ z1)) (hb : v'.ownBlock = fv.ownBlock ∨ v'.ownBlock = some W.heap.size) : TkI w1 B sv0 fv0 n xs ys sv v' cS true W' := by
  have hne : sv.ownBlock = none ∨ sv.ownBlock ≠ fv.ownBlock := by
    cases e : sv.ownBlock with
    | none => exact .inl rfl
    | some g => exact .inr (fun x => h.ap g e x.symm)
  have hlt : ∀ g, sv.ownBlock = some g → g < W.heap.size := fun g e => (h.s.lt g e).2
  refine ⟨h.bel.grown hg (Nat.le_trans h.bB h.bel.size) (fun k e => (h.r.lt k e).1), h.bB, h.s.kept hg hne, hr, fun q hq h1 h2 => ?_, h.sb, ?_, ?_⟩
  · refine (hg.block q (Nat.lt_of_lt_of_le hq h.bel.size) (fun e => ?_)).trans (h.keep q hq h1 h2)
    rcases h.fb with x | x
    · exact h2 (x.symm.trans e.symm)
    · have := x q e.symm; omega
  · rcases hb with x | x
    · rw [x]; exact h.fb
    · refine .inr (fun g e => ?_)
      rw [x] at e
      cases e
      exact h.bel.size
  · intro g e y
    rcases hb with x | x
    · exact h.ap g e (x.symm.trans y)
    · rw [x] at y
      cases y
      have := hlt _ e
      omega
theorem TkI.sForm {w1 : World} {B : Nat} {sv0 fv0 : Value} {n : Nat} {xs ys : List Value} {sv fv : Value} {cR : Bool} {W : World} (h : TkI w1 B sv0 fv0 n xs ys sv fv true cR W) : ∃ ao cap, sv = .slice ao (n + 1) cap := row_slice h.s
theorem TkI.rForm {w1 : World} {B : Nat} {sv0 fv0 : Value} {n : Nat} {xs ys : List Value} {sv fv : Value} {cS : Bool} {W : World} (h : TkI w1 B sv0 fv0 n xs ys sv fv cS true W) : ∃ ao cap, fv = .slice ao (n + 1) cap := row_slice h.r
theorem cells_at {W : World} {N : Nat} {l : List Value} {t : TypeId} (h : W.heap[N]? = some (.cells l.toArray t)) : ∀ (j : Nat) (u : Value), l[j]? = some u → W.cell? ((⟨N, 0, none⟩ : Addr).add j) = some u := fun j u hu => by
  rw [addr_add, Nat.zero_add]
  simp [World.cell?, h, hu]
theorem step_tkS {w1 : World} {B : Nat} {sv0 fv0 : Value} {n : Nat} {xs ys : List Value} {sv fv : Value} {cR : Bool} {W : World} {ops : Array Oper} {o : Oper} {a : Act} {K : Act → World → Prop} {Q : Exit → Act → World → Prop} {E : Prop} (hgd : o.guard = none) (s x : Operand) (ho : o.op = .call { callee := .builtin .append, args := #[s, x], argTypes := #[23, 23] })
    (TK : TkI w1 B sv0 fv0 n xs ys sv fv false cR W) (hn : n ≤ 40) {N : Nat} (hs : a.eval s = sv) (hx : a.eval x = .slice (some ⟨N, 0, none⟩) 1 1) (hN : W.heap[N]? = some (.cells #[.int .i64 0, .string ⟨#[]⟩, .slice none 0 0] 72))
    (h : ∀ v' w', Hid (TkI w1 B sv0 fv0 n xs ys v' fv true cR w') → Hid (Kp W w' 72) → K (a.put o.dst v') w') : if Region.wanted o (yielded ops a.tmps) = true then Oper.wp Try.prog o a W K Q else E := by
  have hw : Region.wanted o (yielded ops a.tmps) = true := by simp [Region.wanted, hgd]
  rw [if_pos hw]
  obtain ⟨i0, hi, hz0, hz1, hz2⟩ := info_parts infoSlot
  obtain ⟨v', w', hr, g2, g3, _, g5⟩ := run_append_own_at (P := Try.prog) W B 23 o.type 72 i0 _ 3 48 Try.underlying23 hi hz0 hz1 hz2 rfl (by decide) sv n xs TK.s ⟨N, 0, none⟩ 1 1 z3 rfl (cells_at (l := z3) hN) (by intro u hu; simp at hu; rcases hu with rfl | rfl | rfl <;> rfl) (by unfold maxLen; omega) (by omega) (Nat.le_trans TK.bB TK.bel.size)
  unfold Oper.wp execOp
  simp only [ho, resolve, invoke, builtin, Sem.run_bind, Sem.run_pure, Result.andThen_ok, List.map_toArray, List.map_cons, List.map_nil, hs, hx, hr]
  exact h v' w' (TK.appS g3 g2 g5) (kp_grown TK.s g3)
theorem step_tkR {w1 : World} {B : Nat} {sv0 fv0 : Value} {n : Nat} {xs ys : List Value} {sv fv : Value} {cS : Bool} {W : World} {ops : Array Oper} {o : Oper} {a : Act} {K : Act → World → Prop} {Q : Exit → Act → World → Prop} {E : Prop} (hgd : o.guard = none) (s x : Operand) (ho : o.op = .call { callee := .builtin .append, args := #[s, x], argTypes := #[22, 22] })
    (TK : TkI w1 B sv0 fv0 n xs ys sv fv cS false W) (hn : n ≤ 40) {N : Nat} (hs : a.eval s = fv) (hx : a.eval x = .slice (some ⟨N, 0, none⟩) 1 1) (hN : W.heap[N]? = some (.cells #[.int .i64 0] 3))
    (h : ∀ v' w', Hid (TkI w1 B sv0 fv0 n xs ys sv v' cS true w') → Hid (Kp W w' 3) → K (a.put o.dst v') w') : if Region.wanted o (yielded ops a.tmps) = true then Oper.wp Try.prog o a W K Q else E := by
  have hw : Region.wanted o (yielded ops a.tmps) = true := by simp [Region.wanted, hgd]
  rw [if_pos hw]
  obtain ⟨i0, hi, hz0, hz1, hz2⟩ := info_parts info3
  obtain ⟨v', w', hr, g2, g3, _, g5⟩ := run_append_own_at (P := Try.prog) W B 22 o.type 3 i0 _ 1 8 Try.underlying22 hi hz0 hz1 hz2 rfl (by decide) fv n ys TK.r ⟨N, 0, none⟩ 1 1 z1 rfl (cells_at (l := z1) hN) (by intro u hu; simp at hu; subst hu; rfl) (by unfold maxLen; omega) (by omega) (Nat.le_trans TK.bB TK.bel.size)
  unfold Oper.wp execOp
  simp only [ho, resolve, invoke, builtin, Sem.run_bind, Sem.run_pure, Result.andThen_ok, List.map_toArray, List.map_cons, List.map_nil, hs, hx, hr]
  exact h v' w' (TK.appR g3 g2 g5) (kp_grown TK.r g3)
end Go.Proofs.Ytehleeibgkpjmae
/- Take: both rows have been put one behind, and the desk tells so. -/
namespace Go.Proofs.Ytehleeibgkpjmae
open Go.RowKit Go.Shelf
set_option maxRecDepth 20000

theorem row_blk {W W' : World} {B n size : Nat} {e : TypeId} {v : Value} {xs : List Value} (h : W.ownsRow B e size v n xs) (hb : ∀ g, v.ownBlock = some g → W'.heap[g]? = W.heap[g]?) : W'.ownsRow B e size v n xs := by
  refine ⟨h.1, ?_⟩
  rcases h.2 with hn | ⟨g, cap, cur, hv, hb', hg, rest⟩
  · exact .inl hn
  · exact .inr ⟨g, cap, cur, hv, hb', (hb g (by rw [hv]; rfl)).trans hg, rest⟩
theorem ints_snoc (l : List Int) (x : Int) : ints (l ++ [x]) = ints l ++ [.int .i64 x] := by simp [ints]
theorem DTo.both {w w1 W : World} {B D : Nat} {m : ImgD} {val : Nm → Value} {ev sv fv : Value} (h : DTo w w1 B D m val ev m val) (hr : m.refs.length = m.slots.length) (TK : TkI w1 B (val .slots) (val .refs) m.slots.length (flatS m.slots (fun j => val (.tab j))) (ints m.refs) sv fv true true W) :
    DTo w ((W.setCell ⟨D, 2, none⟩ sv).setCell ⟨D, 3, none⟩ fv) B D m val ev { m with slots := m.slots ++ [(0, ⟨#[]⟩, [])], refs := m.refs ++ [0] } (upd (upd (upd val (.tab m.slots.length) nilV) .slots sv) .refs fv) := by
  have hDw := h.dk.lt
  have hv : ∀ b, b ≠ .slots → b ≠ .refs → b ≠ .tab m.slots.length → upd (upd (upd val (.tab m.slots.length) nilV) .slots sv) .refs fv b = val b := fun b h1 h2 h3 => by rw [upd_other _ _ h2, upd_other _ _ h1, upd_other _ _ h3]
  have hvs : upd (upd (upd val (.tab m.slots.length) nilV) .slots sv) .refs fv .slots = sv := by rw [upd_other _ _ (by intro x; cases x), upd_same]
  have hvf : upd (upd (upd val (.tab m.slots.length) nilV) .slots sv) .refs fv .refs = fv := upd_same _ _ _
  have hvt : upd (upd (upd val (.tab m.slots.length) nilV) .slots sv) .refs fv (.tab m.slots.length) = nilV := by rw [upd_other _ _ (by intro x; cases x), upd_other _ _ (by intro x; cases x), upd_same]
  have hcase : ∀ b, Live { m with slots := m.slots ++ [(0, ⟨#[]⟩, [])], refs := m.refs ++ [0] } b → b = .slots ∨ b = .refs ∨ b = .tab m.slots.length ∨ (Live m b ∧ b ≠ .slots ∧ b ≠ .refs ∧ b ≠ .tab m.slots.length) := fun b hb => by
    rcases hb.cases with rfl | rfl | rfl | rfl | ⟨j, rfl, hj⟩ | ⟨j, rfl, hj⟩
    · exact .inr (.inr (.inr ⟨Live.root m, (by intro x; cases x), (by intro x; cases x), (by intro x; cases x)⟩))
    · exact .inl rfl
    · exact .inr (.inl rfl)
    · exact .inr (.inr (.inr ⟨Live.snaps m, (by intro x; cases x), (by intro x; cases x), (by intro x; cases x)⟩))
    · by_cases e : j = m.slots.length
      · subst e; exact .inr (.inr (.inl rfl))
      · have hj : j < (m.slots ++ [((0 : Int), (⟨#[]⟩ : ByteArray), ([] : List Int))]).length := hj
        rw [List.length_append, List.length_singleton] at hj
        exact .inr (.inr (.inr ⟨Live.tab (by omega), (by intro x; cases x), (by intro x; cases x), (by intro x; injection x with _ x; exact e x)⟩))
    · exact .inr (.inr (.inr ⟨Live.sr hj, (by intro x; cases x), (by intro x; cases x), (by intro x; cases x)⟩))
  have hold : ∀ b, Live m b → b ≠ .slots → b ≠ .refs → ∀ g, (val b).ownBlock = some g → g < w1.heap.size ∧ (val .slots).ownBlock ≠ some g ∧ (val .refs).ownBlock ≠ some g := fun b hb h1 h2 g e =>
    ⟨((h.dk.own.row b hb).lt g e).2, h.dk.own.apart b .slots hb (Live.slots m) h1 g e, h.dk.own.apart b .refs hb (Live.refs m) h2 g e⟩
  have hnotS : ∀ q, q < w1.heap.size → (val .slots).ownBlock ≠ some q → sv.ownBlock ≠ some q := fun q hq hn e => by
    rcases TK.sb with x | x
    · exact hn (x.symm.trans e)
    · have := x q e; omega
  have hnotF : ∀ q, q < w1.heap.size → (val .refs).ownBlock ≠ some q → fv.ownBlock ≠ some q := fun q hq hn e => by
    rcases TK.fb with x | x
    · exact hn (x.symm.trans e)
    · have := x q e; omega
  have hDs := h.dk.far .slots (Live.slots m)
  have hDf := h.dk.far .refs (Live.refs m)
  have hfarD : ∀ b, Live { m with slots := m.slots ++ [(0, ⟨#[]⟩, [])], refs := m.refs ++ [0] } b → (upd (upd (upd val (.tab m.slots.length) nilV) .slots sv) .refs fv b).ownBlock ≠ some D := fun b hb => by
    rcases hcase b hb with rfl | rfl | rfl | ⟨hl, h1, h2, h3⟩
    · rw [hvs]; exact hnotS D hDw hDs
    · rw [hvf]; exact hnotF D hDw hDf
    · rw [hvt]; exact nilV_own _
    · rw [hv b h1 h2 h3]; exact h.dk.far b hl
  have hOW : OI W B (upd (upd (upd val (.tab m.slots.length) nilV) .slots sv) .refs fv) { m with slots := m.slots ++ [(0, ⟨#[]⟩, [])], refs := m.refs ++ [0] } := by
    refine ⟨fun b hb => ?_, fun b c hb hc hne q hq => ?_⟩
    · rcases hcase b hb with rfl | rfl | rfl | ⟨hl, h1, h2, h3⟩
      · rw [hvs]
        have e1 := flatS_snoc m.slots (fun j => val (.tab j)) (fun j => upd (upd (upd val (.tab m.slots.length) nilV) .slots sv) .refs fv (.tab j)) (0, ⟨#[]⟩, []) (fun j hj => hv _ (by intro x; cases x) (by intro x; cases x) (by intro x; injection x with _ x; omega))
        rw [hvt] at e1
        have e2 : rowN { m with slots := m.slots ++ [(0, ⟨#[]⟩, [])], refs := m.refs ++ [0] } .slots = m.slots.length + 1 := by show (m.slots ++ [_]).length = _; simp
        have e1 : rowV { m with slots := m.slots ++ [(0, ⟨#[]⟩, [])], refs := m.refs ++ [0] } (upd (upd (upd val (.tab m.slots.length) nilV) .slots sv) .refs fv) .slots = flatS m.slots (fun j => val (.tab j)) ++ z3 := e1
        rw [e1, e2]
        exact TK.s
      · rw [hvf]
        have e1 : rowV { m with slots := m.slots ++ [(0, ⟨#[]⟩, [])], refs := m.refs ++ [0] } (upd (upd (upd val (.tab m.slots.length) nilV) .slots sv) .refs fv) .refs = ints m.refs ++ z1 := ints_snoc _ _
        have e2 : rowN { m with slots := m.slots ++ [(0, ⟨#[]⟩, [])], refs := m.refs ++ [0] } .refs = m.slots.length + 1 := by show (m.refs ++ [_]).length = _; simp [hr]
        rw [e1, e2]
        exact TK.r
      · rw [hvt]
        have e0 : (m.slots ++ [((0 : Int), (⟨#[]⟩ : ByteArray), ([] : List Int))]).getD m.slots.length default = (0, ⟨#[]⟩, []) := by simp [List.getD]
        have e1 : rowV { m with slots := m.slots ++ [(0, ⟨#[]⟩, [])], refs := m.refs ++ [0] } (upd (upd (upd val (.tab m.slots.length) nilV) .slots sv) .refs fv) (.tab m.slots.length) = [] := by
          show ints ((m.slots ++ [((0 : Int), (⟨#[]⟩ : ByteArray), ([] : List Int))]).getD m.slots.length default).2.2 = _
          rw [e0]; rfl
        have e2 : rowN { m with slots := m.slots ++ [(0, ⟨#[]⟩, [])], refs := m.refs ++ [0] } (.tab m.slots.length) = 0 := by
          show ((m.slots ++ [((0 : Int), (⟨#[]⟩ : ByteArray), ([] : List Int))]).getD m.slots.length default).2.2.length = _
          rw [e0]; rfl
        rw [e1, e2]
        exact World.ownsRow_nil _ _ _ _
      · rw [hv b h1 h2 h3]
        have e1 : rowV { m with slots := m.slots ++ [(0, ⟨#[]⟩, [])], refs := m.refs ++ [0] } (upd (upd (upd val (.tab m.slots.length) nilV) .slots sv) .refs fv) b = rowV m val b ∧ rowN { m with slots := m.slots ++ [(0, ⟨#[]⟩, [])], refs := m.refs ++ [0] } b = rowN m b := by
          rcases hl.cases with rfl | rfl | rfl | rfl | ⟨j, rfl, hj⟩ | ⟨j, rfl, hj⟩
          · exact ⟨rfl, rfl⟩
          · exact absurd rfl h1
          · exact absurd rfl h2
          · refine ⟨?_, rfl⟩
            exact flatN_ext (fun j _ => hv (.sr j) (by intro x; cases x) (by intro x; cases x) (by intro x; cases x))
          · have e : (m.slots ++ [((0 : Int), (⟨#[]⟩ : ByteArray), ([] : List Int))]).getD j default = m.slots.getD j default := by simp [List.getD, List.getElem?_append, hj]
            constructor
            · show ints ((m.slots ++ [((0 : Int), (⟨#[]⟩ : ByteArray), ([] : List Int))]).getD j default).2.2 = _
              rw [e]; rfl
            · show ((m.slots ++ [((0 : Int), (⟨#[]⟩ : ByteArray), ([] : List Int))]).getD j default).2.2.length = _
              rw [e]; rfl
          · exact ⟨rfl, rfl⟩
        rw [e1.1, e1.2]
        exact row_blk (h.dk.own.row b hl) (fun g e => by obtain ⟨x1, x2, x3⟩ := hold b hl h1 h2 g e; exact TK.keep g x1 x2 x3)
    · rcases hcase b hb with rfl | rfl | rfl | ⟨hl, h1, h2, h3⟩
      · rw [hvs] at hq
        rcases hcase c hc with rfl | rfl | rfl | ⟨kl, k1, k2, k3⟩
        · exact absurd rfl hne
        · rw [hvf]; exact TK.ap q hq
        · rw [hvt]; exact nilV_own _
        · rw [hv c k1 k2 k3]
          intro y
          obtain ⟨x1, x2, _⟩ := hold c kl k1 k2 q y
          exact hnotS q x1 x2 hq
      · rw [hvf] at hq
        rcases hcase c hc with rfl | rfl | rfl | ⟨kl, k1, k2, k3⟩
        · rw [hvs]; exact fun y => TK.ap q y hq
        · exact absurd rfl hne
        · rw [hvt]; exact nilV_own _
        · rw [hv c k1 k2 k3]
          intro y
          obtain ⟨x1, _, x3⟩ := hold c kl k1 k2 q y
          exact hnotF q x1 x3 hq
      · rw [hvt] at hq; cases hq
      · rw [hv b h1 h2 h3] at hq
        obtain ⟨x1, x2, x3⟩ := hold b hl h1 h2 q hq
        rcases hcase c hc with rfl | rfl | rfl | ⟨kl, k1, k2, k3⟩
        · rw [hvs]; exact hnotS q x1 x2
        · rw [hvf]; exact hnotF q x1 x3
        · rw [hvt]; exact nilV_own _
        · rw [hv c k1 k2 k3]; exact h.dk.own.apart b c hl kl hne q hq
  have hbox : W.heap[D]? = some (.cells #[.int .i64 m.guest, val .root, val .slots, val .refs, val .snaps] 61) := (TK.keep D hDw hDs hDf).trans h.dk.box
  refine ⟨⟨(hOW.far hfarD).far hfarD, ?_, h.dk.ge, hfarD⟩, ((h.bel.trans TK.bel).setCell h.dk.ge _).setCell h.dk.ge _, fun q hq hqD hev hm => ?_, fun q hq hev hm b hb => ?_⟩
  · rw [hvs, hvf, hv .root (by intro x; cases x) (by intro x; cases x) (by intro x; cases x), hv .snaps (by intro x; cases x) (by intro x; cases x) (by intro x; cases x)]
    exact cells_set (cells_set hbox 2 _) 3 _
  · have hq1 : q < w1.heap.size := Nat.lt_of_lt_of_le hq h.bel.size
    have hs := h.src q hq hev hm
    exact (cells_other (cells_other rfl hqD _ _) hqD _ _).trans ((TK.keep q hq1 (hs .slots (Live.slots m)) (hs .refs (Live.refs m))).trans (h.keep q hq hqD hev hm))
  · have hq1 : q < w1.heap.size := Nat.lt_of_lt_of_le hq h.bel.size
    have hs := h.src q hq hev hm
    rcases hcase b hb with rfl | rfl | rfl | ⟨hl, h1, h2, h3⟩
    · rw [hvs]; exact hnotS q hq1 (hs .slots (Live.slots m))
    · rw [hvf]; exact hnotF q hq1 (hs .refs (Live.refs m))
    · rw [hvt]; exact nilV_own _
    · rw [hv b h1 h2 h3]; exact hs b hl
theorem both_far {w1 W : World} {B : Nat} {m : ImgD} {val : Nm → Value} {ev sv fv : Value} {n : Nat} {xs ys : List Value} {cS cR : Bool} (TK : TkI w1 B (val .slots) (val .refs) n xs ys sv fv cS cR W) (hfar : Far m val (.tab m.slots.length) ev) (hlt : ∀ g, ev.ownBlock = some g → g < w1.heap.size) :
    Far { m with slots := m.slots ++ [(0, ⟨#[]⟩, [])], refs := m.refs ++ [0] } (upd (upd (upd val (.tab m.slots.length) nilV) .slots sv) .refs fv) (.tab m.slots.length) ev := fun b hb hne g hg => by
  have hg1 := hlt g hg
  by_cases h2 : b = .refs
  · subst h2
    rw [upd_same]
    intro e
    rcases TK.fb with x | x
    · exact hfar .refs (Live.refs m) (by intro y; cases y) g hg (x.symm.trans e)
    · have := x g e; omega
  rw [upd_other _ _ h2]
  by_cases h1 : b = .slots
  · subst h1
    rw [upd_same]
    intro e
    rcases TK.sb with x | x
    · exact hfar .slots (Live.slots m) (by intro y; cases y) g hg (x.symm.trans e)
    · have := x g e; omega
  rw [upd_other _ _ h1, upd_other _ _ hne]
  refine hfar b ?_ hne g hg
  rcases hb.cases with rfl | rfl | rfl | rfl | ⟨j, rfl, hj⟩ | ⟨j, rfl, hj⟩
  · exact Live.root m
  · exact absurd rfl h1
  · exact absurd rfl h2
  · exact Live.snaps m
  · have hj : j < (m.slots ++ [((0 : Int), (⟨#[]⟩ : ByteArray), ([] : List Int))]).length := hj
    rw [List.length_append, List.length_singleton] at hj
    refine Live.tab ?_
    rcases Nat.lt_or_ge j m.slots.length with h | h
    · exact h
    · exact absurd (by rw [show j = m.slots.length by omega]) hne
  · exact Live.sr hj
end Go.Proofs.Ytehleeibgkpjmae
/- Take: the walk where a slot is put behind all. -/
namespace Go.Proofs.Ytehleeibgkpjmae
open Go.RowKit Go.Shelf
set_option maxRecDepth 20000

theorem Hid_mk {p : Prop} (h : p) : Hid p := h
theorem root_cell' {W : World} {B g cap : Nat} {l : List Int} (h : W.ownsRow B 3 1 (.slice (some ⟨g, 0, none⟩) l.length cap) l.length (ints l)) {k : Nat} (hk : k < l.length) : W.cell? ⟨g, k, none⟩ = some (.int .i64 (l.getD k 0)) := by
  refine (h.cellAt k (by omega)).trans ?_
  unfold ints
  rw [List.getElem?_map, List.getElem?_eq_getElem hk]
  simp [List.getD, hk]
theorem hn_a (W : World) (A : Array Value) (t : TypeId) : (W.alloc (.cells A t)).heap[W.heap.size]? = some (.cells A t) := World.alloc_heap_new _ _
theorem hn_b (W : World) (A : Array Value) (t : TypeId) (o : Obj) : ((W.alloc (.cells A t)).alloc o).heap[W.heap.size]? = some (.cells A t) := cells_alloc (World.alloc_heap_new _ _) _
theorem hn_c (W : World) (A : Array Value) (t : TypeId) (o : Obj) : ((W.alloc o).alloc (.cells A t)).heap[W.heap.size + 1]? = some (.cells A t) := by have := World.alloc_heap_new (W.alloc o) (.cells A t); simpa using this
def TkR (w1 : World) (B D : Nat) (sv0 fv0 : Value) (m : ImgD) (val : Nm → Value) (wx : World) : Prop := ∃ (pa : Option Addr) (pc : Nat) (qa : Option Addr) (qc : Nat) (W : World), TkI w1 B sv0 fv0 m.slots.length (flatS m.slots (fun j => val (.tab j))) (ints m.refs) (.slice pa (m.slots.length + 1) pc) (.slice qa (m.slots.length + 1) qc) true true W ∧ wx = (W.setCell ⟨D, 2, none⟩ (.slice pa (m.slots.length + 1) pc)).setCell ⟨D, 3, none⟩ (.slice qa (m.slots.length + 1) qc)

set_option maxHeartbeats 8000000 in
theorem take_new (m : ImgD) (sg sc : Nat) (fg fc : Nat) (k : Int) (d : ByteArray) (ea : Option Addr) (en ec : Nat) (es : List Int) (B D : Nat) (val : Nm → Value) (w : World) (hK : DK w B D val m) (hB : B ≤ w.heap.size) (e1 : val .slots = .slice (some ⟨sg, 0, none⟩) m.slots.length sc) (e2 : val .refs = .slice (some ⟨fg, 0, none⟩) m.slots.length fc) (hs : slotsE m.slots = 0) (hg : grabN m.slots = m.slots.length) (h40 : m.slots.length < 40) (hrl : m.refs.length = m.slots.length)
    (he : w.ownsRow B 3 1 (.slice ea en ec) es.length (ints es)) (hfar : Far m val (.tab m.slots.length) (.slice ea en ec)) (hD : (Value.slice ea en ec).ownBlock ≠ some D) :
    Calls Try.prog 50 #[.pointer (some ⟨D, 0, none⟩), .agg #[.int .i64 k, .string d, .slice ea en ec]] w fun r w' => r = .returned (.int .i64 (m.slots.length : Int)) ∧ ∃ val', DTo w w' B D m val (.slice ea en ec) { m with slots := m.slots ++ [(k, d, es)], refs := m.refs ++ [1] } val' ∧ val' .root = val .root := by
  have hK1 : DK (w.alloc (.cells #[.int .i64 k, .string d, .slice ea en ec] 72)) B D val m := hK.alloc _
  obtain ⟨d0, d1, d2, d3, d4⟩ := hK1.five
  rw [e1] at d2
  rw [e2] at d3
  have hcall := grab_is hK1.own.img.four.2.1 hs hg
  rw [e1] at hcall
  have g40 : ¬ m.slots.length = 40 := by omega
  rw [if_neg g40, if_neg g40] at hcall
  have b0 : Below w.heap.size w (w.alloc (.cells #[.int .i64 k, .string d, .slice ea en ec] 72)) := (Below.refl _ _).alloc (Nat.le_refl _) _
  have mS : (w.alloc (.cells #[.int .i64 k, .string d, .slice ea en ec] 72)).heap[w.heap.size]? = some (.cells #[.int .i64 k, .string d, .slice ea en ec] 72) := World.alloc_heap_new _ _
  have hDl := hK.lt
  clear hg hs g40
  go_enter Try.func50, Try.ntmps50
  go_upto_region 5 with (go_at_call 82; refine hcall.mono ?_; rintro e w1 ⟨rfl, b1⟩; have hK2 := hK1.below b1; obtain ⟨i0, i1, i2, i3, i4⟩ := hK2.five; rw [e1] at i2; rw [e2] at i3; have mS1 := cells_below mS b1 (by simp); obtain ⟨s0, s1, s2⟩ := three mS1)
  have hz1 : B ≤ w1.heap.size := Nat.le_trans hB (Nat.le_trans b0.size b1.size)
  have hrr := hK2.own.row .refs (Live.refs m)
  have hrs := hK2.own.row .slots (Live.slots m)
  have TK : Hid (TkI w1 B (.slice (some ⟨sg, 0, none⟩) m.slots.length sc) (.slice (some ⟨fg, 0, none⟩) m.slots.length fc) m.slots.length (flatS m.slots (fun j => val (.tab j))) (ints m.refs) (.slice (some ⟨sg, 0, none⟩) m.slots.length sc) (.slice (some ⟨fg, 0, none⟩) m.slots.length fc) false false w1) := by
    refine ⟨Below.refl _ _, hz1, ?_, ?_, fun _ _ _ _ => rfl, .inl rfl, .inl rfl, ?_⟩
    · rw [e1] at hrs; exact hrs
    · rw [e2] at hrr
      have hrr : w1.ownsRow B 3 1 (.slice (some ⟨fg, 0, none⟩) m.slots.length fc) m.refs.length (ints m.refs) := hrr
      rw [hrl] at hrr
      exact hrr
    · intro g e
      have := hK2.own.apart .slots .refs (Live.slots m) (Live.refs m) (by intro x; cases x) g (by rw [e1]; exact e)
      rw [e2] at this
      exact this
  have hn40 : m.slots.length ≤ 40 := by omega
  have hDw : D < w1.heap.size := hK2.lt
  have nDS : (Value.slice (some ⟨sg, 0, none⟩) m.slots.length sc).ownBlock ≠ some D := by have := hK.far .slots (Live.slots m); rw [e1] at this; exact this
  have nDF : (Value.slice (some ⟨fg, 0, none⟩) m.slots.length fc).ownBlock ≠ some D := by have := hK.far .refs (Live.refs m); rw [e2] at this; exact this
  have hbD := hK2.box
  rw [e1, e2] at hbD
  have hDc : ∀ sv fv cS cR W, Hid (TkI w1 B (.slice (some ⟨sg, 0, none⟩) m.slots.length sc) (.slice (some ⟨fg, 0, none⟩) m.slots.length fc) m.slots.length (flatS m.slots (fun j => val (.tab j))) (ints m.refs) sv fv cS cR W) → W.cell? ⟨D, 2, none⟩ = some (.slice (some ⟨sg, 0, none⟩) m.slots.length sc) ∧ W.cell? ⟨D, 3, none⟩ = some (.slice (some ⟨fg, 0, none⟩) m.slots.length fc) ∧ W.frozen? ⟨D, 2, none⟩ = false ∧ W.frozen? ⟨D, 3, none⟩ = false ∧ (W.alloc (.cells #[.int .i64 0] 3)).cell? ⟨D, 2, none⟩ = some (.slice (some ⟨sg, 0, none⟩) m.slots.length sc) ∧ (W.alloc (.cells #[.int .i64 0] 3)).cell? ⟨D, 3, none⟩ = some (.slice (some ⟨fg, 0, none⟩) m.slots.length fc) ∧ (W.alloc (.cells #[.int .i64 0, .string ⟨#[]⟩, .slice none 0 0] 72)).cell? ⟨D, 2, none⟩ = some (.slice (some ⟨sg, 0, none⟩) m.slots.length sc) ∧ (W.alloc (.cells #[.int .i64 0, .string ⟨#[]⟩, .slice none 0 0] 72)).cell? ⟨D, 3, none⟩ = some (.slice (some ⟨fg, 0, none⟩) m.slots.length fc) := fun sv fv cS cR W h => by
    have hb := (h.out.keep D hDw nDS nDF).trans hbD
    exact ⟨(five hb).2.2.1, (five hb).2.2.2.1, cells_frozen hb 2, cells_frozen hb 3, (five (cells_alloc hb _)).2.2.1, (five (cells_alloc hb _)).2.2.2.1, (five (cells_alloc hb _)).2.2.1, (five (cells_alloc hb _)).2.2.2.1⟩
  have v02 : (w1.alloc (.cells #[.int .i64 0, .string ⟨#[]⟩, .slice none 0 0] 72)).cell? ⟨D, 2, none⟩ = some (.slice (some ⟨sg, 0, none⟩) m.slots.length sc) := (five (cells_alloc hbD _)).2.2.1
  have v03 : (w1.alloc (.cells #[.int .i64 0, .string ⟨#[]⟩, .slice none 0 0] 72)).cell? ⟨D, 3, none⟩ = some (.slice (some ⟨fg, 0, none⟩) m.slots.length fc) := (five (cells_alloc hbD _)).2.2.2.1
  have v12 : (w1.alloc (.cells #[.int .i64 0] 3)).cell? ⟨D, 2, none⟩ = some (.slice (some ⟨sg, 0, none⟩) m.slots.length sc) := (five (cells_alloc hbD _)).2.2.1
  have v13 : (w1.alloc (.cells #[.int .i64 0] 3)).cell? ⟨D, 3, none⟩ = some (.slice (some ⟨fg, 0, none⟩) m.slots.length fc) := (five (cells_alloc hbD _)).2.2.2.1
  have v22 : ((w1.alloc (.cells #[.int .i64 0, .string ⟨#[]⟩, .slice none 0 0] 72)).alloc (.cells #[.int .i64 0] 3)).cell? ⟨D, 2, none⟩ = some (.slice (some ⟨sg, 0, none⟩) m.slots.length sc) := (five (cells_alloc (cells_alloc hbD _) _)).2.2.1
  have v23 : ((w1.alloc (.cells #[.int .i64 0, .string ⟨#[]⟩, .slice none 0 0] 72)).alloc (.cells #[.int .i64 0] 3)).cell? ⟨D, 3, none⟩ = some (.slice (some ⟨fg, 0, none⟩) m.slots.length fc) := (five (cells_alloc (cells_alloc hbD _) _)).2.2.2.1
  have v32 : ((w1.alloc (.cells #[.int .i64 0] 3)).alloc (.cells #[.int .i64 0, .string ⟨#[]⟩, .slice none 0 0] 72)).cell? ⟨D, 2, none⟩ = some (.slice (some ⟨sg, 0, none⟩) m.slots.length sc) := (five (cells_alloc (cells_alloc hbD _) _)).2.2.1
  have v33 : ((w1.alloc (.cells #[.int .i64 0] 3)).alloc (.cells #[.int .i64 0, .string ⟨#[]⟩, .slice none 0 0] 72)).cell? ⟨D, 3, none⟩ = some (.slice (some ⟨fg, 0, none⟩) m.slots.length fc) := (five (cells_alloc (cells_alloc hbD _) _)).2.2.2.1
  go_cut [] from 7 (fun wx => TkR w1 B D (.slice (some ⟨sg, 0, none⟩) m.slots.length sc) (.slice (some ⟨fg, 0, none⟩) m.slots.length fc) m val wx)
  case first =>
    go_region_law (first
      | (refine step_tkS (by rfl) _ _ (by rfl) TKr.out hn40 (by rfl) (by rfl) ?hN ?_; (case hN => (first | exact KPr.out _ _ _ (hn_b _ _ _ _) (by decide) | exact KPr.out _ _ _ (hn_c _ _ _ _) (by decide) | exact KPr.out _ _ _ (hn_a _ _ _) (by decide))); intro sv2 w3 TKs KPs; obtain ⟨pa, pc, rfl⟩ := TKs.out.sForm; obtain ⟨x2, x3, x4, x5, x6, x7, x8, x9⟩ := hDc _ _ _ _ _ TKs)
      | (refine step_tkS (by rfl) _ _ (by rfl) (TKr.out.alloc _) hn40 (by rfl) (by rfl) ?hN ?_; (case hN => (exact hn_a _ _ _)); intro sv2 w3 TKs KPs; obtain ⟨pa, pc, rfl⟩ := TKs.out.sForm; obtain ⟨x2, x3, x4, x5, x6, x7, x8, x9⟩ := hDc _ _ _ _ _ TKs)
      | (refine step_tkR (by rfl) _ _ (by rfl) TKs.out hn40 (by rfl) (by rfl) ?hN ?_; (case hN => (first | exact KPs.out _ _ _ (hn_b _ _ _ _) (by decide) | exact KPs.out _ _ _ (hn_c _ _ _ _) (by decide) | exact KPs.out _ _ _ (hn_a _ _ _) (by decide))); intro fv2 w3 TKr KPr; obtain ⟨qa, qc, rfl⟩ := TKr.out.rForm; obtain ⟨x2, x3, x4, x5, x6, x7, x8, x9⟩ := hDc _ _ _ _ _ TKr)
      | (refine step_tkR (by rfl) _ _ (by rfl) (TKs.out.alloc _) hn40 (by rfl) (by rfl) ?hN ?_; (case hN => (exact hn_a _ _ _)); intro fv2 w3 TKr KPr; obtain ⟨qa, qc, rfl⟩ := TKr.out.rForm; obtain ⟨x2, x3, x4, x5, x6, x7, x8, x9⟩ := hDc _ _ _ _ _ TKr)
      | (refine step_tkS (by rfl) _ _ (by rfl) ((TK.out.alloc _).drew) hn40 (by rfl) (by rfl) ?hN ?_; (case hN => (first | exact hn_a _ _ _)); intro sv1 w2 TKs KPs; obtain ⟨pa, pc, rfl⟩ := TKs.out.sForm; obtain ⟨y2, y3, y4, y5, y6, y7, y8, y9⟩ := hDc _ _ _ _ _ TKs)
      | (refine step_tkS (by rfl) _ _ (by rfl) (((TK.out.alloc _).alloc _).drew) hn40 (by rfl) (by rfl) ?hN ?_; (case hN => (first | exact hn_b _ _ _ _ | exact hn_c _ _ _ _)); intro sv1 w2 TKs KPs; obtain ⟨pa, pc, rfl⟩ := TKs.out.sForm; obtain ⟨y2, y3, y4, y5, y6, y7, y8, y9⟩ := hDc _ _ _ _ _ TKs)
      | (refine step_tkR (by rfl) _ _ (by rfl) ((TK.out.alloc _).drew) hn40 (by rfl) (by rfl) ?hN ?_; (case hN => (first | exact hn_a _ _ _)); intro fv1 w2 TKr KPr; obtain ⟨qa, qc, rfl⟩ := TKr.out.rForm; obtain ⟨y2, y3, y4, y5, y6, y7, y8, y9⟩ := hDc _ _ _ _ _ TKr)
      | (refine step_tkR (by rfl) _ _ (by rfl) (((TK.out.alloc _).alloc _).drew) hn40 (by rfl) (by rfl) ?hN ?_; (case hN => (first | exact hn_b _ _ _ _ | exact hn_c _ _ _ _)); intro fv1 w2 TKr KPr; obtain ⟨qa, qc, rfl⟩ := TKr.out.rForm; obtain ⟨y2, y3, y4, y5, y6, y7, y8, y9⟩ := hDc _ _ _ _ _ TKr))
    all_goals
      go_wp2_with fail
      go_meet
      exact ⟨_, _, _, _, w3, (by first | exact TKr.out | exact TKs.out), rfl⟩
  case rest =>
  obtain ⟨pa, pc, qa, qc, W, hTK, hwc⟩ := hcut
  have hT1 := ((DTo.refl hK1 (.slice ea en ec)).below (by simp; omega) b1)
  have hTB := hT1.both hrl (by rw [e1, e2]; exact hTK)
  rw [← hwc] at hTB
  obtain ⟨vn, hvn⟩ : ∃ vn, upd (upd (upd val (.tab m.slots.length) nilV) .slots (.slice pa (m.slots.length + 1) pc)) .refs (.slice qa (m.slots.length + 1) qc) = vn := ⟨_, rfl⟩
  rw [hvn] at hTB
  have n1 : vn .slots = .slice pa (m.slots.length + 1) pc := by rw [← hvn, upd_other _ _ (by intro x; cases x), upd_same]
  have n2 : vn .refs = .slice qa (m.slots.length + 1) qc := by rw [← hvn, upd_same]
  have HR : Hid (vn .root = val .root) := by show _ = _; rw [← hvn, upd_other _ _ (by intro x; cases x), upd_other _ _ (by intro x; cases x), upd_other _ _ (by intro x; cases x)]
  have hsl : (m.slots ++ [((0 : Int), (⟨#[]⟩ : ByteArray), ([] : List Int))]).length = m.slots.length + 1 := by simp
  have hrs := hTB.dk.own.row .slots (Live.slots _)
  rw [n1] at hrs
  have hrs : wc.ownsRow B 72 3 (.slice pa (m.slots.length + 1) pc) (m.slots.length + 1) (flatS (m.slots ++ [(0, ⟨#[]⟩, [])]) (fun j => vn (.tab j))) := by rw [← hsl]; rw [← hsl] at hrs; exact hrs
  have hrr := hTB.dk.own.row .refs (Live.refs _)
  rw [n2] at hrr
  have hrfl : (m.refs ++ [(0 : Int)]).length = m.slots.length + 1 := by simp [hrl]
  have hrr : wc.ownsRow B 3 1 (.slice qa (m.slots.length + 1) qc) (m.slots.length + 1) (ints (m.refs ++ [0])) := by rw [← hrfl]; rw [← hrfl] at hrr; exact hrr
  obtain ⟨pg, pc', ep⟩ := row_some hrs
  simp only [Value.slice.injEq] at ep
  obtain ⟨rfl, _, rfl⟩ := ep
  obtain ⟨qg, qc', eq⟩ := row_some hrr
  simp only [Value.slice.injEq] at eq
  obtain ⟨rfl, _, rfl⟩ := eq
  have mS2 : wc.heap[w.heap.size]? = some (.cells #[.int .i64 k, .string d, .slice ea en ec] 72) := hTB.cells (World.alloc_heap_new _ _) (by omega) (fun e => by have := (he.lt _ e).2; omega) (hK.own.lt (Nat.le_refl _))
  obtain ⟨s0, s1, s2⟩ := three mS2
  obtain ⟨j0, j1, j2, j3, j4⟩ := hTB.dk.five
  rw [n1] at j2
  rw [n2] at j3
  obtain ⟨t0, t1, t2⟩ := flatS_get (L := m.slots ++ [((0 : Int), (⟨#[]⟩ : ByteArray), ([] : List Int))]) (tv := fun j => vn (.tab j)) (j := m.slots.length) (by simp)
  have t0 := (hrs.cellAt (m.slots.length * 3) (by omega)).trans t0
  have t1 := (hrs.cellAt (m.slots.length * 3 + 1) (by omega)).trans t1
  have t2 := (hrs.cellAt (m.slots.length * 3 + 2) (by omega)).trans t2
  have u0 := hrs.frozenAt (m.slots.length * 3)
  have u1 := hrs.frozenAt (m.slots.length * 3 + 1)
  have u2 := hrs.frozenAt (m.slots.length * 3 + 2)
  have t3 : wc.cell? ⟨qg, m.slots.length, none⟩ = some (.int .i64 ((m.refs ++ [0]).getD m.slots.length 0)) := root_cell' (by rw [hrfl]; exact hrr) (by rw [hrfl]; omega)
  have u3 := hrr.frozenAt m.slots.length
  have hli : (m.slots.length : Int) < (m.slots.length : Int) + 1 := by omega
  have nDS : ¬ D = pg := fun e => hTB.dk.far .slots (Live.slots _) (by rw [n1, e]; rfl)
  have nDF : ¬ D = qg := fun e => hTB.dk.far .refs (Live.refs _) (by rw [n2, e]; rfl)
  have nSD : ¬ pg = D := fun e => nDS e.symm
  have nFD : ¬ qg = D := fun e => nDF e.symm
  have nSF : ¬ pg = qg := fun e => hTB.dk.own.apart .slots .refs (Live.slots _) (Live.refs _) (by intro x; cases x) pg (by rw [n1]; rfl) (by rw [n2, e]; rfl)
  have nFS : ¬ qg = pg := fun e => nSF e.symm
  have nWS : ¬ w.heap.size = pg := fun e => hTB.src w.heap.size (by simp) (fun e => by have := (he.lt _ e).2; omega) (hK.own.lt (Nat.le_refl _)) .slots (Live.slots _) (by rw [n1, e]; rfl)
  have nWF : ¬ w.heap.size = qg := fun e => hTB.src w.heap.size (by simp) (fun e => by have := (he.lt _ e).2; omega) (hK.own.lt (Nat.le_refl _)) .refs (Live.refs _) (by rw [n2, e]; rfl)
  have nSW : ¬ pg = w.heap.size := fun e => nWS e.symm
  have nFW : ¬ qg = w.heap.size := fun e => nWF e.symm
  have hlt1 : ∀ g, (Value.slice ea en ec).ownBlock = some g → g < w.heap.size := fun g e => (he.lt g e).2
  have hw01 : w.heap.size ≤ w1.heap.size := Nat.le_trans b0.size b1.size
  have hevc : wc.ownsRow B 3 1 (.slice ea en ec) es.length (ints es) := by
    rw [hwc]
    refine ownsRow_setCell_other (ownsRow_setCell_other (row_blk (row_keep (he.alloc (.cells #[.int .i64 k, .string d, .slice ea en ec] 72)) b1) (fun g e => ?_)) hD _) hD _
    have x1 := hfar .slots (Live.slots m) (by intro y; cases y) g e
    have x2 := hfar .refs (Live.refs m) (by intro y; cases y) g e
    rw [e1] at x1
    rw [e2] at x2
    exact hTK.keep g (by have := hlt1 g e; omega) x1 x2
  have hfarc : Far { m with slots := m.slots ++ [(0, ⟨#[]⟩, [])], refs := m.refs ++ [0] } vn (.tab m.slots.length) (.slice ea en ec) := by
    rw [← hvn]
    have hTK' := hTK
    rw [← e1, ← e2] at hTK'
    exact both_far hTK' hfar (fun g e => by have := hlt1 g e; omega)
  have hF := (hTB.setSlot (t := m.slots.length) (by show _ < (m.slots ++ [_]).length; simp) n1 k d es hevc hfarc hD (fun q e => .inl e)).setRefs (g := qg) (n := m.slots.length + 1) (cap := qc) ((upd_other _ _ (by intro x; cases x)).trans n2) m.slots.length 1
  have em : ({ m with slots := (m.slots ++ [((0 : Int), (⟨#[]⟩ : ByteArray), ([] : List Int))]).set m.slots.length (k, d, es), refs := (m.refs ++ [0]).set m.slots.length 1 } : ImgD) = { m with slots := m.slots ++ [(k, d, es)], refs := m.refs ++ [1] } := by
    have x1 : (m.slots ++ [((0 : Int), (⟨#[]⟩ : ByteArray), ([] : List Int))]).set m.slots.length (k, d, es) = m.slots ++ [(k, d, es)] := by simp
    have x2 : (m.refs ++ [(0 : Int)]).set m.slots.length 1 = m.refs ++ [1] := by rw [← hrl]; simp
    rw [x1, x2]
  have hF := hF.drew
  rw [em] at hF
  have HF := Hid_mk (hF.pre b0 hB)
  clear hF hevc hfarc hT1 hTB hTK hwc hvn hrs hrr TK hK1 hK2 hcall mS mS1 mS2 d0 d1 d2 d3 d4 i0 i1 i2 i3 i4 j0 j1 j4 n1 n2 em hsl hrfl hbD hDc
  go_wp2_with fail
  go_region_held3 (fun W => W.cell? ⟨D, 0 + 1 + 1, none⟩ = some (.slice (some ⟨pg, 0, none⟩) (m.slots.length + 1) pc) ∧ W.cell? ⟨D, 0 + 1 + 1 + 1, none⟩ = some (.slice (some ⟨qg, 0, none⟩) (m.slots.length + 1) qc) ∧ W.cell? ⟨w.heap.size, 0, none⟩ = some (.int .i64 k) ∧ W.cell? ⟨w.heap.size, 0 + 1, none⟩ = some (.string d) ∧ W.cell? ⟨w.heap.size, 0 + 1 + 1, none⟩ = some (.slice ea en ec)) (first | exact ⟨j2, j3, s0, s1, s2⟩ | go_keep) (fail)
  go_wp2_with fail
  go_ret
  exact ⟨rfl, _, HF.out, (upd_other _ _ (by intro x; cases x)).trans HR.out⟩
end Go.Proofs.Ytehleeibgkpjmae
/- Contract of firstEntries: a list of its own, the first n as they were, 0 behind. -/
namespace Go.Proofs.Ytehleeibgkpjmae
open Go.RowKit
set_option maxRecDepth 20000

theorem Try.size3 : (Try.prog.info? 3).map (·.size) = some 1 := by kernel_rfl

theorem splice_row (xs : List Int) (n : Nat) (h4 : xs.length = 4) (hn : n ≤ 4) :
    splice [Value.int .i64 0, Value.int .i64 0, Value.int .i64 0, Value.int .i64 0] 0 ((xs.take n).map (Value.int .i64)) = (cutR xs n).map (Value.int .i64) := by
  match xs, h4 with
  | [a, b, c, d], _ =>
    match n, hn with
    | 0, _ => rfl
    | 1, _ => rfl
    | 2, _ => rfl
    | 3, _ => rfl
    | 4, _ => rfl

theorem set_row (xs : List Int) (n k : Nat) (h4 : xs.length = 4) (hn : n ≤ k) (hk : k < 4) :
    ((cutR xs n).map (Value.int .i64)).toArray.setIfInBounds k (Value.int .i64 0) = ((cutR xs n).map (Value.int .i64)).toArray := by
  match xs, h4 with
  | [a, b, c, d], _ =>
    match k, hk with
    | 0, _ => match n, hn with
      | 0, _ => rfl
    | 1, _ => match n, hn with
      | 0, _ => rfl
      | 1, _ => rfl
    | 2, _ => match n, hn with
      | 0, _ => rfl
      | 1, _ => rfl
      | 2, _ => rfl
    | 3, _ => match n, hn with
      | 0, _ => rfl
      | 1, _ => rfl
      | 2, _ => rfl
      | 3, _ => rfl

theorem cutR_length (xs : List Int) (n : Nat) (h4 : xs.length = 4) (hn : n ≤ 4) : (cutR xs n).length = 4 := by
  unfold cutR; simp; omega

theorem copy_runs (b off cap n : Nat) (xs : List Int) (w : World) (h4 : xs.length = 4) (hn : n ≤ 4) (hb : b < w.heap.size) (hc : ∀ j, j < 4 → w.cell? ⟨b, off + j, none⟩ = some (.int .i64 (xs.getD j 0))) :
    ∃ W2, (Builtin.copy_ #[22, 22] 3 #[.slice (some ⟨w.heap.size, 0, none⟩) 4 4, .slice (some ⟨b, off, none⟩) n cap]).run Try.prog (w.alloc (.cells #[.int .i64 0, .int .i64 0, .int .i64 0, .int .i64 0] 3)) = .ok (.int .i64 n) W2 ∧
      W2.heap[w.heap.size]? = some (.cells ((cutR xs n).map (Value.int .i64)).toArray 3 (0, 0)) ∧ Below w.heap.size w W2 := by
  obtain ⟨X, hX⟩ : ∃ X, X = (xs.take n).map (Value.int .i64) := ⟨_, rfl⟩
  have hXl : X.length = n := by rw [hX]; simp; rw [h4]; omega
  have hsrc : ∀ j v, X[j]? = some v → (w.alloc (.cells #[.int .i64 0, .int .i64 0, .int .i64 0, .int .i64 0] 3)).cell? ((⟨b, off, none⟩ : Addr).add j) = some v := by
    intro j v hj
    have hjn : j < n := by have := (List.getElem?_eq_some_iff.1 hj).1; rw [hXl] at this; exact this
    rw [hX] at hj
    have : v = .int .i64 (xs.getD j 0) := by
      rw [List.getElem?_map, List.getElem?_take, if_pos hjn] at hj
      simp [List.getD, show j < xs.length by omega] at hj ⊢
      exact hj.symm
    rw [this]
    rw [addr_add]
    exact (World.cell?_alloc_past _ _ _ hb).trans (hc j (by omega))
  have hg := heap_alloc_new w (.cells #[.int .i64 0, .int .i64 0, .int .i64 0, .int .i64 0] 3)
  have hrun := run_copy_row (P := Try.prog) _ 22 22 3 3 w.heap.size 0 4 4 ⟨b, off, none⟩ n cap _ 3 X Try.underlying22 Try.size3 hg (by rw [hXl]; exact (Nat.min_eq_left hn).symm) hsrc (by rw [hXl]; simp; omega) (by rw [hX]; exact ints_oneCell _ _)
  refine ⟨_, hrun.trans (by rw [hXl]; rfl), ?_, below_setRow ((Below.refl _ _).alloc (Nat.le_refl _) _) (Nat.le_refl _) _⟩
  rw [setRow_heap _ _ _ _ _ _ hg, hX]
  have := splice_row xs n h4 hn
  unfold splice at this
  rw [← this]
  simp [h4]

set_option maxHeartbeats 400000 in
theorem first_at (b off cap n : Nat) (xs : List Int) (w : World) (h4 : xs.length = 4) (hn : n ≤ 4) (hcap : 4 ≤ cap) (hb : b < w.heap.size) (hc : ∀ j, j < 4 → w.cell? ⟨b, off + j, none⟩ = some (.int .i64 (xs.getD j 0))) :
    Calls Try.prog 104 #[.slice (some ⟨b, off, none⟩) 4 cap, .int .i64 n] w fun r w' => ∃ g cap', r = .returned (.slice (some ⟨g, 0, none⟩) 4 cap') ∧ w'.ownsRow w.heap.size 3 1 (.slice (some ⟨g, 0, none⟩) 4 cap') 4 ((cutR xs n).map (.int .i64)) ∧ Below w.heap.size w w' := by
  obtain ⟨W2, hcp, hg2, hB2⟩ := copy_runs b off cap n xs w h4 hn hb hc
  clear hc
  have HL : Hid ((cutR xs n).length = 4) := cutR_length xs n h4 hn
  have HS : Hid (∀ k, n ≤ k → k < 4 → ((cutR xs n).map (Value.int .i64)).toArray.setIfInBounds k (Value.int .i64 0) = ((cutR xs n).map (Value.int .i64)).toArray) := fun k h1 h2 => set_row xs n k h4 h1 h2
  obtain ⟨R, hR⟩ : ∃ R, R = (cutR xs n).map (Value.int .i64) := ⟨_, rfl⟩
  rw [← hR] at hg2 HS ⊢
  have HR : Hid (R = (cutR xs n).map (Value.int .i64)) := hR
  have HG2 : Hid (W2.heap[w.heap.size]? = some (.cells R.toArray 3 (0, 0))) := hg2
  clear hR hg2 h4
  have hmk : ∀ w, (Instr.makeSlice 22 (.int .i64 4) (.int .i64 4)).run Try.prog w = .ok (.slice (some ⟨w.heap.size, 0, none⟩) 4 4) (w.alloc (.cells #[.int .i64 0, .int .i64 0, .int .i64 0, .int .i64 0] 3)) := fun _ => by kernel_rfl
  have hn' : (n : Int) ≤ 4 := by omega
  go_enter Try.func104, Try.ntmps104
  go_wp2
  clear hcp
  go_loopw [6] (fun i wr => ∃ k : Nat, n ≤ k ∧ k ≤ 4 ∧ i = .int .i64 k ∧ wr.heap[w.heap.size]? = some (.cells R.toArray 3 (0, 0)) ∧ Below w.heap.size w wr) (fun i _ => 4 - (intOf i).toNat)
  case atStart => exact ⟨n, Nat.le_refl _, hn, rfl, HG2.out, hB2⟩
  case round =>
    obtain ⟨k, hk1, hk, rfl, hg, hbel⟩ := hrel
    have HG : Hid (wr.heap[w.heap.size]? = some (.cells R.toArray 3 (0, 0))) := hg
    clear hg
    by_cases hlt : k < 4
    · have hfr : wr.frozen? ⟨w.heap.size, k, none⟩ = false := frozen_of_row _ _ _ _ _ HG.out
      obtain ⟨u, hcl⟩ : ∃ u, wr.cell? ⟨w.heap.size, k, none⟩ = some u := by
        rw [cell_of_row _ _ _ _ _ _ HG.out]
        have : k < R.length := by rw [HR.out]; simp; rw [HL.out]; exact hlt
        exact ⟨R[k], by simp [this]⟩
      go_wp2
      go_roundw
      case rel => exact ⟨k + 1, by omega, by omega, by go_num, by rw [heap_setCell_same _ _ _ _ _ _ HG.out, HS.out k hk1 hlt], hbel.setCell (Nat.le_refl _) _⟩
      case measure => simp [intOf]; omega
    · have e4 : k = 4 := by omega
      subst e4
      go_wp2
      go_ret
      exact ⟨w.heap.size, 4, rfl, ⟨by rw [HR.out]; simp; exact HL.out, .inr ⟨w.heap.size, 4, R.toArray, rfl, Nat.le_refl _, HG.out, Nat.le_refl _, by decide, by simp; rw [HR.out]; simp; exact HL.out, by rw [List.take_of_length_le]; rw [HR.out]; simp; rw [HL.out]; exact Nat.le_refl _⟩⟩, hbel⟩
end Go.Proofs.Ytehleeibgkpjmae
/- Contracts of With and Cut, and of the document's WithOf and CutOf: the same answers, each in a list of its own. -/
namespace Go.Proofs.Ytehleeibgkpjmae
open Go.RowKit
set_option maxRecDepth 20000

theorem first_any (v : Value) (xs : List Int) (n : Int) (w : World) (h : Sl w v xs) (h4 : xs.length = 4) (h0 : 0 ≤ n) (hn : n ≤ 4) :
    Calls Try.prog 104 #[v, .int .i64 n] w fun r w' => ∃ g cap', r = .returned (.slice (some ⟨g, 0, none⟩) 4 cap') ∧ w'.ownsRow w.heap.size 3 1 (.slice (some ⟨g, 0, none⟩) 4 cap') 4 ((cutR xs n.toNat).map (.int .i64)) ∧ Below w.heap.size w w' := by
  obtain ⟨b, off, cap, rfl, hcp, hlt, hcell⟩ := h.four h4
  obtain ⟨n, rfl⟩ := Int.eq_ofNat_of_zero_le h0
  rw [Int.toNat_natCast]
  exact first_at b off cap n xs w h4 (by omega) hcp hlt hcell

theorem cutR_all {xs : List Int} (h4 : xs.length = 4) : cutR xs 4 = xs := by unfold cutR; rw [List.take_of_length_le (by omega)]; simp

end Go.Proofs.Ytehleeibgkpjmae
/- Contracts of what is done on a desk: entries, lay, put. -/
namespace Go.Proofs.Ytehleeibgkpjmae
open Go.RowKit Go.Shelf
set_option maxRecDepth 20000

theorem Hid_mkW {p : Prop} (h : p) : Hid p := h
theorem root_cellW {W : World} {B g cap : Nat} {l : List Int} (h : W.ownsRow B 3 1 (.slice (some ⟨g, 0, none⟩) l.length cap) l.length (ints l)) {k : Nat} (hk : k < l.length) : W.cell? ⟨g, k, none⟩ = some (.int .i64 (l.getD k 0)) := by
  refine (h.cellAt k (by omega)).trans ?_
  unfold ints
  rw [List.getElem?_map, List.getElem?_eq_getElem hk]
  simp [List.getD, hk]
theorem DK.rootAt {W : World} {B D : Nat} {val : Nm → Value} {m : ImgD} (h : DK W B D val m) {r : Nat} (hr : r < m.root.length) : ∃ g cap, val .root = .slice (some ⟨g, 0, none⟩) m.root.length cap ∧ W.cell? ⟨g, r, none⟩ = some (.int .i64 (m.root.getD r 0)) ∧ W.frozen? ⟨g, r, none⟩ = false ∧ B ≤ g ∧ g < W.heap.size ∧ g ≠ D := by
  have hrow := h.own.row .root (Live.root m)
  rcases row_form hrow with ⟨_, hn⟩ | ⟨g, cap, e, hb, hg, _⟩
  · have hn : m.root.length = 0 := hn
    omega
  · have e : val .root = .slice (some ⟨g, 0, none⟩) m.root.length cap := e
    rw [e] at hrow
    exact ⟨g, cap, e, root_cellW hrow hr, hrow.frozenAt r, hb, hg, fun x => h.far .root (Live.root m) (by rw [e, x]; rfl)⟩
theorem DK.refsAt {W : World} {B D : Nat} {val : Nm → Value} {m : ImgD} (h : DK W B D val m) {r : Nat} (hr : r < m.refs.length) : ∃ g cap, val .refs = .slice (some ⟨g, 0, none⟩) m.refs.length cap ∧ W.cell? ⟨g, r, none⟩ = some (.int .i64 (m.refs.getD r 0)) ∧ W.frozen? ⟨g, r, none⟩ = false ∧ B ≤ g ∧ g < W.heap.size ∧ g ≠ D := by
  have hrow := h.own.row .refs (Live.refs m)
  rcases row_form hrow with ⟨_, hn⟩ | ⟨g, cap, e, hb, hg, _⟩
  · have hn : m.refs.length = 0 := hn
    omega
  · have e : val .refs = .slice (some ⟨g, 0, none⟩) m.refs.length cap := e
    rw [e] at hrow
    exact ⟨g, cap, e, root_cellW hrow hr, hrow.frozenAt r, hb, hg, fun x => h.far .refs (Live.refs m) (by rw [e, x]; rfl)⟩
theorem DK.slotAt {W : World} {B D : Nat} {val : Nm → Value} {m : ImgD} (h : DK W B D val m) {t : Nat} (ht : t < m.slots.length) : ∃ g cap, val .slots = .slice (some ⟨g, 0, none⟩) m.slots.length cap ∧ W.cell? ⟨g, t * 3, none⟩ = some (.int .i64 (m.slots.getD t default).1) ∧ W.cell? ⟨g, t * 3 + 1, none⟩ = some (.string (m.slots.getD t default).2.1) ∧ W.cell? ⟨g, t * 3 + 2, none⟩ = some (val (.tab t)) ∧ (∀ i, W.frozen? ⟨g, i, none⟩ = false) ∧ B ≤ g ∧ g < W.heap.size ∧ g ≠ D ∧ Sl W (val (.tab t)) (m.slots.getD t default).2.2 := by
  have hrow := h.own.row .slots (Live.slots m)
  rcases row_form hrow with ⟨_, hn⟩ | ⟨g, cap, e, hb, hg, _⟩
  · have hn : m.slots.length = 0 := hn
    omega
  · have e : val .slots = .slice (some ⟨g, 0, none⟩) m.slots.length cap := e
    rw [e] at hrow
    have hrow : W.ownsRow B 72 3 (.slice (some ⟨g, 0, none⟩) m.slots.length cap) m.slots.length (flatS m.slots (fun j => val (.tab j))) := hrow
    obtain ⟨s0, s1, s2⟩ := flatS_get (L := m.slots) (tv := fun j => val (.tab j)) ht
    exact ⟨g, cap, e, (hrow.cellAt (t * 3) (by omega)).trans s0, (hrow.cellAt (t * 3 + 1) (by omega)).trans s1, (hrow.cellAt (t * 3 + 2) (by omega)).trans s2, fun i => hrow.frozenAt i, hb, hg, fun x => h.far .slots (Live.slots m) (by rw [e, x]; rfl), row_sl (h.own.row (.tab t) (Live.tab ht))⟩
theorem DK.root5 {W : World} {B D : Nat} {val : Nm → Value} {m : ImgD} (h : DK W B D val m) {v : Value} (e : val .root = v) : W.cell? ⟨D, 1, none⟩ = some v := by rw [← e]; exact h.five.2.1
theorem DK.slots5 {W : World} {B D : Nat} {val : Nm → Value} {m : ImgD} (h : DK W B D val m) {v : Value} (e : val .slots = v) : W.cell? ⟨D, 2, none⟩ = some v := by rw [← e]; exact h.five.2.2.1
theorem DK.refs5 {W : World} {B D : Nat} {val : Nm → Value} {m : ImgD} (h : DK W B D val m) {v : Value} (e : val .refs = v) : W.cell? ⟨D, 3, none⟩ = some v := by rw [← e]; exact h.five.2.2.2.1


theorem entries_none {m : ImgD} {B D : Nat} {val : Nm → Value} {w : World} (hK : DK w B D val m) {r : Nat} (hr : r < m.root.length) (h0 : m.root.getD r 0 = 0) :
    Calls Try.prog 80 #[.pointer (some ⟨D, 0, none⟩), .int .i64 (r : Int)] w fun e w' => ∃ v, e = .returned v ∧ Sl w' v [0, 0, 0, 0] ∧ Below w.heap.size w w' := by
  obtain ⟨g, cap, e, c, _⟩ := hK.rootAt hr
  rw [h0] at c
  have d1 := hK.root5 e
  have hri : (r : Int) < (m.root.length : Int) := by omega
  have hmk : ∀ w, (Instr.makeSlice 22 (.int .i64 4) (.int .i64 4)).run Try.prog w = .ok (.slice (some ⟨w.heap.size, 0, none⟩) 4 4) (w.alloc (.cells #[.int .i64 0, .int .i64 0, .int .i64 0, .int .i64 0] 3)) := fun _ => by kernel_rfl
  clear h0 e
  go_enter Try.func80, Try.ntmps80
  go_wp2_with fail
  go_ret
  exact ⟨_, rfl, Sl_new4 w _ rfl 0 0 0 0, (Below.refl _ _).alloc (Nat.le_refl _) _⟩
theorem entries_some {m : ImgD} {B D : Nat} {val : Nm → Value} {w : World} (hK : DK w B D val m) {r t : Nat} (hr : r < m.root.length) (ht : m.root.getD r 0 = (t : Int)) (h1 : 1 ≤ t) (htl : t < m.slots.length) :
    Calls Try.prog 80 #[.pointer (some ⟨D, 0, none⟩), .int .i64 (r : Int)] w fun e w' => ∃ v, e = .returned v ∧ Sl w' v (m.slots.getD t default).2.2 ∧ Below w.heap.size w w' := by
  obtain ⟨g, cap, e, c, _⟩ := hK.rootAt hr
  rw [ht] at c
  have d1 := hK.root5 e
  obtain ⟨sg, sc, e2, s0, s1, s2, _, _, _, _, hSl⟩ := hK.slotAt htl
  have d2 := hK.slots5 e2
  obtain ⟨xs, hxs⟩ : ∃ xs, (m.slots.getD t default).2.2 = xs := ⟨_, rfl⟩
  rw [hxs] at hSl ⊢
  obtain ⟨ta, tc, hv⟩ := hSl.form
  rw [hv] at s2 hSl
  have hri : (r : Int) < (m.root.length : Int) := by omega
  have hti : (t : Int) < (m.slots.length : Int) := by omega
  have htb : ((t : Int) != 0) = true := by simp; omega
  have htb' : ¬ (t : Int) = 0 := by omega
  have HS : Hid (Sl w (.slice ta xs.length tc) xs) := hSl
  clear ht e e2 hv s0 s1 hSl hxs
  go_enter Try.func80, Try.ntmps80
  go_wp2_with fail
  go_ret
  exact ⟨_, rfl, HS.out, Below.refl _ _⟩
theorem entries_is {m : ImgD} {B D : Nat} {val : Nm → Value} {w : World} (hK : DK w B D val m) {r t : Nat} (hr : r < m.root.length) (ht : m.root.getD r 0 = (t : Int)) (htl : t < m.slots.length) :
    Calls Try.prog 80 #[.pointer (some ⟨D, 0, none⟩), .int .i64 (r : Int)] w fun e w' => ∃ v, e = .returned v ∧ Sl w' v (tableO m r) ∧ Below w.heap.size w w' := by
  unfold tableO
  rw [ht]
  by_cases h0 : t = 0
  · subst h0
    rw [if_pos (show ((0 : Nat) : Int) = 0 from rfl)]
    exact entries_none hK hr ht
  · rw [if_neg (by omega)]
    have e : tabOf m.slots (t : Int) = (m.slots.getD t default).2.2 := by unfold tabOf; rw [Int.toNat_natCast]
    rw [e]
    exact entries_some hK hr ht (by omega) htl


set_option maxHeartbeats 400000 in
theorem with_own (v : Value) (xs : List Int) (k : Nat) (e : Int) (w : World) (h : Sl w v xs) (h0 : ckE xs = 0) (hk4' : k < 4) (hE : isE e = true) : Calls Try.prog 79 #[v, .int .i64 k, .int .i64 e] w fun r w' => ∃ v', r = .returned (.tuple #[v', .int .i64 0]) ∧ w'.ownsRow w.heap.size 3 1 v' (xs.set k e).length (ints (xs.set k e)) ∧ Below w.heap.size w w' := by
  have H4 : Hid (xs.length = 4) := ckE_len h0
  have hk4 : (k : Int) < 4 := by omega
  have hk0 : ¬ (k : Int) < 0 := by omega
  go_enter Try.func79, Try.ntmps79
  go_wp2_with (first | (go_at_call 102; refine (check_any _ xs _ h).mono ?_; rintro e w' ⟨rfl, rfl⟩) | (go_at_call 103; refine (isEntry_any _ _).mono ?_; rintro e w' ⟨rfl, rfl⟩) | (go_at_call 104; refine (first_any _ xs _ _ h H4.out (by omega) (by omega)).mono ?_; rintro e w1 ⟨g, cap', rfl, hown, hbel⟩; obtain ⟨u, hcl⟩ := own_cell hown k (by omega); have hfr := hown.frozenAt k; have HO : Hid (w1.ownsRow _ 3 1 (.slice (some ⟨g, 0, none⟩) 4 cap') 4 ((cutR xs (Int.toNat 4)).map (.int .i64))) := hown; clear hown))
  go_ret2
  have hx := cutR_all H4.out
  have hO := own_put HO.out k e
  rw [show cutR xs (Int.toNat 4) = xs from hx] at hO
  have hl : (xs.set k e).length = 4 := by rw [List.length_set]; exact H4.out
  rw [hl]
  exact ⟨_, rfl, hO, hbel.setCell (own_ge HO.out) _⟩

end Go.Proofs.Ytehleeibgkpjmae
/- Contracts of what is done on a desk: lay, put. -/
namespace Go.Proofs.Ytehleeibgkpjmae
open Go.RowKit Go.Shelf
set_option maxRecDepth 20000

def layP (m : ImgD) (r : Nat) (es : List Int) : Option ImgD :=
  if bareL es = true then some { m with root := m.root.set r 0 } else if inPl m r = true then some { m with slots := m.slots.set (m.root.getD r 0).toNat (2, ⟨#[]⟩, es) }
  else if grabN m.slots = 40 then none else some { takeD m (2, ⟨#[]⟩, es) with root := m.root.set r (grabN m.slots : Int) }
def Tells (w : World) (B D : Nat) (m : ImgD) (val : Nm → Value) (ev : Value) (o : Option ImgD) (r : Ending) (w' : World) : Prop :=
  match o with
  | some m' => r = .returned (.tuple #[]) ∧ ∃ val', DTo w w' B D m val ev m' val'
  | none => r = .panicked noSlotP ∧ Below B w w'
theorem bareE_eq {es : List Int} (h : ckE es = 0) : bareE es = bareL es := by unfold bareE; rw [if_pos h]

set_option maxHeartbeats 2000000 in
theorem wlay_bare (m : ImgD) (ea : Option Addr) (ec : Nat) (es : List Int) (r B D : Nat) (val : Nm → Value) (w : World) (hK : DK w B D val m) (hr : r < m.root.length) (he : Sl w (.slice ea es.length ec) es) (hck : ckE es = 0) (hb : bareL es = true) :
    Calls Try.prog 81 #[.pointer (some ⟨D, 0, none⟩), .int .i64 (r : Int), .slice ea es.length ec] w fun e w' => e = .returned (.tuple #[]) ∧ ∃ val', DTo w w' B D m val (.slice ea es.length ec) { m with root := m.root.set r 0 } val' := by
  obtain ⟨g, cap, e, c, f, _⟩ := hK.rootAt hr
  have d1 := hK.root5 e
  have hri : (r : Int) < (m.root.length : Int) := by omega
  have hcall := bare_is he ((bareE_eq hck).trans hb) hck
  have HF : Hid (DTo w (w.setCell ⟨g, r, none⟩ (.int .i64 0)) B D m val (.slice ea es.length ec) { m with root := m.root.set r 0 } val) := (DTo.refl hK _).setRoot e r 0
  clear he hck hb e hK
  go_enter Try.func81, Try.ntmps81
  go_wp2_with (go_at_call 97; refine hcall.mono ?_; rintro e w' ⟨rfl, hw⟩; rw [hw]; clear hw)
  refine bodyPost_ret (results_none rfl _ _ _) rfl ?_
  exact ⟨rfl, val, HF.out⟩

set_option maxHeartbeats 2000000 in
theorem wlay_place (m : ImgD) (ea : Option Addr) (ec : Nat) (es : List Int) (r t B D : Nat) (val : Nm → Value) (w : World) (hK : DK w B D val m) (hB : B ≤ w.heap.size) (hr : r < m.root.length) (ht : m.root.getD r 0 = (t : Int)) (h1 : 1 ≤ t) (htl : t < m.slots.length) (hrl : m.refs.length = m.slots.length) (hrf : m.refs.getD t 0 = 1) (he : w.ownsRow B 3 1 (.slice ea es.length ec) es.length (ints es)) (hfar : ∀ a, Live m a → ∀ q, (Value.slice ea es.length ec).ownBlock = some q → (val a).ownBlock ≠ some q) (hD : (Value.slice ea es.length ec).ownBlock ≠ some D) (hck : ckE es = 0) (hb : bareL es = false) :
    Calls Try.prog 81 #[.pointer (some ⟨D, 0, none⟩), .int .i64 (r : Int), .slice ea es.length ec] w fun e w' => e = .returned (.tuple #[]) ∧ ∃ val', DTo w w' B D m val (.slice ea es.length ec) { m with slots := m.slots.set t (2, ⟨#[]⟩, es) } val' := by
  have hK1 : DK (w.alloc (.cells #[.int .i64 2, .string ⟨#[]⟩, .slice ea es.length ec] 72)) B D val m := hK.alloc _
  obtain ⟨g, cap, e, c, f, _⟩ := hK1.rootAt hr
  rw [ht] at c
  have d1 := hK1.root5 e
  obtain ⟨fg, fc, e2, c2, _⟩ := hK1.refsAt (r := t) (by omega)
  rw [hrf] at c2
  rw [hrl] at e2
  have d3 := hK1.refs5 e2
  obtain ⟨sg, sc, e3, s0, s1, s2, sf, hsB, hsl, hsD, _⟩ := hK1.slotAt htl
  have d2 := hK1.slots5 e3
  have f0 := sf (t * 3)
  have f1 := sf (t * 3 + 1)
  have f2 := sf (t * 3 + 2)
  have hsw : sg < w.heap.size := by
    have := (hK.own.row .slots (Live.slots m)).lt sg (by rw [e3]; rfl)
    exact this.2
  have hri : (r : Int) < (m.root.length : Int) := by omega
  have hti : (t : Int) < (m.slots.length : Int) := by omega
  have htb : ((t : Int) != 0) = true := by simp; omega
  have htb' : ¬ (t : Int) = 0 := by omega
  have mS : (w.alloc (.cells #[.int .i64 2, .string ⟨#[]⟩, .slice ea es.length ec] 72)).heap[w.heap.size]? = some (.cells #[.int .i64 2, .string ⟨#[]⟩, .slice ea es.length ec] 72) := World.alloc_heap_new _ _
  obtain ⟨y0, y1, y2⟩ := three mS
  have hcall := bare_is (row_sl he) ((bareE_eq hck).trans hb) hck
  have nWS : ¬ w.heap.size = sg := by omega
  have nSW : ¬ sg = w.heap.size := by omega
  have nDS : ¬ D = sg := fun x => hsD x.symm
  have nSD : ¬ sg = D := hsD
  have HF := Hid_mkW ((((DTo.refl hK (.slice ea es.length ec)).setSlot htl e3 2 ⟨#[]⟩ es he (fun b hb _ q hq => hfar b hb q hq) hD (fun q x => .inl x)).alloc hB (.cells #[.int .i64 2, .string ⟨#[]⟩, .slice ea es.length ec] 72)).drew)
  obtain ⟨sg', sc', e3', s0', s1', s2', sf', _⟩ := hK.slotAt htl
  rw [e3] at e3'
  simp only [Value.slice.injEq, Option.some.injEq, Addr.mk.injEq, and_true, true_and] at e3'
  obtain ⟨rfl, rfl⟩ := e3'
  have hz3 : (((w.setCell ⟨sg, t * 3, none⟩ (.int .i64 2)).setCell ⟨sg, t * 3 + 1, none⟩ (.string ⟨#[]⟩)).setCell ⟨sg, t * 3 + 2, none⟩ (.slice ea es.length ec)).heap.size = w.heap.size := by simp [World.setCell]
  have hbD := cells_alloc (cells_other (cells_other (cells_other hK.box nDS (t * 3) (.int .i64 2)) nDS (t * 3 + 1) (.string ⟨#[]⟩)) nDS (t * 3 + 2) (.slice ea es.length ec)) (.cells #[.int .i64 2, .string ⟨#[]⟩, .slice ea es.length ec] 72)
  have k2 := (five hbD).2.2.1
  rw [e3] at k2
  have hbS := World.alloc_heap_new (((w.setCell ⟨sg, t * 3, none⟩ (.int .i64 2)).setCell ⟨sg, t * 3 + 1, none⟩ (.string ⟨#[]⟩)).setCell ⟨sg, t * 3 + 2, none⟩ (.slice ea es.length ec)) (.cells #[.int .i64 2, .string ⟨#[]⟩, .slice ea es.length ec] 72)
  rw [hz3] at hbS
  obtain ⟨k3, k4, k5⟩ := three hbS
  have KK := Hid_mkW (And.intro k2 (And.intro k3 (And.intro k4 k5)))
  clear k2 k3 k4 k5 hbD hbS hz3
  have f0' := sf' (t * 3)
  have f1' := sf' (t * 3 + 1)
  have f2' := sf' (t * 3 + 2)
  clear he hck hb e e2 e3 hK hK1 ht hrf hfar mS sf sf' hsB hsl hsD
  go_enter Try.func81, Try.ntmps81
  go_wp2_with (go_at_call 97; refine hcall.mono ?_; rintro e w' ⟨rfl, hw⟩; rw [hw]; clear hw)
  go_region_held3 (fun W => W.cell? ⟨D, 0 + 1 + 1, none⟩ = some (.slice (some ⟨sg, 0, none⟩) m.slots.length sc) ∧ W.cell? ⟨w.heap.size, 0, none⟩ = some (.int .i64 2) ∧ W.cell? ⟨w.heap.size, 0 + 1, none⟩ = some (.string ⟨#[]⟩) ∧ W.cell? ⟨w.heap.size, 0 + 1 + 1, none⟩ = some (.slice ea es.length ec)) (first | exact ⟨d2, y0, y1, y2⟩ | exact KK.out) (fail)
  go_wp2_with fail
  refine bodyPost_ret (results_none rfl _ _ _) rfl ?_
  exact ⟨rfl, _, HF.out⟩
end Go.Proofs.Ytehleeibgkpjmae
