/- Texts joined: RoA, RoB, RoC, RoD. -/
import Derived.Test.YtehleeibgkpjmacWritesResizesJ1
import Derived.Test.YtehleeibgkpjmacWritesResizesJ13
/- The document's ResizeOf: the calls it leans on (CutOf's row is one's own; SameInts of two lists that differ). -/
namespace Go.Proofs.Ytehleeibgkpjmac
open Go.RowKit Go.Shelf
set_option maxRecDepth 20000
set_option linter.unusedVariables false

set_option maxHeartbeats 400000 in
theorem cutOf_own (v : Value) (xs : List Int) (n : Nat) (w : World) (h : Sl w v xs) (h0 : ckE xs = 0) (hn : n ≤ 4) : Calls Try.prog 69 #[v, .int .i64 n] w fun r w' => ∃ g cap, r = .returned (.tuple #[.slice (some ⟨g, 0, none⟩) 4 cap, .int .i64 0]) ∧ w'.ownsRow w.heap.size 3 1 (.slice (some ⟨g, 0, none⟩) 4 cap) 4 (ints (cutR xs n)) ∧ Below w.heap.size w w' := by
  have H4 : Hid (xs.length = 4) := ckE_len h0
  have hk4 : (n : Int) ≤ 4 := by omega
  have hk0 : 0 ≤ (n : Int) := by omega
  go_enter Try.func69, Try.ntmps69
  go_wp2_with (first | (go_at_call 95; refine (checkOf_any _ xs _ h).mono ?_; rintro e w' ⟨rfl, rfl⟩) | (go_at_call 46; refine (within_any _ _ _ _).mono ?_; rintro e w' ⟨rfl, rfl⟩) | (at_builtin; refine app_law rfl _ _ rfl v xs rfl rfl rfl h H4.out ?_; intro g cap' w1 HO hbel))
  go_loopw [8] (fun i wr => ∃ k : Nat, n ≤ k ∧ k ≤ 4 ∧ i = .int .i64 k ∧ Hid (wr.ownsRow w'.heap.size 3 1 (.slice (some ⟨g, 0, none⟩) 4 cap') 4 ((zeroed xs n k).map (.int .i64))) ∧ Below w'.heap.size w' wr) (fun i _ => 4 - (intOf i).toNat)
  case atStart => exact ⟨n, Nat.le_refl _, hn, rfl, by rw [zeroed_start]; exact HO, hbel⟩
  case round =>
    obtain ⟨k, hk1, hk, rfl, HG, hb⟩ := hrel
    by_cases hlt : k < 4
    · have hfr := HG.out.frozenAt k
      obtain ⟨u, hcl⟩ := own_cell HG.out k (by omega)
      go_wp2
      go_roundw
      case rel => exact ⟨k + 1, by omega, by omega, by go_num, by rw [← zeroed_step xs n k H4.out hk1 hlt]; exact own_put HG.out k 0, hb.setCell (own_ge HG.out) _⟩
      case measure => simp [intOf]; omega
    · have e4 : k = 4 := by omega
      subst e4
      go_wp2
      go_ret2
      have hO := HG.out
      rw [zeroed_end xs n H4.out] at hO
      exact ⟨g, cap', rfl, hO, hb⟩

theorem same_no (ao bo : Option Addr) (n cap cap' : Nat) (xs ys : List Int) (w : World) (hn : xs.length = n) (hn' : ys.length = n) (hm : n ≤ 9223372036854775807) (hne : xs ≠ ys)
    (hc : ∀ j, j < n → ∃ b off, ao = some ⟨b, off, none⟩ ∧ b < w.heap.size ∧ w.cell? ⟨b, off + j, none⟩ = some (.int .i64 (xs.getD j 0)))
    (hd : ∀ j, j < n → ∃ b off, bo = some ⟨b, off, none⟩ ∧ b < w.heap.size ∧ w.cell? ⟨b, off + j, none⟩ = some (.int .i64 (ys.getD j 0))) :
    Calls Try.prog 39 #[.slice ao n cap, .slice bo n cap'] w fun r w' => r = .returned (.bool false) ∧ Below w.heap.size w w' := by
  have HC : Hid (∀ j, j < n → ∃ b off, ao = some ⟨b, off, none⟩ ∧ b < w.heap.size ∧ w.cell? ⟨b, off + j, none⟩ = some (.int .i64 (xs.getD j 0))) := hc
  have HD : Hid (∀ j, j < n → ∃ b off, bo = some ⟨b, off, none⟩ ∧ b < w.heap.size ∧ w.cell? ⟨b, off + j, none⟩ = some (.int .i64 (ys.getD j 0))) := hd
  clear hc hd
  have HN : Hid (¬ ∀ j, j < n → xs.getD j 0 = ys.getD j 0) := fun h => hne (List.ext_getElem (by omega) (fun j h1 h2 => by have := h j (by omega); rwa [getD_at h1, getD_at h2] at this))
  clear hn hn' hne
  go_enter Try.func39, Try.ntmps39
  go_wp2
  go_loopw [5] (fun i wr => ∃ k : Nat, k ≤ n ∧ i = .int .i64 k ∧ Below w.heap.size w wr ∧ Hid (∀ j, j < k → xs.getD j 0 = ys.getD j 0)) (fun i _ => n - (intOf i).toNat)
  case atStart => exact ⟨0, by omega, rfl, Below.refl _ _, fun j hj => absurd hj (Nat.not_lt_zero _)⟩
  case round =>
    obtain ⟨k, hk, rfl, hbel, HA⟩ := hrel
    by_cases hlt : k < n
    · obtain ⟨x, hx⟩ : ∃ x, xs.getD k 0 = x := ⟨_, rfl⟩
      obtain ⟨y, hy⟩ : ∃ y, ys.getD k 0 = y := ⟨_, rfl⟩
      obtain ⟨b, off, hao, hl1, hck⟩ := HC.out k hlt
      obtain ⟨b', off', hbo, hl2, hck'⟩ := HD.out k hlt
      have HXY : Hid (xs.getD k 0 = x ∧ ys.getD k 0 = y) := ⟨hx, hy⟩
      rw [hx] at hck
      rw [hy] at hck'
      clear hx hy
      have g1 : wr.cell? ⟨b, off + k, none⟩ = some (.int .i64 x) := (hbel.cell (p := ⟨b, off + k, none⟩) hl1).trans hck
      have g2 : wr.cell? ⟨b', off' + k, none⟩ = some (.int .i64 y) := (hbel.cell (p := ⟨b', off' + k, none⟩) hl2).trans hck'
      have i1 : (k : Int) < (n : Int) := by omega
      by_cases hxy : x = y
      · have HA2 : Hid (∀ j, j < k + 1 → xs.getD j 0 = ys.getD j 0) := fun j hj => by
          by_cases e : j = k
          · rw [e, HXY.out.1, HXY.out.2]; exact hxy
          · exact HA.out j (by omega)
        subst hxy
        go_wp2
        go_quiet (fail)
        go_wp2
        go_roundw
        case rel => exact ⟨k + 1, by omega, by go_num, below_drewN hbel _, HA2⟩
        case measure => simp [intOf]; omega
      · have hxyb : (x != y) = true := by simp [hxy]
        clear hxy
        go_wp2
        go_quiet (fail)
        go_wp2
        go_ret
        exact ⟨rfl, below_drewN hbel _⟩
    · exact absurd (fun j hj => HA.out j (by omega)) HN.out
theorem sameInts_no {v u : Value} {xs ys : List Int} {w : World} (h : Sl w v xs) (k : Sl w u ys) (hl : xs.length = ys.length) (hne : xs ≠ ys) :
    Calls Try.prog 39 #[v, u] w fun r w' => r = .returned (.bool false) ∧ Below w.heap.size w w' := by
  obtain ⟨ao, cap, rfl⟩ := h.form
  obtain ⟨bo, cap', rfl⟩ := k.form
  obtain ⟨hn, hm, _, hc⟩ := h.cells
  obtain ⟨_, _, _, hd⟩ := k.cells
  rw [← hl] at hd ⊢
  exact same_no ao bo _ cap cap' xs ys w rfl hl.symm hm hne hc hd
/-! ### A number behind a row of one's own; another Root in the box -/
theorem one_new (W : World) (x : Value) : ∀ (j : Nat) (u : Value), [x][j]? = some u → (W.alloc (.cells #[x] 3)).cell? ((⟨W.heap.size, 0, none⟩ : Addr).add j) = some u := by
  intro j u hj
  rw [addr_add, World.cell?_alloc_at _ _ _ _ rfl]
  match j, hj with
  | 0, hj => simpa using hj
theorem wpList_add1 {W : World} {ops : Array Oper} {rest : List Oper} {o : Oper} {a : Act} {Q : Exit → Act → World → Prop} (hgd : o.guard = none) (s x : Operand)
    (ho : o.op = .call { callee := .builtin .append, args := #[s, x], argTypes := #[22, 22] }) {B n : Nat} {v : Value} {xs : List Int}
    (hs : a.eval s = v) {N : Nat} (hx : a.eval x = .slice (some ⟨N, 0, none⟩) 1 1) (hN : N = W.heap.size) (hown : W.ownsRow B 3 1 v n (ints xs)) (hn : n ≤ 1000) (hB : B ≤ W.heap.size)
    (h : ∀ v' w', Hid (w'.ownsRow B 3 1 v' (n + 1) (ints (xs ++ [0]))) → Hid ((W.alloc (.cells #[.int .i64 0] 3)).grownBy w' v.ownBlock) → Hid (v'.ownBlock = v.ownBlock ∨ v'.ownBlock = some (W.heap.size + 1)) → wpList Try.prog ops Q rest (a.put o.dst v') w') : wpList Try.prog ops Q (o :: rest) a (W.alloc (.cells #[.int .i64 0] 3)) := by
  subst hN
  obtain ⟨i0, hi, hz0, hz1, hz2⟩ := info_parts info3
  refine wpList_plain hgd fun _ hK => ?_
  obtain ⟨v', w', hr, g2, g3, _, g5⟩ := run_append_own_at (P := Try.prog) (W.alloc (.cells #[.int .i64 0] 3)) B 22 o.type 3 i0 (.int .i64 0) 1 8 Try.underlying22 hi hz0 hz1 hz2 rfl (by decide) v n (ints xs) (hown.alloc _) ⟨W.heap.size, 0, none⟩ 1 1 [.int .i64 0] rfl (one_new W _) (by intro u hu; simp at hu; subst hu; rfl) (by unfold maxLen; omega) (by omega) (by simp; omega)
  unfold Oper.wp execOp
  simp only [ho, resolve, invoke, builtin, Sem.run_bind, Sem.run_pure, Result.andThen_ok, List.map_toArray, List.map_cons, List.map_nil, hs, hx, hr]
  have g6 : v'.ownBlock = v.ownBlock ∨ v'.ownBlock = some (W.heap.size + 1) := by simpa using g5
  exact hK _ _ (h v' w' (by have e : ints (xs ++ [0]) = ints xs ++ [.int .i64 0] := by unfold ints; simp
                            rw [e]; exact g2) g3 g6)
theorem OX.blk {W W' : World} {B : Nat} {val : Nm → Value} {m : ImgD} (h : OX W B val m) (hk : ∀ a, LiveX m a → ∀ q, (val a).ownBlock = some q → W'.heap[q]? = W.heap[q]?) : OX W' B val m := ⟨fun a ha => row_blk (h.row a ha) (fun q e => hk a ha q e), h.apart, h.loose⟩
theorem ow_newroot {V X W : World} {D : Nat} {val : Nm → Value} {m : ImgD} (hX : OX X V.heap.size val m) (hbox : X.heap[D]? = some (.cells #[.int .i64 m.guest, val .root, val .slots, val .refs, val .snaps] 26)) (hge : V.heap.size ≤ D) (hfar : ∀ a, LiveX m a → (val a).ownBlock ≠ some D)
    {v : Value} {r : List Int} (hown : W.ownsRow V.heap.size 3 1 v r.length (ints r)) (hblk : ∀ q, q < X.heap.size → (val .root).ownBlock ≠ some q → W.heap[q]? = X.heap[q]?) (hbel : Below V.heap.size V W) (hv : v.ownBlock = (val .root).ownBlock ∨ ∀ q, v.ownBlock = some q → X.heap.size ≤ q) :
    OwR V (W.setCell ⟨D, 1, none⟩ v) D { m with root := r } := by
  have hDl : D < X.heap.size := (Array.getElem?_eq_some_iff.1 hbox).1
  have hlive : ∀ (r' : List Int) a, LiveX { m with root := r' } a → LiveX m a := fun r' a ha => (liveX_iff (m := m) (m' := { m with root := r' }) rfl rfl (fun _ => Iff.rfl) a).1 ha
  have h0 := hX.swapRoot (v := .slice none 0 0) (r := []) (World.ownsRow_nil _ _ _ _) (farX_nil _ _ _ _ _) m.guest
  have h1 : OX W V.heap.size (upd val .root (.slice none 0 0)) { m with guest := m.guest, root := [] } := h0.blk (fun a ha q hq => by
    by_cases ea : a = .root
    · subst ea; rw [upd_same] at hq; cases hq
    · rw [upd_other _ _ ea] at hq
      have ha' := hlive [] a ha
      exact hblk q ((hX.row a ha').lt q hq).2 (fun e => hX.apart .root a (LiveX.root m) ha' (fun x => ea x.symm) q e hq))
  have h2 := h1.swapRoot (v := v) (r := r) hown (fun b hb hne g hg e => by
    rw [upd_other _ _ hne] at e
    have hb' := hlive [] b hb
    rcases hv with x | x
    · exact hX.apart .root b (LiveX.root m) hb' (fun y => hne y.symm) g (x ▸ hg) e
    · have := x g hg; have := ((hX.row b hb').lt g e).2; omega) m.guest
  have hfar2 : ∀ a, LiveX { m with guest := m.guest, root := r } a → (upd (upd val .root (.slice none 0 0)) .root v a).ownBlock ≠ some D := fun a ha e => by
    by_cases ea : a = .root
    · subst ea; rw [upd_same] at e
      rcases hv with x | x
      · exact hfar .root (LiveX.root m) (x ▸ e)
      · have := x D e; omega
    · rw [upd_other _ _ ea, upd_other _ _ ea] at e
      exact hfar a (hlive r a ha) e
  refine ⟨⟨_, h2.far hfar2, ?_, hfar2⟩, hge, hbel.setCell (p := ⟨D, 1, none⟩) hge _⟩
  rw [upd_same, upd_other _ v (a := .root) (b := .slots) (by intro x; cases x), upd_other _ _ (a := .root) (b := .slots) (by intro x; cases x), upd_other _ v (a := .root) (b := .refs) (by intro x; cases x), upd_other _ _ (a := .root) (b := .refs) (by intro x; cases x), upd_other _ v (a := .root) (b := .snaps) (by intro x; cases x), upd_other _ _ (a := .root) (b := .snaps) (by intro x; cases x)]
  exact cells_set ((hblk D hDl (hfar .root (LiveX.root m))).trans hbox) 1 v
theorem row_take {W : World} {B n cap k : Nat} {ao : Option Addr} {xs : List Int} (h : W.ownsRow B 3 1 (.slice ao n cap) n (ints xs)) (hk : k ≤ n) : W.ownsRow B 3 1 (.slice ao k cap) k (ints (xs.take k)) ∧ k ≤ cap := by
  obtain ⟨hl, hf⟩ := h
  have hxl : xs.length = n := by rw [ints_length] at hl; omega
  refine ⟨⟨by rw [ints_length, List.length_take]; omega, ?_⟩, ?_⟩
  · rcases hf with ⟨e, hn⟩ | ⟨g, c, cur, e, h1, h2, h3, h4, h5, h6⟩
    · simp only [Value.slice.injEq] at e
      left
      refine ⟨by rw [e.1, e.2.2]; congr 1; omega, by omega⟩
    · simp only [Value.slice.injEq] at e
      right
      refine ⟨g, c, cur, by rw [e.1, e.2.2], h1, h2, by omega, h4, h5, ?_⟩
      have : ints (xs.take k) = (ints xs).take k := by unfold ints; rw [List.map_take]
      rw [this, ← h6, List.take_take]
      congr 1; omega
  · rcases hf with ⟨e, hn⟩ | ⟨g, c, cur, e, h1, h2, h3, h4, h5, h6⟩
    · omega
    · simp only [Value.slice.injEq] at e
      omega
theorem OwR.drew {V X : World} {D : Nat} {p : ImgD} (h : OwR V X D p) : OwR V X.drew D p := by
  obtain ⟨val, h1, h2, h3⟩ := h.ex
  exact ⟨⟨val, h1.drew, h2, h3⟩, h.ge, to_drew h.bel⟩
theorem reroot_take {r : List Int} {j wn : Nat} (h1 : wn ≤ r.length + j) (h2 : j = 0 ∨ r.length + j ≤ wn) : (r ++ List.replicate j 0).take wn = (r ++ List.replicate (wn - r.length) 0).take wn := by
  rcases h2 with h | h
  · subst h
    rw [show wn - r.length = 0 by omega]
  · rw [show wn - r.length = j by omega]
end Go.Proofs.Ytehleeibgkpjmac
/- Contract of the document's ResizeOf. -/
namespace Go.Proofs.Ytehleeibgkpjmac
open Go.RowKit Go.Shelf
set_option maxRecDepth 20000
set_option linter.unusedVariables false
set_option linter.unusedSimpArgs false

/-- How long the list in the second cell of a box is. -/
def rlenAt (W : World) (D : Nat) : Nat := match W.cell? ⟨D, 1, none⟩ with | some (.slice _ n _) => n | _ => 0
theorem rlenAt_is {W : World} {D n c : Nat} {a : Option Addr} {x0 x2 x3 x4 : Value} {T : TypeId} (h : W.heap[D]? = some (.cells #[x0, .slice a n c, x2, x3, x4] T)) : rlenAt W D = n := by
  unfold rlenAt
  rw [(five h).2.1]
theorem OwR.below {V X X' : World} {D : Nat} {p : ImgD} (h : OwR V X D p) (hb : Below X.heap.size X X') : OwR V X' D p := by
  obtain ⟨val, h1, h2, h3⟩ := h.ex
  exact ⟨⟨val, h1.below hb, cells_below h2 hb (Array.getElem?_eq_some_iff.1 h2).1, h3⟩, h.ge, h.bel.trans (hb.mono h.bel.size)⟩
theorem ow_guest {V X : World} {D : Nat} {val : Nm → Value} {m : ImgD} (hX : OX X V.heap.size val m) (hbel : Below V.heap.size V X) (hbox : X.heap[D]? = some (.cells #[.int .i64 m.guest, val .root, val .slots, val .refs, val .snaps] 26)) (hge : V.heap.size ≤ D) (hfar : ∀ a, LiveX m a → (val a).ownBlock ≠ some D)
    (g : Int) : OwR V (X.setCell ⟨D, 0, none⟩ (.int .i64 g)) D { m with guest := g } := by
  have h1 : OX (X.setCell ⟨D, 0, none⟩ (.int .i64 g)) V.heap.size val m := hX.far hfar
  exact ⟨⟨val, ⟨h1.row, h1.apart, h1.loose⟩, cells_set hbox 0 _, hfar⟩, hge, hbel.setCell (p := ⟨D, 0, none⟩) hge _⟩
set_option maxHeartbeats 16000000 in
theorem ro_skip (ra : Option Addr) (rc : Nat) (sa : Option Addr) (sc : Nat) (fa : Option Addr) (fc : Nat) (na : Option Addr) (nc : Nat) (m : ImgD) (g : Nat) (w : World) (h : Img w (.agg #[.int .i64 m.guest, .slice ra m.root.length rc, .slice sa m.slots.length sc, .slice fa m.refs.length fc, .slice na m.snaps.length nc]) m) (hC : checkE m = 0) (hg : g ≤ 16) (hsk : g % 4 = 0 ∨ m.root.length ≤ g / 4) (MG MR : ImgD) (HMG : Hid ({ m with guest := (g : Int) } = MG ∧ rerootD m g = MR)) (HSh : Hid (shapeE { MR with refs := rfZ MR.slots } = 0)) :
    Calls Try.prog 35 #[.agg #[.int .i64 m.guest, .slice ra m.root.length rc, .slice sa m.slots.length sc, .slice fa m.refs.length fc, .slice na m.snaps.length nc], .int .i64 (g : Int)] w (AnsJ w (countedD MR) 0) := by
  have b0 : Below w.heap.size w ((w.alloc (.cells #[.int .i64 m.guest, .slice ra m.root.length rc, .slice sa m.slots.length sc, .slice fa m.refs.length fc, .slice na m.snaps.length nc] 26)).alloc (.cells #[.int .i64 0, .slice none 0 0, .slice none 0 0, .slice none 0 0, .slice none 0 0] 26)) := ((Below.refl _ _).alloc (Nat.le_refl _) _).alloc (by simp) _
  have m0 : ((w.alloc (.cells #[.int .i64 m.guest, .slice ra m.root.length rc, .slice sa m.slots.length sc, .slice fa m.refs.length fc, .slice na m.snaps.length nc] 26)).alloc (.cells #[.int .i64 0, .slice none 0 0, .slice none 0 0, .slice none 0 0, .slice none 0 0] 26)).heap[w.heap.size]? = some (.cells #[.int .i64 m.guest, .slice ra m.root.length rc, .slice sa m.slots.length sc, .slice fa m.refs.length fc, .slice na m.snaps.length nc] 26) := cells_alloc (World.alloc_heap_new _ _) _
  have m1 : ((w.alloc (.cells #[.int .i64 m.guest, .slice ra m.root.length rc, .slice sa m.slots.length sc, .slice fa m.refs.length fc, .slice na m.snaps.length nc] 26)).alloc (.cells #[.int .i64 0, .slice none 0 0, .slice none 0 0, .slice none 0 0, .slice none 0 0] 26)).heap[w.heap.size + 1]? = some (.cells #[.int .i64 0, .slice none 0 0, .slice none 0 0, .slice none 0 0, .slice none 0 0] 26) := by have := World.alloc_heap_new (w.alloc (.cells #[.int .i64 m.guest, .slice ra m.root.length rc, .slice sa m.slots.length sc, .slice fa m.refs.length fc, .slice na m.snaps.length nc] 26)) (.cells #[.int .i64 0, .slice none 0 0, .slice none 0 0, .slice none 0 0, .slice none 0 0] 26); simpa using this
  have hsz : w.heap.size + 1 < ((w.alloc (.cells #[.int .i64 m.guest, .slice ra m.root.length rc, .slice sa m.slots.length sc, .slice fa m.refs.length fc, .slice na m.snaps.length nc] 26)).alloc (.cells #[.int .i64 0, .slice none 0 0, .slice none 0 0, .slice none 0 0, .slice none 0 0] 26)).heap.size := by simp
  have hs := checkE_shape hC
  have I0 := h.below b0
  have hck := checkImage_is I0 hC
  have hd : decide (0 ≤ (g : Int) ∧ (g : Int) ≤ 16) = true := by simp; omega
  have e4 : ((g / 4 : Nat) : Int) = (g : Int) / 4 := by omega
  have e5 : ((g % 4 : Nat) : Int) = (g : Int) % 4 := by omega
  have hq1 : ((g : Int) / 4).toNat = g / 4 := by omega
  have h0q : ¬ (g : Int) / 4 < 0 := by omega
  have h0a : 0 ≤ (g : Int) / 4 := by omega
  have HOw : Hid (∀ W, Below ((w.alloc (.cells #[.int .i64 m.guest, .slice ra m.root.length rc, .slice sa m.slots.length sc, .slice fa m.refs.length fc, .slice na m.snaps.length nc] 26)).alloc (.cells #[.int .i64 0, .slice none 0 0, .slice none 0 0, .slice none 0 0, .slice none 0 0] 26)).heap.size ((w.alloc (.cells #[.int .i64 m.guest, .slice ra m.root.length rc, .slice sa m.slots.length sc, .slice fa m.refs.length fc, .slice na m.snaps.length nc] 26)).alloc (.cells #[.int .i64 0, .slice none 0 0, .slice none 0 0, .slice none 0 0, .slice none 0 0] 26)) W → Calls Try.prog 60 #[.agg #[.int .i64 m.guest, .slice ra m.root.length rc, .slice sa m.slots.length sc, .slice fa m.refs.length fc, .slice na m.snaps.length nc]] W fun r w' => ∃ val, r = .returned (imgV m.guest val) ∧ OX w' W.heap.size val m ∧ Below W.heap.size W w') := fun W hW => ownImage_is (I0.below hW) hs
  have HI0 : Hid (Img ((w.alloc (.cells #[.int .i64 m.guest, .slice ra m.root.length rc, .slice sa m.slots.length sc, .slice fa m.refs.length fc, .slice na m.snaps.length nc] 26)).alloc (.cells #[.int .i64 0, .slice none 0 0, .slice none 0 0, .slice none 0 0, .slice none 0 0] 26)) (.agg #[.int .i64 m.guest, .slice ra m.root.length rc, .slice sa m.slots.length sc, .slice fa m.refs.length fc, .slice na m.snaps.length nc]) m) := I0
  have HP : Hid (checkE m = 0 ∧ shapeE m = 0 ∧ g ≤ 16) := ⟨hC, hs, hg⟩
  clear h hC hs I0
  go_enter Try.func35, Try.ntmps35
  obtain ⟨c0, c1, c2, c3, c4⟩ := five m0
  go_upto_region 8 with (first
    | (go_at_call 60; refine (HOw.out w1 b1).mono ?_; rintro e3 w3 ⟨val, rfl, hO, b3⟩; obtain ⟨p0, q0, p1, q1, p2, q2, p3, q3, x0, x1, x2, x3⟩ := hO.four'; unfold imgV; rw [x0, x1, x2, x3])
    | (go_at_call 46; refine (within_any _ _ _ _).mono ?_; rintro e2 w' ⟨rfl, hw⟩; rw [hw, hd]; clear hw)
    | (go_at_call 18; refine hck.mono ?_; rintro e1 w1 ⟨rfl, b1⟩; have n0 := cells_below m0 b1 (by omega); obtain ⟨d0, d1, d2, d3, d4⟩ := five n0))
  clear c0 c1 c2 c3 c4
  clear d0 d1 d2 d3 d4
  have hz1 : w.heap.size + 1 < w1.heap.size := Nat.lt_of_lt_of_le hsz b1.size
  have n1 := cells_below m1 b1 hsz
  have bw : Below w.heap.size w w1 := Below.on b0 b1
  have I1 := HI0.out.below b1
  have s3 := b3.size
  have HD0 : Hid (OwR w1 (w3.alloc (.cells #[.int .i64 m.guest, .slice p0 m.root.length q0, .slice p1 m.slots.length q1, .slice p2 m.refs.length q2, .slice p3 m.snaps.length q3] 26)) w3.heap.size m) := ⟨⟨val, hO.alloc _, by rw [x0, x1, x2, x3]; exact World.alloc_heap_new _ _, hO.lt (Nat.le_refl _)⟩, by omega, b3.alloc (by omega) _⟩
  clear hO x0 x1 x2 x3 b0 m0 m1 hck HOw HI0 hsz b1 b3
  have M0 := cells_below n0 HD0.out.bel (by omega)
  obtain ⟨c0, c1, c2, c3, c4⟩ := five M0
  have hDw : w1.heap.size ≤ w3.heap.size := HD0.out.ge
  go_cut [36] from 13 (fun s wx => s = .bool false ∧ Hid (OwR w1 wx w3.heap.size m))
  case first =>
    rcases hsk with hsk | hsk
    · have g1 : ((g : Int) % 4 != 0) = false := by simp; omega
      go_wp2_with fail; go_meet; exact ⟨rfl, HD0⟩
    · by_cases h0 : g % 4 = 0
      · have g1 : ((g : Int) % 4 != 0) = false := by simp; omega
        go_wp2_with fail; go_meet; exact ⟨rfl, HD0⟩
      · have g1 : ((g : Int) % 4 != 0) = true := by simp; omega
        have g2 : decide ((g : Int) / 4 < (m.root.length : Int)) = false := by simp; omega
        go_wp2_with fail; go_meet; exact ⟨rfl, HD0⟩
  case rest =>
  obtain ⟨rfl, HD1⟩ := hcut
  clear HD0 M0 c0 c1 c2 c3 c4
  obtain ⟨wa, hwa⟩ : ∃ X, X = wc := ⟨_, rfl⟩
  subst hwa
  go_upto_region 16 with fail
  go_cut [] from 13 (fun wx => Hid (OwR w1 wx w3.heap.size MG))
  case first =>
    obtain ⟨val, hX, hbox, hfar⟩ := HD1.out.ex
    have hbel := HD1.out.bel
    obtain ⟨p0, q0, p1, q1, p2, q2, p3, q3, x0, x1, x2, x3⟩ := hX.four'
    have hbx := hbox
    rw [x0, x1, x2, x3] at hbx
    obtain ⟨d0, d1, d2, d3, d4⟩ := five hbx
    have ff0 := cells_frozen hbx 0; have ff1 := cells_frozen hbx 1; have ff2 := cells_frozen hbx 2; have ff3 := cells_frozen hbx 3; have ff4 := cells_frozen hbx 4
    go_wp2_with fail
    go_meet
    rw [← HMG.out.1]
    exact ow_guest hX hbel hbox HD1.out.ge hfar (g : Int)
  case rest =>
  have HD5 : Hid (OwR w1 wc w3.heap.size MG) := hcut
  clear hcut
  obtain ⟨wf, hwf⟩ : ∃ X, X = wc := ⟨_, rfl⟩
  subst hwf
  have hw1 : (((g + 3) / 4 : Nat) : Int) = ((g : Int) + 3) / 4 := by omega
  obtain ⟨wn, hwn⟩ : ∃ x : Nat, (g + 3) / 4 = x := ⟨_, rfl⟩
  rw [hwn] at hw1
  have HWn : Hid ((g + 3) / 4 = wn ∧ wn ≤ 4) := ⟨hwn, by have := HP.out.2.2; omega⟩
  have HWa : Hid (∀ W, Calls Try.prog 71 #[.int .i64 (g : Int)] W fun r w' => r = .returned (.int .i64 (wn : Int)) ∧ w' = W) := fun W => by
    have := wants_any (g : Int) W (by have := HP.out.2.2; omega)
    rw [← hw1] at this
    exact this
  clear hwn hw1
  go_wp2_with fail
  go_loopw [] (fun wr => ∃ j : Nat, Hid (OwR w1 wr w3.heap.size { MG with root := MG.root ++ List.replicate j 0 } ∧ (j = 0 ∨ MG.root.length + j ≤ wn))) (fun wr => wn - rlenAt wr w3.heap.size)
  case atStart => exact ⟨0, ⟨by have e : { MG with root := MG.root ++ List.replicate 0 0 } = MG := (by simp); rw [e]; exact HD5.out, .inl rfl⟩⟩
  case round =>
    obtain ⟨j, HR⟩ := hrel
    obtain ⟨X5, hX5⟩ : ∃ X, X = wr := ⟨_, rfl⟩
    subst hX5
    obtain ⟨MJ, hMJ⟩ : ∃ X : ImgD, { MG with root := MG.root ++ List.replicate j 0 } = X := ⟨_, rfl⟩
    have HMJ : Hid (MJ.root = MG.root ++ List.replicate j 0 ∧ { MG with root := MG.root ++ List.replicate j 0 } = MJ ∧ (j = 0 ∨ MG.root.length + j ≤ wn)) := ⟨by rw [← hMJ], hMJ, HR.out.2⟩
    have HO : Hid (OwR w1 X5 w3.heap.size MJ) := by show OwR w1 X5 w3.heap.size MJ; rw [← hMJ]; exact HR.out.1
    clear HR hMJ
    obtain ⟨val, hX, hbox, hfar⟩ := HO.out.ex
    have hbel := HO.out.bel
    obtain ⟨p0, q0, p1, q1, p2, q2, p3, q3, x0, x1, x2, x3⟩ := hX.four'
    have hbx := hbox
    rw [x0, x1, x2, x3] at hbx
    have hrl : rlenAt X5 w3.heap.size = MJ.root.length := rlenAt_is hbx
    by_cases hlt : MJ.root.length < wn
    · have hdl : decide ((MJ.root.length : Int) < (wn : Int)) = true := by simp; omega
      go_upto_region 17 with fail
      refine wp_region_held_drew (S := (fun X : World => X.heap[w3.heap.size]? = some (.cells #[.int .i64 MJ.guest, .slice p0 MJ.root.length q0, .slice p1 MJ.slots.length q1, .slice p2 MJ.refs.length q2, .slice p3 MJ.snaps.length q3] 26))) (by kernel_rfl) hbx (fun hHeld => ?_)
      refine wpAnyH_take (i := 0) (v := .pointer (some ⟨w3.heap.size, 1, none⟩)) rfl (by kernel_rfl) (by kernel_rfl) (by kernel_rfl) (fun _ _ _ h => h) (Or.inl ⟨by rfl, fun w' hSw => by obtain ⟨j0, j1, j2, j3, j4⟩ := five hSw; go_simp⟩) hHeld ?_
      simp only [Act.put, List.getElem_toArray, List.getElem_cons_succ, List.getElem_cons_zero, List.setIfInBounds_toArray, List.set_cons_zero, List.set_cons_succ]
      refine wpAnyH_take (i := 1) (v := .slice p0 MJ.root.length q0) rfl (by kernel_rfl) (by kernel_rfl) (by kernel_rfl) (fun _ _ _ h => h) (Or.inl ⟨by rfl, fun w' hSw => by obtain ⟨j0, j1, j2, j3, j4⟩ := five hSw; go_simp⟩) hHeld ?_
      simp only [Act.put, List.getElem_toArray, List.getElem_cons_succ, List.getElem_cons_zero, List.setIfInBounds_toArray, List.set_cons_zero, List.set_cons_succ]
      refine wpAnyH_take (i := 2) (v := .int .i64 (MJ.root.length : Int)) rfl (by kernel_rfl) (by kernel_rfl) (by kernel_rfl) (fun _ _ _ h => h) (Or.inl ⟨by rfl, fun w' hSw => by obtain ⟨j0, j1, j2, j3, j4⟩ := five hSw; go_simp⟩) hHeld ?_
      simp only [Act.put, List.getElem_toArray, List.getElem_cons_succ, List.getElem_cons_zero, List.setIfInBounds_toArray, List.set_cons_zero, List.set_cons_succ]
      refine wpAnyH_take (i := 3) (v := .int .i64 (g : Int)) rfl (by kernel_rfl) (by kernel_rfl) (by kernel_rfl) (fun _ _ _ h => h) (Or.inl ⟨by rfl, fun w' hSw => by obtain ⟨j0, j1, j2, j3, j4⟩ := five hSw; go_simp⟩) hHeld ?_
      simp only [Act.put, List.getElem_toArray, List.getElem_cons_succ, List.getElem_cons_zero, List.setIfInBounds_toArray, List.set_cons_zero, List.set_cons_succ]
      refine wpAnyH_ready (rs := [4]) (by kernel_rfl) (by simp) ?_
      refine AllReadyH.cons rfl (fun K hK => ?_) AllReadyH.nil
      clear hHeld
      simp only [Act.put, List.getElem_toArray, List.getElem_cons_succ, List.getElem_cons_zero, List.setIfInBounds_toArray, List.set_cons_zero, List.set_cons_succ]
      rw [if_pos (by rfl)]
      go_wp2_with (go_at_call 71; refine (HWa.out _).mono ?_; rintro e9 w9 ⟨rfl, hw⟩; rw [hw]; clear hw)
      refine hK.out _ _ hbx (fun hHeld => ?_)
      clear hK K
      try simp only [Act.put, List.getElem_toArray, List.getElem_cons_succ, List.getElem_cons_zero, List.setIfInBounds_toArray, List.set_cons_zero, List.set_cons_succ]
      refine wpAnyH_take (i := 5) (v := .bool true) rfl (by kernel_rfl) (by kernel_rfl) (by kernel_rfl) (fun _ _ _ h => h) (Or.inl ⟨by rfl, fun w' hSw => by go_simp⟩) hHeld ?_
      simp only [Act.put, List.getElem_toArray, List.getElem_cons_succ, List.getElem_cons_zero, List.setIfInBounds_toArray, List.set_cons_zero, List.set_cons_succ]
      clear hHeld
      refine wpAnyH_done (by kernel_rfl) ?_ _
      have HO6 : Hid (OwR w1 X5.drew w3.heap.size MJ) := HO.out.drew
      clear HO hX hbox hfar hbel x0 x1 x2 x3 hbx hdl
      obtain ⟨X6, hX6⟩ : ∃ X, X5.drew = X := ⟨_, rfl⟩
      rw [hX6] at HO6 ⊢
      clear hX6
      obtain ⟨val, hX, hbox, hfar⟩ := HO6.out.ex
      have hbel := HO6.out.bel
      obtain ⟨p0, q0, p1, q1, p2, q2, p3, q3, x0, x1, x2, x3⟩ := hX.four'
      have hbd := hbox
      rw [x0, x1, x2, x3] at hbd
      have hrow := hX.row .root (LiveX.root _)
      rw [x0] at hrow
      have hrow : X6.ownsRow w1.heap.size 3 1 (.slice p0 MJ.root.length q0) MJ.root.length (ints MJ.root) := hrow
      have A : Hid (X6.ownsRow w1.heap.size 3 1 (.slice p0 MJ.root.length q0) MJ.root.length (ints MJ.root) ∧ MJ.root.length ≤ 1000 ∧ w1.heap.size ≤ X6.heap.size) := ⟨hrow, by have := HWn.out.2; omega, hbel.size⟩
      have hDl : w3.heap.size < X6.heap.size := (Array.getElem?_eq_some_iff.1 hbd).1
      have HF : Hid (∀ a, LiveX MJ a → (val a).ownBlock ≠ some w3.heap.size) := hfar
      have HX : Hid (OX X6 w1.heap.size val MJ ∧ X6.heap[w3.heap.size]? = some (.cells #[.int .i64 MJ.guest, val .root, val .slots, val .refs, val .snaps] 26) ∧ val .root = .slice p0 MJ.root.length q0) := ⟨hX, hbox, x0⟩
      have HB : Hid (Below w1.heap.size w1 X6) := hbel
      have HBd : Hid (X6.heap[w3.heap.size]? = some (.cells #[.int .i64 MJ.guest, .slice p0 MJ.root.length q0, .slice p1 MJ.slots.length q1, .slice p2 MJ.refs.length q2, .slice p3 MJ.snaps.length q3] 26)) := hbd
      obtain ⟨d0, d1, d2, d3, d4⟩ := five hbd
      clear hX hbox hfar x0 x1 x2 x3 hbel hrow hbd
      go_wp2_with (at_builtin; refine wpList_add1 (B := w1.heap.size) (n := MJ.root.length) (v := .slice p0 MJ.root.length q0) (xs := MJ.root) rfl _ _ rfl (by rfl) (N := X6.heap.size) (by rfl) rfl A.out.1 A.out.2.1 A.out.2.2 ?_; intro v' w8 t1 t2 t3; obtain ⟨pa, pc, rfl⟩ := row_slice t1.out; have kb : w8.heap[w3.heap.size]? = some (.cells #[.int .i64 MJ.guest, .slice p0 MJ.root.length q0, .slice p1 MJ.slots.length q1, .slice p2 MJ.refs.length q2, .slice p3 MJ.snaps.length q3] 26) := (t2.out.block w3.heap.size (by simp; omega) (fun e => HF.out .root (LiveX.root _) (by rw [HX.out.2.2]; exact e.symm))).trans (cells_alloc HBd.out _); obtain ⟨k0, k1, k2, k3, k4⟩ := five kb; have kf0 := cells_frozen kb 0; have kf1 := cells_frozen kb 1; have kf2 := cells_frozen kb 2; have kf3 := cells_frozen kb 3; have kf4 := cells_frozen kb 4)
      have hO8 := ow_newroot (V := w1) (W := w8) (r := MJ.root ++ [0]) HX.out.1 HX.out.2.1 HO6.out.ge HF.out (by rw [List.length_append]; exact t1.out) (fun q hq hne => (t2.out.block q (by simp; omega) (fun e => hne (by rw [HX.out.2.2]; exact e.symm))).trans (Below.heap_alloc _ _ q hq)) ((HB.out.alloc A.out.2.2 _).grown t2.out (by simp; have := A.out.2.2; omega) (fun k e => by have h := (HX.out.1.row .root (LiveX.root _)).lt k (by rw [HX.out.2.2]; exact e); exact h.1)) (by
        rcases t3.out with x | x
        · left; rw [HX.out.2.2]; exact x
        · right; intro q hq; rw [x] at hq; have := Option.some.inj hq; omega)
      have hrl8 : rlenAt (w8.setCell ⟨w3.heap.size, 1, none⟩ (.slice pa (MJ.root.length + 1) pc)) w3.heap.size = MJ.root.length + 1 := rlenAt_is (cells_set kb 1 _)
      have hj8 : MG.root.length + (j + 1) ≤ wn := by have h := congrArg List.length HMJ.out.1; rw [List.length_append, List.length_replicate] at h; omega
      have e8 : { MJ with root := MJ.root ++ [0] } = { MG with root := MG.root ++ List.replicate (j + 1) 0 } := by
        rw [HMJ.out.1, List.append_assoc, ← List.replicate_succ']
        rw [← HMJ.out.2.1]
      go_roundw
      case rel => exact ⟨j + 1, ⟨by rw [← e8]; exact hO8, .inr hj8⟩⟩
      case measure => rw [hrl8, hrl]; omega
    · have hdl : decide ((MJ.root.length : Int) < (wn : Int)) = false := by simp; omega
      go_upto_region 17 with fail
      refine wp_region_held_drew (S := (fun X : World => X.heap[w3.heap.size]? = some (.cells #[.int .i64 MJ.guest, .slice p0 MJ.root.length q0, .slice p1 MJ.slots.length q1, .slice p2 MJ.refs.length q2, .slice p3 MJ.snaps.length q3] 26))) (by kernel_rfl) hbx (fun hHeld => ?_)
      refine wpAnyH_take (i := 0) (v := .pointer (some ⟨w3.heap.size, 1, none⟩)) rfl (by kernel_rfl) (by kernel_rfl) (by kernel_rfl) (fun _ _ _ h => h) (Or.inl ⟨by rfl, fun w' hSw => by obtain ⟨j0, j1, j2, j3, j4⟩ := five hSw; go_simp⟩) hHeld ?_
      simp only [Act.put, List.getElem_toArray, List.getElem_cons_succ, List.getElem_cons_zero, List.setIfInBounds_toArray, List.set_cons_zero, List.set_cons_succ]
      refine wpAnyH_take (i := 1) (v := .slice p0 MJ.root.length q0) rfl (by kernel_rfl) (by kernel_rfl) (by kernel_rfl) (fun _ _ _ h => h) (Or.inl ⟨by rfl, fun w' hSw => by obtain ⟨j0, j1, j2, j3, j4⟩ := five hSw; go_simp⟩) hHeld ?_
      simp only [Act.put, List.getElem_toArray, List.getElem_cons_succ, List.getElem_cons_zero, List.setIfInBounds_toArray, List.set_cons_zero, List.set_cons_succ]
      refine wpAnyH_take (i := 2) (v := .int .i64 (MJ.root.length : Int)) rfl (by kernel_rfl) (by kernel_rfl) (by kernel_rfl) (fun _ _ _ h => h) (Or.inl ⟨by rfl, fun w' hSw => by obtain ⟨j0, j1, j2, j3, j4⟩ := five hSw; go_simp⟩) hHeld ?_
      simp only [Act.put, List.getElem_toArray, List.getElem_cons_succ, List.getElem_cons_zero, List.setIfInBounds_toArray, List.set_cons_zero, List.set_cons_succ]
      refine wpAnyH_take (i := 3) (v := .int .i64 (g : Int)) rfl (by kernel_rfl) (by kernel_rfl) (by kernel_rfl) (fun _ _ _ h => h) (Or.inl ⟨by rfl, fun w' hSw => by obtain ⟨j0, j1, j2, j3, j4⟩ := five hSw; go_simp⟩) hHeld ?_
      simp only [Act.put, List.getElem_toArray, List.getElem_cons_succ, List.getElem_cons_zero, List.setIfInBounds_toArray, List.set_cons_zero, List.set_cons_succ]
      refine wpAnyH_ready (rs := [4]) (by kernel_rfl) (by simp) ?_
      refine AllReadyH.cons rfl (fun K hK => ?_) AllReadyH.nil
      clear hHeld
      simp only [Act.put, List.getElem_toArray, List.getElem_cons_succ, List.getElem_cons_zero, List.setIfInBounds_toArray, List.set_cons_zero, List.set_cons_succ]
      rw [if_pos (by rfl)]
      go_wp2_with (go_at_call 71; refine (HWa.out _).mono ?_; rintro e9 w9 ⟨rfl, hw⟩; rw [hw]; clear hw)
      refine hK.out _ _ hbx (fun hHeld => ?_)
      clear hK K
      try simp only [Act.put, List.getElem_toArray, List.getElem_cons_succ, List.getElem_cons_zero, List.setIfInBounds_toArray, List.set_cons_zero, List.set_cons_succ]
      refine wpAnyH_take (i := 5) (v := .bool false) rfl (by kernel_rfl) (by kernel_rfl) (by kernel_rfl) (fun _ _ _ h => h) (Or.inl ⟨by rfl, fun w' hSw => by go_simp⟩) hHeld ?_
      simp only [Act.put, List.getElem_toArray, List.getElem_cons_succ, List.getElem_cons_zero, List.setIfInBounds_toArray, List.set_cons_zero, List.set_cons_succ]
      clear hHeld
      refine wpAnyH_done (by kernel_rfl) ?_ _
      have HO6 : Hid (OwR w1 X5.drew w3.heap.size MJ) := HO.out.drew
      have HMR : Hid ({ MJ with root := MJ.root.take wn } = MR) := by
        show { MJ with root := MJ.root.take wn } = MR
        rw [← HMG.out.2]
        rw [HMJ.out.1, reroot_take (by have h := congrArg List.length HMJ.out.1; rw [List.length_append, List.length_replicate] at h; omega) HMJ.out.2.2, ← HMJ.out.2.1, ← HMG.out.1]
        unfold rerootD
        rw [HWn.out.1]
      clear HO hX hbox hfar hbel x0 x1 x2 x3 hbx hrl hdl HMJ
      obtain ⟨X6, hX6⟩ : ∃ X, X5.drew = X := ⟨_, rfl⟩
      rw [hX6] at HO6 ⊢
      clear hX6
      go_upto_region 19 with fail
      go_cut [] from 13 (fun wx => Hid (OwR w1 wx w3.heap.size MR))
      case first =>
        obtain ⟨val, hX, hbox, hfar⟩ := HO6.out.ex
        have hbel := HO6.out.bel
        obtain ⟨p0, q0, p1, q1, p2, q2, p3, q3, x0, x1, x2, x3⟩ := hX.four'
        have hbx := hbox
        rw [x0, x1, x2, x3] at hbx
        obtain ⟨d0, d1, d2, d3, d4⟩ := five hbx
        have hrow := hX.row .root (LiveX.root _)
        rw [x0] at hrow
        have hrow : X6.ownsRow w1.heap.size 3 1 (.slice p0 MJ.root.length q0) MJ.root.length (ints MJ.root) := hrow
        obtain ⟨htk, hwc⟩ := row_take (k := wn) hrow (by omega)
        have hwl : wn ≤ MJ.root.length := by omega
        have hwci : (wn : Int) ≤ (q0 : Int) := by omega
        have hwcn : ¬ (q0 : Int) < (wn : Int) := by omega
        have hwn0 : ¬ (wn : Int) < 0 := by omega
        have hb6 : X6.drew.heap[w3.heap.size]? = some (.cells #[.int .i64 MJ.guest, .slice p0 MJ.root.length q0, .slice p1 MJ.slots.length q1, .slice p2 MJ.refs.length q2, .slice p3 MJ.snaps.length q3] 26) := hbx
        have ff0 := cells_frozen hb6 0; have ff1 := cells_frozen hb6 1; have ff2 := cells_frozen hb6 2; have ff3 := cells_frozen hb6 3; have ff4 := cells_frozen hb6 4
        refine wp_region_held_drew (S := (fun X : World => True)) (by kernel_rfl) trivial (fun hHeld => ?_)
        refine wpAnyH_take (i := 0) (v := .pointer (some ⟨w3.heap.size, 1, none⟩)) rfl (by kernel_rfl) (by kernel_rfl) (by kernel_rfl) (fun _ _ _ h => h) (Or.inl ⟨by rfl, fun w' hSw => by go_simp⟩) hHeld ?_
        simp only [Act.put, List.getElem_toArray, List.getElem_cons_succ, List.getElem_cons_zero, List.setIfInBounds_toArray, List.set_cons_zero, List.set_cons_succ]
        refine wpAnyH_take (i := 2) (v := .int .i64 (g : Int)) rfl (by kernel_rfl) (by kernel_rfl) (by kernel_rfl) (fun _ _ _ h => h) (Or.inl ⟨by rfl, fun w' hSw => by go_simp⟩) hHeld ?_
        simp only [Act.put, List.getElem_toArray, List.getElem_cons_succ, List.getElem_cons_zero, List.setIfInBounds_toArray, List.set_cons_zero, List.set_cons_succ]
        refine wpAnyH_ready (rs := [1, 3]) (by kernel_rfl) (by simp) ?_
        refine AllReadyH.cons rfl (fun K hK => ?_) (AllReadyH.cons rfl (fun K hK => ?_) AllReadyH.nil)
        · clear hHeld
          simp only [Act.put, List.getElem_toArray, List.getElem_cons_succ, List.getElem_cons_zero, List.setIfInBounds_toArray, List.set_cons_zero, List.set_cons_succ]
          rw [if_pos (by rfl)]
          obtain ⟨v0, v1, v2, v3, v4⟩ := five hb6
          go_simp
          refine hK.out _ _ trivial (fun hHeld => ?_)
          clear hK K
          try simp only [Act.put, List.getElem_toArray, List.getElem_cons_succ, List.getElem_cons_zero, List.setIfInBounds_toArray, List.set_cons_zero, List.set_cons_succ]
          refine wpAnyH_ready (rs := [3]) (by kernel_rfl) (by simp) ?_
          refine AllReadyH.cons rfl (fun K hK => ?_) AllReadyH.nil
          clear hHeld
          simp only [Act.put, List.getElem_toArray, List.getElem_cons_succ, List.getElem_cons_zero, List.setIfInBounds_toArray, List.set_cons_zero, List.set_cons_succ]
          rw [if_pos (by rfl)]
          go_wp2_with (go_at_call 71; refine (HWa.out _).mono ?_; rintro e9 w9 ⟨rfl, hw⟩; rw [hw]; clear hw)
          refine hK.out _ _ trivial (fun hHeld => ?_)
          clear hK K
          try simp only [Act.put, List.getElem_toArray, List.getElem_cons_succ, List.getElem_cons_zero, List.setIfInBounds_toArray, List.set_cons_zero, List.set_cons_succ]
          refine wpAnyH_take (i := 4) (v := .slice p0 wn q0) rfl (by kernel_rfl) (by kernel_rfl) (by kernel_rfl) (fun _ _ _ h => h) (Or.inl ⟨by rfl, fun w' hSw => by go_simp⟩) hHeld ?_
          simp only [Act.put, List.getElem_toArray, List.getElem_cons_succ, List.getElem_cons_zero, List.setIfInBounds_toArray, List.set_cons_zero, List.set_cons_succ]
          refine wpAnyH_take (i := 5) (v := .pointer (some ⟨w3.heap.size, 1, none⟩)) rfl (by kernel_rfl) (by kernel_rfl) (by kernel_rfl) (fun _ _ _ h => h) (Or.inl ⟨by rfl, fun w' hSw => by go_simp⟩) hHeld ?_
          simp only [Act.put, List.getElem_toArray, List.getElem_cons_succ, List.getElem_cons_zero, List.setIfInBounds_toArray, List.set_cons_zero, List.set_cons_succ]
          refine wpAnyH_ready (rs := [6]) (by kernel_rfl) (by simp) ?_
          refine AllReadyH.cons rfl (fun K hK => ?_) AllReadyH.nil
          clear hHeld
          simp only [Act.put, List.getElem_toArray, List.getElem_cons_succ, List.getElem_cons_zero, List.setIfInBounds_toArray, List.set_cons_zero, List.set_cons_succ]
          rw [if_pos (by rfl)]
          obtain ⟨v0, v1, v2, v3, v4⟩ := five hb6
          go_simp
          refine hK.out _ _ trivial (fun hHeld => ?_)
          clear hK K hHeld
          try simp only [Act.put, List.getElem_toArray, List.getElem_cons_succ, List.getElem_cons_zero, List.setIfInBounds_toArray, List.set_cons_zero, List.set_cons_succ]
          refine wpAnyH_done (by kernel_rfl) ?_ _
          go_wp2_with fail
          go_meet
          rw [← HMR.out]
          exact ow_newroot (V := w1) (W := X6.drew) (r := MJ.root.take wn) (OX.drew hX) hbox HO6.out.ge hfar (by rw [List.length_take, Nat.min_eq_left hwl]; exact htk.drew) (fun q hq _ => rfl) (to_drew hbel) (.inl (by rw [x0]; cases p0 <;> rfl))
        · clear hHeld
          simp only [Act.put, List.getElem_toArray, List.getElem_cons_succ, List.getElem_cons_zero, List.setIfInBounds_toArray, List.set_cons_zero, List.set_cons_succ]
          rw [if_pos (by rfl)]
          go_wp2_with (go_at_call 71; refine (HWa.out _).mono ?_; rintro e9 w9 ⟨rfl, hw⟩; rw [hw]; clear hw)
          refine hK.out _ _ trivial (fun hHeld => ?_)
          clear hK K
          try simp only [Act.put, List.getElem_toArray, List.getElem_cons_succ, List.getElem_cons_zero, List.setIfInBounds_toArray, List.set_cons_zero, List.set_cons_succ]
          refine wpAnyH_ready (rs := [1]) (by kernel_rfl) (by simp) ?_
          refine AllReadyH.cons rfl (fun K hK => ?_) AllReadyH.nil
          clear hHeld
          simp only [Act.put, List.getElem_toArray, List.getElem_cons_succ, List.getElem_cons_zero, List.setIfInBounds_toArray, List.set_cons_zero, List.set_cons_succ]
          rw [if_pos (by rfl)]
          obtain ⟨v0, v1, v2, v3, v4⟩ := five hb6
          go_simp
          refine hK.out _ _ trivial (fun hHeld => ?_)
          clear hK K
          try simp only [Act.put, List.getElem_toArray, List.getElem_cons_succ, List.getElem_cons_zero, List.setIfInBounds_toArray, List.set_cons_zero, List.set_cons_succ]
          refine wpAnyH_take (i := 4) (v := .slice p0 wn q0) rfl (by kernel_rfl) (by kernel_rfl) (by kernel_rfl) (fun _ _ _ h => h) (Or.inl ⟨by rfl, fun w' hSw => by go_simp⟩) hHeld ?_
          simp only [Act.put, List.getElem_toArray, List.getElem_cons_succ, List.getElem_cons_zero, List.setIfInBounds_toArray, List.set_cons_zero, List.set_cons_succ]
          refine wpAnyH_take (i := 5) (v := .pointer (some ⟨w3.heap.size, 1, none⟩)) rfl (by kernel_rfl) (by kernel_rfl) (by kernel_rfl) (fun _ _ _ h => h) (Or.inl ⟨by rfl, fun w' hSw => by go_simp⟩) hHeld ?_
          simp only [Act.put, List.getElem_toArray, List.getElem_cons_succ, List.getElem_cons_zero, List.setIfInBounds_toArray, List.set_cons_zero, List.set_cons_succ]
          refine wpAnyH_ready (rs := [6]) (by kernel_rfl) (by simp) ?_
          refine AllReadyH.cons rfl (fun K hK => ?_) AllReadyH.nil
          clear hHeld
          simp only [Act.put, List.getElem_toArray, List.getElem_cons_succ, List.getElem_cons_zero, List.setIfInBounds_toArray, List.set_cons_zero, List.set_cons_succ]
          rw [if_pos (by rfl)]
          obtain ⟨v0, v1, v2, v3, v4⟩ := five hb6
          go_simp
          refine hK.out _ _ trivial (fun hHeld => ?_)
          clear hK K hHeld
          try simp only [Act.put, List.getElem_toArray, List.getElem_cons_succ, List.getElem_cons_zero, List.setIfInBounds_toArray, List.set_cons_zero, List.set_cons_succ]
          refine wpAnyH_done (by kernel_rfl) ?_ _
          go_wp2_with fail
          go_meet
          rw [← HMR.out]
          exact ow_newroot (V := w1) (W := X6.drew) (r := MJ.root.take wn) (OX.drew hX) hbox HO6.out.ge hfar (by rw [List.length_take, Nat.min_eq_left hwl]; exact htk.drew) (fun q hq _ => rfl) (to_drew hbel) (.inl (by rw [x0]; cases p0 <;> rfl))
      case rest =>
      have HD6 : Hid (OwR w1 wc w3.heap.size MR) := hcut
      clear hcut HO6
      obtain ⟨wg, hwg⟩ : ∃ X, X = wc := ⟨_, rfl⟩
      subst hwg
      obtain ⟨val, hX, hbox, hfar⟩ := HD6.out.ex
      have hbel := HD6.out.bel
      obtain ⟨p0, q0, p1, q1, p2, q2, p3, q3, x0, x1, x2, x3⟩ := hX.four'
      have hbx := hbox
      rw [x0, x1, x2, x3] at hbx
      obtain ⟨d0, d1, d2, d3, d4⟩ := five hbx
      have z9 := cells_below n1 hbel hz1
      obtain ⟨z0, z1, z2, z3, z4⟩ := five z9
      have y0 := cells_frozen z9 0; have y1 := cells_frozen z9 1; have y2 := cells_frozen z9 2; have y3 := cells_frozen z9 3; have y4 := cells_frozen z9 4
      have nD1 : ¬ w3.heap.size = w.heap.size + 1 := by omega
      have nD2 : ¬ w.heap.size + 1 = w3.heap.size := by omega
      have hc := countedX_is hX hbel.size HSh.out
      unfold imgV at hc
      rw [x0, x1, x2, x3] at hc
      have HCt : Hid (Calls Try.prog 64 #[.agg #[.int .i64 MR.guest, .slice p0 MR.root.length q0, .slice p1 MR.slots.length q1, .slice p2 MR.refs.length q2, .slice p3 MR.snaps.length q3]] wg fun r w' => ∃ val', r = .returned (imgV MR.guest val') ∧ OX w' w1.heap.size val' (countedD MR) ∧ Below w1.heap.size wg w' ∧ KeepX wg w' MR val ∧ SrcX wg MR val (.slice none 0 0) (countedD MR) val') := hc
      have hzl : w.heap.size + 1 < wg.heap.size := Nat.lt_of_lt_of_le hz1 hbel.size
      have hfz : ∀ a, LiveX MR a → (val a).ownBlock ≠ some (w.heap.size + 1) := fun a ha x => by have := ((hX.row a ha).lt _ x).1; omega
      clear hc
      go_wp2_with (go_at_call 64; refine HCt.out.mono ?_; rintro e7 w7 ⟨val2, rfl, hO7, b7, k7, s7⟩; obtain ⟨u0, v0, u1, v1, u2, v2, u3, v3, j0, j1, j2, j3⟩ := hO7.four'; have k17 := (k7 (w.heap.size + 1) hzl hfz).trans z9; obtain ⟨o0, o1, o2, o3, o4⟩ := five k17; have oo0 := cells_frozen k17 0; have oo1 := cells_frozen k17 1; have oo2 := cells_frozen k17 2; have oo3 := cells_frozen k17 3; have oo4 := cells_frozen k17 4; unfold imgV; rw [j0, j1, j2, j3])
      have hfr : ∀ a, LiveX (countedD MR) a → (val2 a).ownBlock ≠ some (w.heap.size + 1) := fun a ha x => by
        have := ((hO7.row a ha).lt _ x).1
        omega
      have hI := fun x0 x1 x2 x3 x4 => hO7.five hfr x0 x1 x2 x3 x4
      have eI : imgV (countedD MR).guest val2 = .agg #[.int .i64 MR.guest, .slice u0 (countedD MR).root.length v0, .slice u1 (countedD MR).slots.length v1, .slice u2 (countedD MR).refs.length v2, .slice u3 (countedD MR).snaps.length v3] := by unfold imgV; rw [j0, j1, j2, j3]; rfl
      have hB8 : Below w.heap.size w w7 := (Below.on bw hbel).trans (b7.mono (by omega))
      refine bodyPost_ret (v := .tuple #[.agg #[.int .i64 MR.guest, .slice u0 (countedD MR).root.length v0, .slice u1 (countedD MR).slots.length v1, .slice u2 (countedD MR).refs.length v2, .slice u3 (countedD MR).snaps.length v3], .int .i64 0]) (by simp [results, Try.results35, go_sem, o0, o1, o2, o3, o4]) rfl ⟨u0, v0, u1, v1, u2, v2, u3, v3, rfl, fun W' hW => (by have := ((hI _ _ _ _ _).keep (fun q hq _ => hW q (by omega))).img; rw [eI] at this; exact this), below_five hB8 (Nat.le_succ _) _ _ _ _ _⟩
end Go.Proofs.Ytehleeibgkpjmac
/- Contract of the document's ResizeOf, on. -/
namespace Go.Proofs.Ytehleeibgkpjmac
open Go.RowKit Go.Shelf
set_option maxRecDepth 20000
set_option linter.unusedVariables false
set_option linter.unusedSimpArgs false

set_option maxHeartbeats 16000000 in
theorem ro_same (rb ro : Nat) (rc : Nat) (sa : Option Addr) (sc : Nat) (fa : Option Addr) (fc : Nat) (na : Option Addr) (nc : Nat) (m : ImgD) (g : Nat) (w : World) (h : Img w (.agg #[.int .i64 m.guest, .slice (some ⟨rb, ro, none⟩) m.root.length rc, .slice sa m.slots.length sc, .slice fa m.refs.length fc, .slice na m.snaps.length nc]) m) (hC : checkE m = 0) (hg : g ≤ 16) (hrc : ∀ j, j < m.root.length → w.cell? ⟨rb, ro + j, none⟩ = some (.int .i64 (m.root.getD j 0))) (hrl : rb < w.heap.size) (hgo : g % 4 ≠ 0 ∧ g / 4 < m.root.length) (t : Nat) (HT : Hid (m.root.getD (g / 4) 0 = (t : Int) ∧ t < m.slots.length ∧ (tableO m (g / 4)).length = 4)) (HK : Hid (ckE (tableO m (g / 4)) = 0 ∧ (cutR (tableO m (g / 4)) (g % 4)).length = 4)) (HSm : Hid ((cutR (tableO m (g / 4)) (g % 4)) = tableO m (g / 4))) (MG MR : ImgD) (HMG : Hid ({ m with guest := (g : Int) } = MG ∧ rerootD m g = MR)) (HSh : Hid (shapeE { MR with refs := rfZ MR.slots } = 0)) :
    Calls Try.prog 35 #[.agg #[.int .i64 m.guest, .slice (some ⟨rb, ro, none⟩) m.root.length rc, .slice sa m.slots.length sc, .slice fa m.refs.length fc, .slice na m.snaps.length nc], .int .i64 (g : Int)] w (AnsJ w (countedD MR) 0) := by
  have b0 : Below w.heap.size w ((w.alloc (.cells #[.int .i64 m.guest, .slice (some ⟨rb, ro, none⟩) m.root.length rc, .slice sa m.slots.length sc, .slice fa m.refs.length fc, .slice na m.snaps.length nc] 26)).alloc (.cells #[.int .i64 0, .slice none 0 0, .slice none 0 0, .slice none 0 0, .slice none 0 0] 26)) := ((Below.refl _ _).alloc (Nat.le_refl _) _).alloc (by simp) _
  have m0 : ((w.alloc (.cells #[.int .i64 m.guest, .slice (some ⟨rb, ro, none⟩) m.root.length rc, .slice sa m.slots.length sc, .slice fa m.refs.length fc, .slice na m.snaps.length nc] 26)).alloc (.cells #[.int .i64 0, .slice none 0 0, .slice none 0 0, .slice none 0 0, .slice none 0 0] 26)).heap[w.heap.size]? = some (.cells #[.int .i64 m.guest, .slice (some ⟨rb, ro, none⟩) m.root.length rc, .slice sa m.slots.length sc, .slice fa m.refs.length fc, .slice na m.snaps.length nc] 26) := cells_alloc (World.alloc_heap_new _ _) _
  have m1 : ((w.alloc (.cells #[.int .i64 m.guest, .slice (some ⟨rb, ro, none⟩) m.root.length rc, .slice sa m.slots.length sc, .slice fa m.refs.length fc, .slice na m.snaps.length nc] 26)).alloc (.cells #[.int .i64 0, .slice none 0 0, .slice none 0 0, .slice none 0 0, .slice none 0 0] 26)).heap[w.heap.size + 1]? = some (.cells #[.int .i64 0, .slice none 0 0, .slice none 0 0, .slice none 0 0, .slice none 0 0] 26) := by have := World.alloc_heap_new (w.alloc (.cells #[.int .i64 m.guest, .slice (some ⟨rb, ro, none⟩) m.root.length rc, .slice sa m.slots.length sc, .slice fa m.refs.length fc, .slice na m.snaps.length nc] 26)) (.cells #[.int .i64 0, .slice none 0 0, .slice none 0 0, .slice none 0 0, .slice none 0 0] 26); simpa using this
  have hsz : w.heap.size + 1 < ((w.alloc (.cells #[.int .i64 m.guest, .slice (some ⟨rb, ro, none⟩) m.root.length rc, .slice sa m.slots.length sc, .slice fa m.refs.length fc, .slice na m.snaps.length nc] 26)).alloc (.cells #[.int .i64 0, .slice none 0 0, .slice none 0 0, .slice none 0 0, .slice none 0 0] 26)).heap.size := by simp
  have hs := checkE_shape hC
  have I0 := h.below b0
  have hck := checkImage_is I0 hC
  have hd : decide (0 ≤ (g : Int) ∧ (g : Int) ≤ 16) = true := by simp; omega
  have e4 : ((g / 4 : Nat) : Int) = (g : Int) / 4 := by omega
  have e5 : ((g % 4 : Nat) : Int) = (g : Int) % 4 := by omega
  have hq1 : ((g : Int) / 4).toNat = g / 4 := by omega
  have h0q : ¬ (g : Int) / 4 < 0 := by omega
  have h0a : 0 ≤ (g : Int) / 4 := by omega
  have HOw : Hid (∀ W, Below ((w.alloc (.cells #[.int .i64 m.guest, .slice (some ⟨rb, ro, none⟩) m.root.length rc, .slice sa m.slots.length sc, .slice fa m.refs.length fc, .slice na m.snaps.length nc] 26)).alloc (.cells #[.int .i64 0, .slice none 0 0, .slice none 0 0, .slice none 0 0, .slice none 0 0] 26)).heap.size ((w.alloc (.cells #[.int .i64 m.guest, .slice (some ⟨rb, ro, none⟩) m.root.length rc, .slice sa m.slots.length sc, .slice fa m.refs.length fc, .slice na m.snaps.length nc] 26)).alloc (.cells #[.int .i64 0, .slice none 0 0, .slice none 0 0, .slice none 0 0, .slice none 0 0] 26)) W → Calls Try.prog 60 #[.agg #[.int .i64 m.guest, .slice (some ⟨rb, ro, none⟩) m.root.length rc, .slice sa m.slots.length sc, .slice fa m.refs.length fc, .slice na m.snaps.length nc]] W fun r w' => ∃ val, r = .returned (imgV m.guest val) ∧ OX w' W.heap.size val m ∧ Below W.heap.size W w') := fun W hW => ownImage_is (I0.below hW) hs
  have HI0 : Hid (Img ((w.alloc (.cells #[.int .i64 m.guest, .slice (some ⟨rb, ro, none⟩) m.root.length rc, .slice sa m.slots.length sc, .slice fa m.refs.length fc, .slice na m.snaps.length nc] 26)).alloc (.cells #[.int .i64 0, .slice none 0 0, .slice none 0 0, .slice none 0 0, .slice none 0 0] 26)) (.agg #[.int .i64 m.guest, .slice (some ⟨rb, ro, none⟩) m.root.length rc, .slice sa m.slots.length sc, .slice fa m.refs.length fc, .slice na m.snaps.length nc]) m) := I0
  have HP : Hid (checkE m = 0 ∧ shapeE m = 0 ∧ g ≤ 16) := ⟨hC, hs, hg⟩
  have HR0 : Hid (((w.alloc (.cells #[.int .i64 m.guest, .slice (some ⟨rb, ro, none⟩) m.root.length rc, .slice sa m.slots.length sc, .slice fa m.refs.length fc, .slice na m.snaps.length nc] 26)).alloc (.cells #[.int .i64 0, .slice none 0 0, .slice none 0 0, .slice none 0 0, .slice none 0 0] 26)).cell? ⟨rb, ro + g / 4, none⟩ = some (.int .i64 (t : Int)) ∧ rb < ((w.alloc (.cells #[.int .i64 m.guest, .slice (some ⟨rb, ro, none⟩) m.root.length rc, .slice sa m.slots.length sc, .slice fa m.refs.length fc, .slice na m.snaps.length nc] 26)).alloc (.cells #[.int .i64 0, .slice none 0 0, .slice none 0 0, .slice none 0 0, .slice none 0 0] 26)).heap.size) := ⟨by rw [← HT.out.1]; exact (b0.cell (p := ⟨rb, ro + g / 4, none⟩) hrl).trans (hrc (g / 4) hgo.2), Nat.lt_of_lt_of_le hrl b0.size⟩
  clear hrc hrl
  clear h hC hs I0
  go_enter Try.func35, Try.ntmps35
  obtain ⟨c0, c1, c2, c3, c4⟩ := five m0
  go_upto_region 8 with (first
    | (go_at_call 60; refine (HOw.out w1 b1).mono ?_; rintro e3 w3 ⟨val, rfl, hO, b3⟩; obtain ⟨p0, q0, p1, q1, p2, q2, p3, q3, x0, x1, x2, x3⟩ := hO.four'; unfold imgV; rw [x0, x1, x2, x3])
    | (go_at_call 46; refine (within_any _ _ _ _).mono ?_; rintro e2 w' ⟨rfl, hw⟩; rw [hw, hd]; clear hw)
    | (go_at_call 18; refine hck.mono ?_; rintro e1 w1 ⟨rfl, b1⟩; have n0 := cells_below m0 b1 (by omega); obtain ⟨d0, d1, d2, d3, d4⟩ := five n0))
  clear c0 c1 c2 c3 c4
  clear d0 d1 d2 d3 d4
  have hz1 : w.heap.size + 1 < w1.heap.size := Nat.lt_of_lt_of_le hsz b1.size
  have n1 := cells_below m1 b1 hsz
  have bw : Below w.heap.size w w1 := Below.on b0 b1
  have I1 := HI0.out.below b1
  have s3 := b3.size
  have HD0 : Hid (OwR w1 (w3.alloc (.cells #[.int .i64 m.guest, .slice p0 m.root.length q0, .slice p1 m.slots.length q1, .slice p2 m.refs.length q2, .slice p3 m.snaps.length q3] 26)) w3.heap.size m) := ⟨⟨val, hO.alloc _, by rw [x0, x1, x2, x3]; exact World.alloc_heap_new _ _, hO.lt (Nat.le_refl _)⟩, by omega, b3.alloc (by omega) _⟩
  have cR : w1.cell? ⟨rb, ro + g / 4, none⟩ = some (.int .i64 (t : Int)) := (b1.cell (p := ⟨rb, ro + g / 4, none⟩) HR0.out.2).trans HR0.out.1
  have rl1 : rb < w1.heap.size := Nat.lt_of_lt_of_le HR0.out.2 b1.size
  clear hO x0 x1 x2 x3 b0 m0 m1 hck HOw HI0 hsz b1 b3
  have M0 := cells_below n0 HD0.out.bel (by omega)
  obtain ⟨c0, c1, c2, c3, c4⟩ := five M0
  have hDw : w1.heap.size ≤ w3.heap.size := HD0.out.ge
  go_cut [36] from 13 (fun s wx => s = .bool true ∧ Hid (OwR w1 wx w3.heap.size m))
  case first =>
    have g1 : ((g : Int) % 4 != 0) = true := by have := hgo.1; simp; omega
    have g2 : decide ((g : Int) / 4 < (m.root.length : Int)) = true := by have := hgo.2; simp; omega
    go_wp2_with fail; go_meet; exact ⟨rfl, HD0⟩
  case rest =>
  obtain ⟨rfl, HD1⟩ := hcut
  clear HD0 M0 c0 c1 c2 c3 c4
  obtain ⟨wa, hwa⟩ : ∃ X, X = wc := ⟨_, rfl⟩
  subst hwa
  obtain ⟨val, hXa, hboxA, hfar⟩ := HD1.out.ex
  have hbelA := HD1.out.bel
  obtain ⟨p0, q0, p1, q1, p2, q2, p3, q3, x0, x1, x2, x3⟩ := hXa.four'
  have hbxA := hboxA
  rw [x0, x1, x2, x3] at hbxA
  skip
  have MX := cells_below n0 hbelA (by omega)
  have cRa := (hbelA.cell (p := ⟨rb, ro + g / 4, none⟩) rl1).trans cR
  have hri : (g : Int) / 4 < (m.root.length : Int) := by have := hgo.2; omega
  have HTb : Hid (∀ W, Below w1.heap.size w1 W → Calls Try.prog 63 #[.agg #[.int .i64 m.guest, .slice (some ⟨rb, ro, none⟩) m.root.length rc, .slice sa m.slots.length sc, .slice fa m.refs.length fc, .slice na m.snaps.length nc], .int .i64 (t : Int)] W fun r w' => ∃ g' cap, r = .returned (.slice (some ⟨g', 0, none⟩) 4 cap) ∧ w'.ownsRow W.heap.size 3 1 (.slice (some ⟨g', 0, none⟩) 4 cap) 4 (ints (tableO m (g / 4))) ∧ W.heap.size ≤ g' ∧ Below W.heap.size W w') := fun W hW => by
    have e := tabAt_O HT.out.1
    refine (tableOf_is (I1.below hW) HT.out.2.1 (by rw [e, HT.out.2.2]; decide)).mono ?_
    rintro r w' ⟨v, rfl, h1, h2, h3⟩
    rw [e, HT.out.2.2] at h1
    obtain ⟨g', cap, rfl⟩ := row_some h1
    exact ⟨g', cap, rfl, h1, h2 g' rfl, h3⟩
  go_upto_region 9 with fail
  refine wp_region_held_drew (S := (fun X : World => X.heap[w.heap.size]? = some (.cells #[.int .i64 m.guest, .slice (some ⟨rb, ro, none⟩) m.root.length rc, .slice sa m.slots.length sc, .slice fa m.refs.length fc, .slice na m.snaps.length nc] 26) ∧ X.cell? ⟨rb, ro + g / 4, none⟩ = some (.int .i64 (t : Int)))) (by kernel_rfl) ⟨MX, cRa⟩ (fun hHeld => ?_)
  refine wpAnyH_take (i := 0) (v := .agg #[.int .i64 m.guest, .slice (some ⟨rb, ro, none⟩) m.root.length rc, .slice sa m.slots.length sc, .slice fa m.refs.length fc, .slice na m.snaps.length nc]) rfl (by kernel_rfl) (by kernel_rfl) (by kernel_rfl) (fun _ _ _ h => h) (Or.inl ⟨by rfl, fun w' hSw => by obtain ⟨qa, qb⟩ := hSw; obtain ⟨j0, j1, j2, j3, j4⟩ := five qa; go_simp⟩) hHeld ?_
  simp only [Act.put, List.getElem_toArray, List.getElem_cons_succ, List.getElem_cons_zero, List.setIfInBounds_toArray, List.set_cons_zero, List.set_cons_succ]
  refine wpAnyH_take (i := 1) (v := .pointer (some ⟨w.heap.size, 1, none⟩)) rfl (by kernel_rfl) (by kernel_rfl) (by kernel_rfl) (fun _ _ _ h => h) (Or.inl ⟨by rfl, fun w' hSw => by obtain ⟨qa, qb⟩ := hSw; obtain ⟨j0, j1, j2, j3, j4⟩ := five qa; go_simp⟩) hHeld ?_
  simp only [Act.put, List.getElem_toArray, List.getElem_cons_succ, List.getElem_cons_zero, List.setIfInBounds_toArray, List.set_cons_zero, List.set_cons_succ]
  refine wpAnyH_take (i := 2) (v := .slice (some ⟨rb, ro, none⟩) m.root.length rc) rfl (by kernel_rfl) (by kernel_rfl) (by kernel_rfl) (fun _ _ _ h => h) (Or.inl ⟨by rfl, fun w' hSw => by obtain ⟨qa, qb⟩ := hSw; obtain ⟨j0, j1, j2, j3, j4⟩ := five qa; go_simp⟩) hHeld ?_
  simp only [Act.put, List.getElem_toArray, List.getElem_cons_succ, List.getElem_cons_zero, List.setIfInBounds_toArray, List.set_cons_zero, List.set_cons_succ]
  refine wpAnyH_take (i := 3) (v := .int .i64 ((g : Int) / 4)) rfl (by kernel_rfl) (by kernel_rfl) (by kernel_rfl) (fun _ _ _ h => h) (Or.inl ⟨by rfl, fun w' hSw => by obtain ⟨qa, qb⟩ := hSw; obtain ⟨j0, j1, j2, j3, j4⟩ := five qa; go_simp⟩) hHeld ?_
  simp only [Act.put, List.getElem_toArray, List.getElem_cons_succ, List.getElem_cons_zero, List.setIfInBounds_toArray, List.set_cons_zero, List.set_cons_succ]
  refine wpAnyH_take (i := 4) (v := .pointer (some ⟨rb, ro + g / 4, none⟩)) rfl (by kernel_rfl) (by kernel_rfl) (by kernel_rfl) (fun _ _ _ h => h) (Or.inl ⟨by rfl, fun w' hSw => by obtain ⟨qa, qb⟩ := hSw; obtain ⟨j0, j1, j2, j3, j4⟩ := five qa; go_simp⟩) hHeld ?_
  simp only [Act.put, List.getElem_toArray, List.getElem_cons_succ, List.getElem_cons_zero, List.setIfInBounds_toArray, List.set_cons_zero, List.set_cons_succ]
  refine wpAnyH_take (i := 5) (v := .int .i64 (t : Int)) rfl (by kernel_rfl) (by kernel_rfl) (by kernel_rfl) (fun _ _ _ h => h) (Or.inl ⟨by rfl, fun w' hSw => by obtain ⟨qa, qb⟩ := hSw; obtain ⟨j0, j1, j2, j3, j4⟩ := five qa; go_simp⟩) hHeld ?_
  simp only [Act.put, List.getElem_toArray, List.getElem_cons_succ, List.getElem_cons_zero, List.setIfInBounds_toArray, List.set_cons_zero, List.set_cons_succ]
  refine wpAnyH_ready (rs := [6]) (by kernel_rfl) (by simp) ?_
  refine AllReadyH.cons rfl (fun K hK => ?_) AllReadyH.nil
  clear hHeld
  simp only [Act.put, List.getElem_toArray, List.getElem_cons_succ, List.getElem_cons_zero, List.setIfInBounds_toArray, List.set_cons_zero, List.set_cons_succ]
  rw [if_pos (by rfl)]
  go_wp2_with (go_at_call 63; refine (HTb.out _ (to_drew hbelA)).mono ?_; rintro e4' w4 ⟨tg, tc, rfl, hev, hge, b4⟩)
  have b4 : Below wa.heap.size wa w4 := below_drew b4
  have sA := hbelA.size
  have s4 := b4.size
  have MX4 := cells_below MX b4 (by omega)
  have cR4 := (b4.cell (p := ⟨rb, ro + g / 4, none⟩) (Nat.lt_of_lt_of_le rl1 sA)).trans cRa
  refine hK.out _ _ ⟨MX4, cR4⟩ (fun hHeld => ?_)
  clear hK K
  try simp only [Act.put, List.getElem_toArray, List.getElem_cons_succ, List.getElem_cons_zero, List.setIfInBounds_toArray, List.set_cons_zero, List.set_cons_succ]
  refine wpAnyH_take (i := 7) (v := .slice (some ⟨tg, 0, none⟩) 4 tc) rfl (by kernel_rfl) (by kernel_rfl) (by kernel_rfl) (fun _ _ _ h => h) (Or.inl ⟨by rfl, fun w' hSw => by go_simp⟩) hHeld ?_
  simp only [Act.put, List.getElem_toArray, List.getElem_cons_succ, List.getElem_cons_zero, List.setIfInBounds_toArray, List.set_cons_zero, List.set_cons_succ]
  clear hHeld
  refine wpAnyH_done (by kernel_rfl) ?_ _
  have hsl4 : Sl w4 (.slice (some ⟨tg, 0, none⟩) 4 tc) (tableO m (g / 4)) := row_sl (show w4.ownsRow _ 3 1 _ (tableO m (g / 4)).length _ from by rw [HT.out.2.2]; exact hev)
  have hcc := cutOf_own _ _ (g % 4) _ hsl4 HK.out.1 (by omega)
  rw [e5] at hcc
  have HXa : Hid (OX wa w1.heap.size val m ∧ wa.heap[w3.heap.size]? = some (.cells #[.int .i64 m.guest, val .root, val .slots, val .refs, val .snaps] 26) ∧ (∀ a, LiveX m a → (val a).ownBlock ≠ some w3.heap.size) ∧ Below w1.heap.size w1 wa ∧ Below wa.heap.size wa w4) := ⟨hXa, hboxA, hfar, hbelA, b4⟩
  have HXv : Hid (val .root = .slice p0 m.root.length q0 ∧ val .slots = .slice p1 m.slots.length q1 ∧ val .refs = .slice p2 m.refs.length q2 ∧ val .snaps = .slice p3 m.snaps.length q3) := ⟨x0, x1, x2, x3⟩
  clear hXa hboxA hbxA hfar hbelA x0 x1 x2 x3 MX cRa MX4 cR4 HTb hev hge b4
  go_upto_region 16 with (first | (go_at_call 39; refine (same_any hslc (by rw [HSm.out]; exact hslt)).mono ?_; rintro e6 w6 ⟨rfl, b6⟩) | (go_at_call 69; refine hcc.mono ?_; rintro e5' w5 ⟨cg, cc, rfl, hcw, b5⟩; have hslc : Sl w5 (.slice (some ⟨cg, 0, none⟩) 4 cc) (cutR (tableO m (g / 4)) (g % 4)) := row_sl (show w5.ownsRow _ 3 1 _ (cutR (tableO m (g / 4)) (g % 4)).length _ from by rw [HK.out.2]; exact hcw); have hslt := hsl4.below b5))
  have HDs : Hid (OwR w1 w6 w3.heap.size m) := OwR.below (OwR.below (OwR.below HD1.out HXa.out.2.2.2.2) b5) b6
  go_cut [] from 13 (fun wx => Hid (OwR w1 wx w3.heap.size MG))
  case first =>
    obtain ⟨val, hX, hbox, hfar⟩ := HDs.out.ex
    have hbel := HDs.out.bel
    obtain ⟨p0, q0, p1, q1, p2, q2, p3, q3, x0, x1, x2, x3⟩ := hX.four'
    have hbx := hbox
    rw [x0, x1, x2, x3] at hbx
    obtain ⟨d0, d1, d2, d3, d4⟩ := five hbx
    have ff0 := cells_frozen hbx 0; have ff1 := cells_frozen hbx 1; have ff2 := cells_frozen hbx 2; have ff3 := cells_frozen hbx 3; have ff4 := cells_frozen hbx 4
    go_wp2_with fail
    go_meet
    rw [← HMG.out.1]
    exact ow_guest hX hbel hbox HDs.out.ge hfar (g : Int)
  case rest =>
  have HD5 : Hid (OwR w1 wc w3.heap.size MG) := hcut
  clear hcut
  obtain ⟨wf, hwf⟩ : ∃ X, X = wc := ⟨_, rfl⟩
  subst hwf
  have hw1 : (((g + 3) / 4 : Nat) : Int) = ((g : Int) + 3) / 4 := by omega
  obtain ⟨wn, hwn⟩ : ∃ x : Nat, (g + 3) / 4 = x := ⟨_, rfl⟩
  rw [hwn] at hw1
  have HWn : Hid ((g + 3) / 4 = wn ∧ wn ≤ 4) := ⟨hwn, by have := HP.out.2.2; omega⟩
  have HWa : Hid (∀ W, Calls Try.prog 71 #[.int .i64 (g : Int)] W fun r w' => r = .returned (.int .i64 (wn : Int)) ∧ w' = W) := fun W => by
    have := wants_any (g : Int) W (by have := HP.out.2.2; omega)
    rw [← hw1] at this
    exact this
  clear hwn hw1
  go_wp2_with fail
  go_loopw [] (fun wr => ∃ j : Nat, Hid (OwR w1 wr w3.heap.size { MG with root := MG.root ++ List.replicate j 0 } ∧ (j = 0 ∨ MG.root.length + j ≤ wn))) (fun wr => wn - rlenAt wr w3.heap.size)
  case atStart => exact ⟨0, ⟨by have e : { MG with root := MG.root ++ List.replicate 0 0 } = MG := (by simp); rw [e]; exact HD5.out, .inl rfl⟩⟩
  case round =>
    obtain ⟨j, HR⟩ := hrel
    obtain ⟨X5, hX5⟩ : ∃ X, X = wr := ⟨_, rfl⟩
    subst hX5
    obtain ⟨MJ, hMJ⟩ : ∃ X : ImgD, { MG with root := MG.root ++ List.replicate j 0 } = X := ⟨_, rfl⟩
    have HMJ : Hid (MJ.root = MG.root ++ List.replicate j 0 ∧ { MG with root := MG.root ++ List.replicate j 0 } = MJ ∧ (j = 0 ∨ MG.root.length + j ≤ wn)) := ⟨by rw [← hMJ], hMJ, HR.out.2⟩
    have HO : Hid (OwR w1 X5 w3.heap.size MJ) := by show OwR w1 X5 w3.heap.size MJ; rw [← hMJ]; exact HR.out.1
    clear HR hMJ
    obtain ⟨val, hX, hbox, hfar⟩ := HO.out.ex
    have hbel := HO.out.bel
    obtain ⟨p0, q0, p1, q1, p2, q2, p3, q3, x0, x1, x2, x3⟩ := hX.four'
    have hbx := hbox
    rw [x0, x1, x2, x3] at hbx
    have hrl : rlenAt X5 w3.heap.size = MJ.root.length := rlenAt_is hbx
    by_cases hlt : MJ.root.length < wn
    · have hdl : decide ((MJ.root.length : Int) < (wn : Int)) = true := by simp; omega
      go_upto_region 17 with fail
      refine wp_region_held_drew (S := (fun X : World => X.heap[w3.heap.size]? = some (.cells #[.int .i64 MJ.guest, .slice p0 MJ.root.length q0, .slice p1 MJ.slots.length q1, .slice p2 MJ.refs.length q2, .slice p3 MJ.snaps.length q3] 26))) (by kernel_rfl) hbx (fun hHeld => ?_)
      refine wpAnyH_take (i := 0) (v := .pointer (some ⟨w3.heap.size, 1, none⟩)) rfl (by kernel_rfl) (by kernel_rfl) (by kernel_rfl) (fun _ _ _ h => h) (Or.inl ⟨by rfl, fun w' hSw => by obtain ⟨j0, j1, j2, j3, j4⟩ := five hSw; go_simp⟩) hHeld ?_
      simp only [Act.put, List.getElem_toArray, List.getElem_cons_succ, List.getElem_cons_zero, List.setIfInBounds_toArray, List.set_cons_zero, List.set_cons_succ]
      refine wpAnyH_take (i := 1) (v := .slice p0 MJ.root.length q0) rfl (by kernel_rfl) (by kernel_rfl) (by kernel_rfl) (fun _ _ _ h => h) (Or.inl ⟨by rfl, fun w' hSw => by obtain ⟨j0, j1, j2, j3, j4⟩ := five hSw; go_simp⟩) hHeld ?_
      simp only [Act.put, List.getElem_toArray, List.getElem_cons_succ, List.getElem_cons_zero, List.setIfInBounds_toArray, List.set_cons_zero, List.set_cons_succ]
      refine wpAnyH_take (i := 2) (v := .int .i64 (MJ.root.length : Int)) rfl (by kernel_rfl) (by kernel_rfl) (by kernel_rfl) (fun _ _ _ h => h) (Or.inl ⟨by rfl, fun w' hSw => by obtain ⟨j0, j1, j2, j3, j4⟩ := five hSw; go_simp⟩) hHeld ?_
      simp only [Act.put, List.getElem_toArray, List.getElem_cons_succ, List.getElem_cons_zero, List.setIfInBounds_toArray, List.set_cons_zero, List.set_cons_succ]
      refine wpAnyH_take (i := 3) (v := .int .i64 (g : Int)) rfl (by kernel_rfl) (by kernel_rfl) (by kernel_rfl) (fun _ _ _ h => h) (Or.inl ⟨by rfl, fun w' hSw => by obtain ⟨j0, j1, j2, j3, j4⟩ := five hSw; go_simp⟩) hHeld ?_
      simp only [Act.put, List.getElem_toArray, List.getElem_cons_succ, List.getElem_cons_zero, List.setIfInBounds_toArray, List.set_cons_zero, List.set_cons_succ]
      refine wpAnyH_ready (rs := [4]) (by kernel_rfl) (by simp) ?_
      refine AllReadyH.cons rfl (fun K hK => ?_) AllReadyH.nil
      clear hHeld
      simp only [Act.put, List.getElem_toArray, List.getElem_cons_succ, List.getElem_cons_zero, List.setIfInBounds_toArray, List.set_cons_zero, List.set_cons_succ]
      rw [if_pos (by rfl)]
      go_wp2_with (go_at_call 71; refine (HWa.out _).mono ?_; rintro e9 w9 ⟨rfl, hw⟩; rw [hw]; clear hw)
      refine hK.out _ _ hbx (fun hHeld => ?_)
      clear hK K
      try simp only [Act.put, List.getElem_toArray, List.getElem_cons_succ, List.getElem_cons_zero, List.setIfInBounds_toArray, List.set_cons_zero, List.set_cons_succ]
      refine wpAnyH_take (i := 5) (v := .bool true) rfl (by kernel_rfl) (by kernel_rfl) (by kernel_rfl) (fun _ _ _ h => h) (Or.inl ⟨by rfl, fun w' hSw => by go_simp⟩) hHeld ?_
      simp only [Act.put, List.getElem_toArray, List.getElem_cons_succ, List.getElem_cons_zero, List.setIfInBounds_toArray, List.set_cons_zero, List.set_cons_succ]
      clear hHeld
      refine wpAnyH_done (by kernel_rfl) ?_ _
      have HO6 : Hid (OwR w1 X5.drew w3.heap.size MJ) := HO.out.drew
      clear HO hX hbox hfar hbel x0 x1 x2 x3 hbx hdl
      obtain ⟨X6, hX6⟩ : ∃ X, X5.drew = X := ⟨_, rfl⟩
      rw [hX6] at HO6 ⊢
      clear hX6
      obtain ⟨val, hX, hbox, hfar⟩ := HO6.out.ex
      have hbel := HO6.out.bel
      obtain ⟨p0, q0, p1, q1, p2, q2, p3, q3, x0, x1, x2, x3⟩ := hX.four'
      have hbd := hbox
      rw [x0, x1, x2, x3] at hbd
      have hrow := hX.row .root (LiveX.root _)
      rw [x0] at hrow
      have hrow : X6.ownsRow w1.heap.size 3 1 (.slice p0 MJ.root.length q0) MJ.root.length (ints MJ.root) := hrow
      have A : Hid (X6.ownsRow w1.heap.size 3 1 (.slice p0 MJ.root.length q0) MJ.root.length (ints MJ.root) ∧ MJ.root.length ≤ 1000 ∧ w1.heap.size ≤ X6.heap.size) := ⟨hrow, by have := HWn.out.2; omega, hbel.size⟩
      have hDl : w3.heap.size < X6.heap.size := (Array.getElem?_eq_some_iff.1 hbd).1
      have HF : Hid (∀ a, LiveX MJ a → (val a).ownBlock ≠ some w3.heap.size) := hfar
      have HX : Hid (OX X6 w1.heap.size val MJ ∧ X6.heap[w3.heap.size]? = some (.cells #[.int .i64 MJ.guest, val .root, val .slots, val .refs, val .snaps] 26) ∧ val .root = .slice p0 MJ.root.length q0) := ⟨hX, hbox, x0⟩
      have HB : Hid (Below w1.heap.size w1 X6) := hbel
      have HBd : Hid (X6.heap[w3.heap.size]? = some (.cells #[.int .i64 MJ.guest, .slice p0 MJ.root.length q0, .slice p1 MJ.slots.length q1, .slice p2 MJ.refs.length q2, .slice p3 MJ.snaps.length q3] 26)) := hbd
      obtain ⟨d0, d1, d2, d3, d4⟩ := five hbd
      clear hX hbox hfar x0 x1 x2 x3 hbel hrow hbd
      go_wp2_with (at_builtin; refine wpList_add1 (B := w1.heap.size) (n := MJ.root.length) (v := .slice p0 MJ.root.length q0) (xs := MJ.root) rfl _ _ rfl (by rfl) (N := X6.heap.size) (by rfl) rfl A.out.1 A.out.2.1 A.out.2.2 ?_; intro v' w8 t1 t2 t3; obtain ⟨pa, pc, rfl⟩ := row_slice t1.out; have kb : w8.heap[w3.heap.size]? = some (.cells #[.int .i64 MJ.guest, .slice p0 MJ.root.length q0, .slice p1 MJ.slots.length q1, .slice p2 MJ.refs.length q2, .slice p3 MJ.snaps.length q3] 26) := (t2.out.block w3.heap.size (by simp; omega) (fun e => HF.out .root (LiveX.root _) (by rw [HX.out.2.2]; exact e.symm))).trans (cells_alloc HBd.out _); obtain ⟨k0, k1, k2, k3, k4⟩ := five kb; have kf0 := cells_frozen kb 0; have kf1 := cells_frozen kb 1; have kf2 := cells_frozen kb 2; have kf3 := cells_frozen kb 3; have kf4 := cells_frozen kb 4)
      have hO8 := ow_newroot (V := w1) (W := w8) (r := MJ.root ++ [0]) HX.out.1 HX.out.2.1 HO6.out.ge HF.out (by rw [List.length_append]; exact t1.out) (fun q hq hne => (t2.out.block q (by simp; omega) (fun e => hne (by rw [HX.out.2.2]; exact e.symm))).trans (Below.heap_alloc _ _ q hq)) ((HB.out.alloc A.out.2.2 _).grown t2.out (by simp; have := A.out.2.2; omega) (fun k e => by have h := (HX.out.1.row .root (LiveX.root _)).lt k (by rw [HX.out.2.2]; exact e); exact h.1)) (by
        rcases t3.out with x | x
        · left; rw [HX.out.2.2]; exact x
        · right; intro q hq; rw [x] at hq; have := Option.some.inj hq; omega)
      have hrl8 : rlenAt (w8.setCell ⟨w3.heap.size, 1, none⟩ (.slice pa (MJ.root.length + 1) pc)) w3.heap.size = MJ.root.length + 1 := rlenAt_is (cells_set kb 1 _)
      have hj8 : MG.root.length + (j + 1) ≤ wn := by have h := congrArg List.length HMJ.out.1; rw [List.length_append, List.length_replicate] at h; omega
      have e8 : { MJ with root := MJ.root ++ [0] } = { MG with root := MG.root ++ List.replicate (j + 1) 0 } := by
        rw [HMJ.out.1, List.append_assoc, ← List.replicate_succ']
        rw [← HMJ.out.2.1]
      go_roundw
      case rel => exact ⟨j + 1, ⟨by rw [← e8]; exact hO8, .inr hj8⟩⟩
      case measure => rw [hrl8, hrl]; omega
    · have hdl : decide ((MJ.root.length : Int) < (wn : Int)) = false := by simp; omega
      go_upto_region 17 with fail
      refine wp_region_held_drew (S := (fun X : World => X.heap[w3.heap.size]? = some (.cells #[.int .i64 MJ.guest, .slice p0 MJ.root.length q0, .slice p1 MJ.slots.length q1, .slice p2 MJ.refs.length q2, .slice p3 MJ.snaps.length q3] 26))) (by kernel_rfl) hbx (fun hHeld => ?_)
      refine wpAnyH_take (i := 0) (v := .pointer (some ⟨w3.heap.size, 1, none⟩)) rfl (by kernel_rfl) (by kernel_rfl) (by kernel_rfl) (fun _ _ _ h => h) (Or.inl ⟨by rfl, fun w' hSw => by obtain ⟨j0, j1, j2, j3, j4⟩ := five hSw; go_simp⟩) hHeld ?_
      simp only [Act.put, List.getElem_toArray, List.getElem_cons_succ, List.getElem_cons_zero, List.setIfInBounds_toArray, List.set_cons_zero, List.set_cons_succ]
      refine wpAnyH_take (i := 1) (v := .slice p0 MJ.root.length q0) rfl (by kernel_rfl) (by kernel_rfl) (by kernel_rfl) (fun _ _ _ h => h) (Or.inl ⟨by rfl, fun w' hSw => by obtain ⟨j0, j1, j2, j3, j4⟩ := five hSw; go_simp⟩) hHeld ?_
      simp only [Act.put, List.getElem_toArray, List.getElem_cons_succ, List.getElem_cons_zero, List.setIfInBounds_toArray, List.set_cons_zero, List.set_cons_succ]
      refine wpAnyH_take (i := 2) (v := .int .i64 (MJ.root.length : Int)) rfl (by kernel_rfl) (by kernel_rfl) (by kernel_rfl) (fun _ _ _ h => h) (Or.inl ⟨by rfl, fun w' hSw => by obtain ⟨j0, j1, j2, j3, j4⟩ := five hSw; go_simp⟩) hHeld ?_
      simp only [Act.put, List.getElem_toArray, List.getElem_cons_succ, List.getElem_cons_zero, List.setIfInBounds_toArray, List.set_cons_zero, List.set_cons_succ]
      refine wpAnyH_take (i := 3) (v := .int .i64 (g : Int)) rfl (by kernel_rfl) (by kernel_rfl) (by kernel_rfl) (fun _ _ _ h => h) (Or.inl ⟨by rfl, fun w' hSw => by obtain ⟨j0, j1, j2, j3, j4⟩ := five hSw; go_simp⟩) hHeld ?_
      simp only [Act.put, List.getElem_toArray, List.getElem_cons_succ, List.getElem_cons_zero, List.setIfInBounds_toArray, List.set_cons_zero, List.set_cons_succ]
      refine wpAnyH_ready (rs := [4]) (by kernel_rfl) (by simp) ?_
      refine AllReadyH.cons rfl (fun K hK => ?_) AllReadyH.nil
      clear hHeld
      simp only [Act.put, List.getElem_toArray, List.getElem_cons_succ, List.getElem_cons_zero, List.setIfInBounds_toArray, List.set_cons_zero, List.set_cons_succ]
      rw [if_pos (by rfl)]
      go_wp2_with (go_at_call 71; refine (HWa.out _).mono ?_; rintro e9 w9 ⟨rfl, hw⟩; rw [hw]; clear hw)
      refine hK.out _ _ hbx (fun hHeld => ?_)
      clear hK K
      try simp only [Act.put, List.getElem_toArray, List.getElem_cons_succ, List.getElem_cons_zero, List.setIfInBounds_toArray, List.set_cons_zero, List.set_cons_succ]
      refine wpAnyH_take (i := 5) (v := .bool false) rfl (by kernel_rfl) (by kernel_rfl) (by kernel_rfl) (fun _ _ _ h => h) (Or.inl ⟨by rfl, fun w' hSw => by go_simp⟩) hHeld ?_
      simp only [Act.put, List.getElem_toArray, List.getElem_cons_succ, List.getElem_cons_zero, List.setIfInBounds_toArray, List.set_cons_zero, List.set_cons_succ]
      clear hHeld
      refine wpAnyH_done (by kernel_rfl) ?_ _
      have HO6 : Hid (OwR w1 X5.drew w3.heap.size MJ) := HO.out.drew
      have HMR : Hid ({ MJ with root := MJ.root.take wn } = MR) := by
        show { MJ with root := MJ.root.take wn } = MR
        rw [← HMG.out.2]
        rw [HMJ.out.1, reroot_take (by have h := congrArg List.length HMJ.out.1; rw [List.length_append, List.length_replicate] at h; omega) HMJ.out.2.2, ← HMJ.out.2.1, ← HMG.out.1]
        unfold rerootD
        rw [HWn.out.1]
      clear HO hX hbox hfar hbel x0 x1 x2 x3 hbx hrl hdl HMJ
      obtain ⟨X6, hX6⟩ : ∃ X, X5.drew = X := ⟨_, rfl⟩
      rw [hX6] at HO6 ⊢
      clear hX6
      go_upto_region 19 with fail
      go_cut [] from 13 (fun wx => Hid (OwR w1 wx w3.heap.size MR))
      case first =>
        obtain ⟨val, hX, hbox, hfar⟩ := HO6.out.ex
        have hbel := HO6.out.bel
        obtain ⟨p0, q0, p1, q1, p2, q2, p3, q3, x0, x1, x2, x3⟩ := hX.four'
        have hbx := hbox
        rw [x0, x1, x2, x3] at hbx
        obtain ⟨d0, d1, d2, d3, d4⟩ := five hbx
        have hrow := hX.row .root (LiveX.root _)
        rw [x0] at hrow
        have hrow : X6.ownsRow w1.heap.size 3 1 (.slice p0 MJ.root.length q0) MJ.root.length (ints MJ.root) := hrow
        obtain ⟨htk, hwc⟩ := row_take (k := wn) hrow (by omega)
        have hwl : wn ≤ MJ.root.length := by omega
        have hwci : (wn : Int) ≤ (q0 : Int) := by omega
        have hwcn : ¬ (q0 : Int) < (wn : Int) := by omega
        have hwn0 : ¬ (wn : Int) < 0 := by omega
        have hb6 : X6.drew.heap[w3.heap.size]? = some (.cells #[.int .i64 MJ.guest, .slice p0 MJ.root.length q0, .slice p1 MJ.slots.length q1, .slice p2 MJ.refs.length q2, .slice p3 MJ.snaps.length q3] 26) := hbx
        have ff0 := cells_frozen hb6 0; have ff1 := cells_frozen hb6 1; have ff2 := cells_frozen hb6 2; have ff3 := cells_frozen hb6 3; have ff4 := cells_frozen hb6 4
        refine wp_region_held_drew (S := (fun X : World => True)) (by kernel_rfl) trivial (fun hHeld => ?_)
        refine wpAnyH_take (i := 0) (v := .pointer (some ⟨w3.heap.size, 1, none⟩)) rfl (by kernel_rfl) (by kernel_rfl) (by kernel_rfl) (fun _ _ _ h => h) (Or.inl ⟨by rfl, fun w' hSw => by go_simp⟩) hHeld ?_
        simp only [Act.put, List.getElem_toArray, List.getElem_cons_succ, List.getElem_cons_zero, List.setIfInBounds_toArray, List.set_cons_zero, List.set_cons_succ]
        refine wpAnyH_take (i := 2) (v := .int .i64 (g : Int)) rfl (by kernel_rfl) (by kernel_rfl) (by kernel_rfl) (fun _ _ _ h => h) (Or.inl ⟨by rfl, fun w' hSw => by go_simp⟩) hHeld ?_
        simp only [Act.put, List.getElem_toArray, List.getElem_cons_succ, List.getElem_cons_zero, List.setIfInBounds_toArray, List.set_cons_zero, List.set_cons_succ]
        refine wpAnyH_ready (rs := [1, 3]) (by kernel_rfl) (by simp) ?_
        refine AllReadyH.cons rfl (fun K hK => ?_) (AllReadyH.cons rfl (fun K hK => ?_) AllReadyH.nil)
        · clear hHeld
          simp only [Act.put, List.getElem_toArray, List.getElem_cons_succ, List.getElem_cons_zero, List.setIfInBounds_toArray, List.set_cons_zero, List.set_cons_succ]
          rw [if_pos (by rfl)]
          obtain ⟨v0, v1, v2, v3, v4⟩ := five hb6
          go_simp
          refine hK.out _ _ trivial (fun hHeld => ?_)
          clear hK K
          try simp only [Act.put, List.getElem_toArray, List.getElem_cons_succ, List.getElem_cons_zero, List.setIfInBounds_toArray, List.set_cons_zero, List.set_cons_succ]
          refine wpAnyH_ready (rs := [3]) (by kernel_rfl) (by simp) ?_
          refine AllReadyH.cons rfl (fun K hK => ?_) AllReadyH.nil
          clear hHeld
          simp only [Act.put, List.getElem_toArray, List.getElem_cons_succ, List.getElem_cons_zero, List.setIfInBounds_toArray, List.set_cons_zero, List.set_cons_succ]
          rw [if_pos (by rfl)]
          go_wp2_with (go_at_call 71; refine (HWa.out _).mono ?_; rintro e9 w9 ⟨rfl, hw⟩; rw [hw]; clear hw)
          refine hK.out _ _ trivial (fun hHeld => ?_)
          clear hK K
          try simp only [Act.put, List.getElem_toArray, List.getElem_cons_succ, List.getElem_cons_zero, List.setIfInBounds_toArray, List.set_cons_zero, List.set_cons_succ]
          refine wpAnyH_take (i := 4) (v := .slice p0 wn q0) rfl (by kernel_rfl) (by kernel_rfl) (by kernel_rfl) (fun _ _ _ h => h) (Or.inl ⟨by rfl, fun w' hSw => by go_simp⟩) hHeld ?_
          simp only [Act.put, List.getElem_toArray, List.getElem_cons_succ, List.getElem_cons_zero, List.setIfInBounds_toArray, List.set_cons_zero, List.set_cons_succ]
          refine wpAnyH_take (i := 5) (v := .pointer (some ⟨w3.heap.size, 1, none⟩)) rfl (by kernel_rfl) (by kernel_rfl) (by kernel_rfl) (fun _ _ _ h => h) (Or.inl ⟨by rfl, fun w' hSw => by go_simp⟩) hHeld ?_
          simp only [Act.put, List.getElem_toArray, List.getElem_cons_succ, List.getElem_cons_zero, List.setIfInBounds_toArray, List.set_cons_zero, List.set_cons_succ]
          refine wpAnyH_ready (rs := [6]) (by kernel_rfl) (by simp) ?_
          refine AllReadyH.cons rfl (fun K hK => ?_) AllReadyH.nil
          clear hHeld
          simp only [Act.put, List.getElem_toArray, List.getElem_cons_succ, List.getElem_cons_zero, List.setIfInBounds_toArray, List.set_cons_zero, List.set_cons_succ]
          rw [if_pos (by rfl)]
          obtain ⟨v0, v1, v2, v3, v4⟩ := five hb6
          go_simp
          refine hK.out _ _ trivial (fun hHeld => ?_)
          clear hK K hHeld
          try simp only [Act.put, List.getElem_toArray, List.getElem_cons_succ, List.getElem_cons_zero, List.setIfInBounds_toArray, List.set_cons_zero, List.set_cons_succ]
          refine wpAnyH_done (by kernel_rfl) ?_ _
          go_wp2_with fail
          go_meet
          rw [← HMR.out]
          exact ow_newroot (V := w1) (W := X6.drew) (r := MJ.root.take wn) (OX.drew hX) hbox HO6.out.ge hfar (by rw [List.length_take, Nat.min_eq_left hwl]; exact htk.drew) (fun q hq _ => rfl) (to_drew hbel) (.inl (by rw [x0]; cases p0 <;> rfl))
        · clear hHeld
          simp only [Act.put, List.getElem_toArray, List.getElem_cons_succ, List.getElem_cons_zero, List.setIfInBounds_toArray, List.set_cons_zero, List.set_cons_succ]
          rw [if_pos (by rfl)]
          go_wp2_with (go_at_call 71; refine (HWa.out _).mono ?_; rintro e9 w9 ⟨rfl, hw⟩; rw [hw]; clear hw)
          refine hK.out _ _ trivial (fun hHeld => ?_)
          clear hK K
          try simp only [Act.put, List.getElem_toArray, List.getElem_cons_succ, List.getElem_cons_zero, List.setIfInBounds_toArray, List.set_cons_zero, List.set_cons_succ]
          refine wpAnyH_ready (rs := [1]) (by kernel_rfl) (by simp) ?_
          refine AllReadyH.cons rfl (fun K hK => ?_) AllReadyH.nil
          clear hHeld
          simp only [Act.put, List.getElem_toArray, List.getElem_cons_succ, List.getElem_cons_zero, List.setIfInBounds_toArray, List.set_cons_zero, List.set_cons_succ]
          rw [if_pos (by rfl)]
          obtain ⟨v0, v1, v2, v3, v4⟩ := five hb6
          go_simp
          refine hK.out _ _ trivial (fun hHeld => ?_)
          clear hK K
          try simp only [Act.put, List.getElem_toArray, List.getElem_cons_succ, List.getElem_cons_zero, List.setIfInBounds_toArray, List.set_cons_zero, List.set_cons_succ]
          refine wpAnyH_take (i := 4) (v := .slice p0 wn q0) rfl (by kernel_rfl) (by kernel_rfl) (by kernel_rfl) (fun _ _ _ h => h) (Or.inl ⟨by rfl, fun w' hSw => by go_simp⟩) hHeld ?_
          simp only [Act.put, List.getElem_toArray, List.getElem_cons_succ, List.getElem_cons_zero, List.setIfInBounds_toArray, List.set_cons_zero, List.set_cons_succ]
          refine wpAnyH_take (i := 5) (v := .pointer (some ⟨w3.heap.size, 1, none⟩)) rfl (by kernel_rfl) (by kernel_rfl) (by kernel_rfl) (fun _ _ _ h => h) (Or.inl ⟨by rfl, fun w' hSw => by go_simp⟩) hHeld ?_
          simp only [Act.put, List.getElem_toArray, List.getElem_cons_succ, List.getElem_cons_zero, List.setIfInBounds_toArray, List.set_cons_zero, List.set_cons_succ]
          refine wpAnyH_ready (rs := [6]) (by kernel_rfl) (by simp) ?_
          refine AllReadyH.cons rfl (fun K hK => ?_) AllReadyH.nil
          clear hHeld
          simp only [Act.put, List.getElem_toArray, List.getElem_cons_succ, List.getElem_cons_zero, List.setIfInBounds_toArray, List.set_cons_zero, List.set_cons_succ]
          rw [if_pos (by rfl)]
          obtain ⟨v0, v1, v2, v3, v4⟩ := five hb6
          go_simp
          refine hK.out _ _ trivial (fun hHeld => ?_)
          clear hK K hHeld
          try simp only [Act.put, List.getElem_toArray, List.getElem_cons_succ, List.getElem_cons_zero, List.setIfInBounds_toArray, List.set_cons_zero, List.set_cons_succ]
          refine wpAnyH_done (by kernel_rfl) ?_ _
          go_wp2_with fail
          go_meet
          rw [← HMR.out]
          exact ow_newroot (V := w1) (W := X6.drew) (r := MJ.root.take wn) (OX.drew hX) hbox HO6.out.ge hfar (by rw [List.length_take, Nat.min_eq_left hwl]; exact htk.drew) (fun q hq _ => rfl) (to_drew hbel) (.inl (by rw [x0]; cases p0 <;> rfl))
      case rest =>
      have HD6 : Hid (OwR w1 wc w3.heap.size MR) := hcut
      clear hcut HO6
      obtain ⟨wg, hwg⟩ : ∃ X, X = wc := ⟨_, rfl⟩
      subst hwg
      obtain ⟨val, hX, hbox, hfar⟩ := HD6.out.ex
      have hbel := HD6.out.bel
      obtain ⟨p0, q0, p1, q1, p2, q2, p3, q3, x0, x1, x2, x3⟩ := hX.four'
      have hbx := hbox
      rw [x0, x1, x2, x3] at hbx
      obtain ⟨d0, d1, d2, d3, d4⟩ := five hbx
      have z9 := cells_below n1 hbel hz1
      obtain ⟨z0, z1, z2, z3, z4⟩ := five z9
      have y0 := cells_frozen z9 0; have y1 := cells_frozen z9 1; have y2 := cells_frozen z9 2; have y3 := cells_frozen z9 3; have y4 := cells_frozen z9 4
      have nD1 : ¬ w3.heap.size = w.heap.size + 1 := by omega
      have nD2 : ¬ w.heap.size + 1 = w3.heap.size := by omega
      have hc := countedX_is hX hbel.size HSh.out
      unfold imgV at hc
      rw [x0, x1, x2, x3] at hc
      have HCt : Hid (Calls Try.prog 64 #[.agg #[.int .i64 MR.guest, .slice p0 MR.root.length q0, .slice p1 MR.slots.length q1, .slice p2 MR.refs.length q2, .slice p3 MR.snaps.length q3]] wg fun r w' => ∃ val', r = .returned (imgV MR.guest val') ∧ OX w' w1.heap.size val' (countedD MR) ∧ Below w1.heap.size wg w' ∧ KeepX wg w' MR val ∧ SrcX wg MR val (.slice none 0 0) (countedD MR) val') := hc
      have hzl : w.heap.size + 1 < wg.heap.size := Nat.lt_of_lt_of_le hz1 hbel.size
      have hfz : ∀ a, LiveX MR a → (val a).ownBlock ≠ some (w.heap.size + 1) := fun a ha x => by have := ((hX.row a ha).lt _ x).1; omega
      clear hc
      go_wp2_with (go_at_call 64; refine HCt.out.mono ?_; rintro e7 w7 ⟨val2, rfl, hO7, b7, k7, s7⟩; obtain ⟨u0, v0, u1, v1, u2, v2, u3, v3, j0, j1, j2, j3⟩ := hO7.four'; have k17 := (k7 (w.heap.size + 1) hzl hfz).trans z9; obtain ⟨o0, o1, o2, o3, o4⟩ := five k17; have oo0 := cells_frozen k17 0; have oo1 := cells_frozen k17 1; have oo2 := cells_frozen k17 2; have oo3 := cells_frozen k17 3; have oo4 := cells_frozen k17 4; unfold imgV; rw [j0, j1, j2, j3])
      have hfr : ∀ a, LiveX (countedD MR) a → (val2 a).ownBlock ≠ some (w.heap.size + 1) := fun a ha x => by
        have := ((hO7.row a ha).lt _ x).1
        omega
      have hI := fun x0 x1 x2 x3 x4 => hO7.five hfr x0 x1 x2 x3 x4
      have eI : imgV (countedD MR).guest val2 = .agg #[.int .i64 MR.guest, .slice u0 (countedD MR).root.length v0, .slice u1 (countedD MR).slots.length v1, .slice u2 (countedD MR).refs.length v2, .slice u3 (countedD MR).snaps.length v3] := by unfold imgV; rw [j0, j1, j2, j3]; rfl
      have hB8 : Below w.heap.size w w7 := (Below.on bw hbel).trans (b7.mono (by omega))
      refine bodyPost_ret (v := .tuple #[.agg #[.int .i64 MR.guest, .slice u0 (countedD MR).root.length v0, .slice u1 (countedD MR).slots.length v1, .slice u2 (countedD MR).refs.length v2, .slice u3 (countedD MR).snaps.length v3], .int .i64 0]) (by simp [results, Try.results35, go_sem, o0, o1, o2, o3, o4]) rfl ⟨u0, v0, u1, v1, u2, v2, u3, v3, rfl, fun W' hW => (by have := ((hI _ _ _ _ _).keep (fun q hq _ => hW q (by omega))).img; rw [eI] at this; exact this), below_five hB8 (Nat.le_succ _) _ _ _ _ _⟩
end Go.Proofs.Ytehleeibgkpjmac
/- Contract of the document's ResizeOf, on. -/
namespace Go.Proofs.Ytehleeibgkpjmac
open Go.RowKit Go.Shelf
set_option maxRecDepth 20000
set_option linter.unusedVariables false
set_option linter.unusedSimpArgs false

set_option maxHeartbeats 16000000 in
theorem ro_full (rb ro : Nat) (rc : Nat) (sa : Option Addr) (sc : Nat) (fa : Option Addr) (fc : Nat) (na : Option Addr) (nc : Nat) (m : ImgD) (g : Nat) (w : World) (h : Img w (.agg #[.int .i64 m.guest, .slice (some ⟨rb, ro, none⟩) m.root.length rc, .slice sa m.slots.length sc, .slice fa m.refs.length fc, .slice na m.snaps.length nc]) m) (hC : checkE m = 0) (hg : g ≤ 16) (hrc : ∀ j, j < m.root.length → w.cell? ⟨rb, ro + j, none⟩ = some (.int .i64 (m.root.getD j 0))) (hrl : rb < w.heap.size) (hgo : g % 4 ≠ 0 ∧ g / 4 < m.root.length) (t : Nat) (HT : Hid (m.root.getD (g / 4) 0 = (t : Int) ∧ t < m.slots.length ∧ (tableO m (g / 4)).length = 4)) (HK : Hid (ckE (tableO m (g / 4)) = 0 ∧ (cutR (tableO m (g / 4)) (g % 4)).length = 4)) (HNe : Hid ((cutR (tableO m (g / 4)) (g % 4)) ≠ tableO m (g / 4))) (HRf : Hid (m.refs.length = m.slots.length ∧ m.slots.length ≤ 40)) (HFu : Hid (bareL (cutR (tableO m (g / 4)) (g % 4)) = false ∧ tabN m (g / 4) = 40)) :
    Calls Try.prog 35 #[.agg #[.int .i64 m.guest, .slice (some ⟨rb, ro, none⟩) m.root.length rc, .slice sa m.slots.length sc, .slice fa m.refs.length fc, .slice na m.snaps.length nc], .int .i64 (g : Int)] w (AnsJ w imgZ 7) := by
  have b0 : Below w.heap.size w ((w.alloc (.cells #[.int .i64 m.guest, .slice (some ⟨rb, ro, none⟩) m.root.length rc, .slice sa m.slots.length sc, .slice fa m.refs.length fc, .slice na m.snaps.length nc] 26)).alloc (.cells #[.int .i64 0, .slice none 0 0, .slice none 0 0, .slice none 0 0, .slice none 0 0] 26)) := ((Below.refl _ _).alloc (Nat.le_refl _) _).alloc (by simp) _
  have m0 : ((w.alloc (.cells #[.int .i64 m.guest, .slice (some ⟨rb, ro, none⟩) m.root.length rc, .slice sa m.slots.length sc, .slice fa m.refs.length fc, .slice na m.snaps.length nc] 26)).alloc (.cells #[.int .i64 0, .slice none 0 0, .slice none 0 0, .slice none 0 0, .slice none 0 0] 26)).heap[w.heap.size]? = some (.cells #[.int .i64 m.guest, .slice (some ⟨rb, ro, none⟩) m.root.length rc, .slice sa m.slots.length sc, .slice fa m.refs.length fc, .slice na m.snaps.length nc] 26) := cells_alloc (World.alloc_heap_new _ _) _
  have m1 : ((w.alloc (.cells #[.int .i64 m.guest, .slice (some ⟨rb, ro, none⟩) m.root.length rc, .slice sa m.slots.length sc, .slice fa m.refs.length fc, .slice na m.snaps.length nc] 26)).alloc (.cells #[.int .i64 0, .slice none 0 0, .slice none 0 0, .slice none 0 0, .slice none 0 0] 26)).heap[w.heap.size + 1]? = some (.cells #[.int .i64 0, .slice none 0 0, .slice none 0 0, .slice none 0 0, .slice none 0 0] 26) := by have := World.alloc_heap_new (w.alloc (.cells #[.int .i64 m.guest, .slice (some ⟨rb, ro, none⟩) m.root.length rc, .slice sa m.slots.length sc, .slice fa m.refs.length fc, .slice na m.snaps.length nc] 26)) (.cells #[.int .i64 0, .slice none 0 0, .slice none 0 0, .slice none 0 0, .slice none 0 0] 26); simpa using this
  have hsz : w.heap.size + 1 < ((w.alloc (.cells #[.int .i64 m.guest, .slice (some ⟨rb, ro, none⟩) m.root.length rc, .slice sa m.slots.length sc, .slice fa m.refs.length fc, .slice na m.snaps.length nc] 26)).alloc (.cells #[.int .i64 0, .slice none 0 0, .slice none 0 0, .slice none 0 0, .slice none 0 0] 26)).heap.size := by simp
  have hs := checkE_shape hC
  have I0 := h.below b0
  have hck := checkImage_is I0 hC
  have hd : decide (0 ≤ (g : Int) ∧ (g : Int) ≤ 16) = true := by simp; omega
  have e4 : ((g / 4 : Nat) : Int) = (g : Int) / 4 := by omega
  have e5 : ((g % 4 : Nat) : Int) = (g : Int) % 4 := by omega
  have hq1 : ((g : Int) / 4).toNat = g / 4 := by omega
  have h0q : ¬ (g : Int) / 4 < 0 := by omega
  have h0a : 0 ≤ (g : Int) / 4 := by omega
  have HOw : Hid (∀ W, Below ((w.alloc (.cells #[.int .i64 m.guest, .slice (some ⟨rb, ro, none⟩) m.root.length rc, .slice sa m.slots.length sc, .slice fa m.refs.length fc, .slice na m.snaps.length nc] 26)).alloc (.cells #[.int .i64 0, .slice none 0 0, .slice none 0 0, .slice none 0 0, .slice none 0 0] 26)).heap.size ((w.alloc (.cells #[.int .i64 m.guest, .slice (some ⟨rb, ro, none⟩) m.root.length rc, .slice sa m.slots.length sc, .slice fa m.refs.length fc, .slice na m.snaps.length nc] 26)).alloc (.cells #[.int .i64 0, .slice none 0 0, .slice none 0 0, .slice none 0 0, .slice none 0 0] 26)) W → Calls Try.prog 60 #[.agg #[.int .i64 m.guest, .slice (some ⟨rb, ro, none⟩) m.root.length rc, .slice sa m.slots.length sc, .slice fa m.refs.length fc, .slice na m.snaps.length nc]] W fun r w' => ∃ val, r = .returned (imgV m.guest val) ∧ OX w' W.heap.size val m ∧ Below W.heap.size W w') := fun W hW => ownImage_is (I0.below hW) hs
  have HI0 : Hid (Img ((w.alloc (.cells #[.int .i64 m.guest, .slice (some ⟨rb, ro, none⟩) m.root.length rc, .slice sa m.slots.length sc, .slice fa m.refs.length fc, .slice na m.snaps.length nc] 26)).alloc (.cells #[.int .i64 0, .slice none 0 0, .slice none 0 0, .slice none 0 0, .slice none 0 0] 26)) (.agg #[.int .i64 m.guest, .slice (some ⟨rb, ro, none⟩) m.root.length rc, .slice sa m.slots.length sc, .slice fa m.refs.length fc, .slice na m.snaps.length nc]) m) := I0
  have HP : Hid (checkE m = 0 ∧ shapeE m = 0 ∧ g ≤ 16) := ⟨hC, hs, hg⟩
  have HR0 : Hid (((w.alloc (.cells #[.int .i64 m.guest, .slice (some ⟨rb, ro, none⟩) m.root.length rc, .slice sa m.slots.length sc, .slice fa m.refs.length fc, .slice na m.snaps.length nc] 26)).alloc (.cells #[.int .i64 0, .slice none 0 0, .slice none 0 0, .slice none 0 0, .slice none 0 0] 26)).cell? ⟨rb, ro + g / 4, none⟩ = some (.int .i64 (t : Int)) ∧ rb < ((w.alloc (.cells #[.int .i64 m.guest, .slice (some ⟨rb, ro, none⟩) m.root.length rc, .slice sa m.slots.length sc, .slice fa m.refs.length fc, .slice na m.snaps.length nc] 26)).alloc (.cells #[.int .i64 0, .slice none 0 0, .slice none 0 0, .slice none 0 0, .slice none 0 0] 26)).heap.size) := ⟨by rw [← HT.out.1]; exact (b0.cell (p := ⟨rb, ro + g / 4, none⟩) hrl).trans (hrc (g / 4) hgo.2), Nat.lt_of_lt_of_le hrl b0.size⟩
  clear hrc hrl
  clear h hC hs I0
  go_enter Try.func35, Try.ntmps35
  obtain ⟨c0, c1, c2, c3, c4⟩ := five m0
  go_upto_region 8 with (first
    | (go_at_call 60; refine (HOw.out w1 b1).mono ?_; rintro e3 w3 ⟨val, rfl, hO, b3⟩; obtain ⟨p0, q0, p1, q1, p2, q2, p3, q3, x0, x1, x2, x3⟩ := hO.four'; unfold imgV; rw [x0, x1, x2, x3])
    | (go_at_call 46; refine (within_any _ _ _ _).mono ?_; rintro e2 w' ⟨rfl, hw⟩; rw [hw, hd]; clear hw)
    | (go_at_call 18; refine hck.mono ?_; rintro e1 w1 ⟨rfl, b1⟩; have n0 := cells_below m0 b1 (by omega); obtain ⟨d0, d1, d2, d3, d4⟩ := five n0))
  clear c0 c1 c2 c3 c4
  clear d0 d1 d2 d3 d4
  have hz1 : w.heap.size + 1 < w1.heap.size := Nat.lt_of_lt_of_le hsz b1.size
  have n1 := cells_below m1 b1 hsz
  have bw : Below w.heap.size w w1 := Below.on b0 b1
  have I1 := HI0.out.below b1
  have s3 := b3.size
  have HD0 : Hid (OwR w1 (w3.alloc (.cells #[.int .i64 m.guest, .slice p0 m.root.length q0, .slice p1 m.slots.length q1, .slice p2 m.refs.length q2, .slice p3 m.snaps.length q3] 26)) w3.heap.size m) := ⟨⟨val, hO.alloc _, by rw [x0, x1, x2, x3]; exact World.alloc_heap_new _ _, hO.lt (Nat.le_refl _)⟩, by omega, b3.alloc (by omega) _⟩
  have cR : w1.cell? ⟨rb, ro + g / 4, none⟩ = some (.int .i64 (t : Int)) := (b1.cell (p := ⟨rb, ro + g / 4, none⟩) HR0.out.2).trans HR0.out.1
  have rl1 : rb < w1.heap.size := Nat.lt_of_lt_of_le HR0.out.2 b1.size
  clear hO x0 x1 x2 x3 b0 m0 m1 hck HOw HI0 hsz b1 b3
  have M0 := cells_below n0 HD0.out.bel (by omega)
  obtain ⟨c0, c1, c2, c3, c4⟩ := five M0
  have hDw : w1.heap.size ≤ w3.heap.size := HD0.out.ge
  go_cut [36] from 13 (fun s wx => s = .bool true ∧ Hid (OwR w1 wx w3.heap.size m))
  case first =>
    have g1 : ((g : Int) % 4 != 0) = true := by have := hgo.1; simp; omega
    have g2 : decide ((g : Int) / 4 < (m.root.length : Int)) = true := by have := hgo.2; simp; omega
    go_wp2_with fail; go_meet; exact ⟨rfl, HD0⟩
  case rest =>
  obtain ⟨rfl, HD1⟩ := hcut
  clear HD0 M0 c0 c1 c2 c3 c4
  obtain ⟨wa, hwa⟩ : ∃ X, X = wc := ⟨_, rfl⟩
  subst hwa
  obtain ⟨val, hXa, hboxA, hfar⟩ := HD1.out.ex
  have hbelA := HD1.out.bel
  obtain ⟨p0, q0, p1, q1, p2, q2, p3, q3, x0, x1, x2, x3⟩ := hXa.four'
  have hbxA := hboxA
  rw [x0, x1, x2, x3] at hbxA
  skip
  have MX := cells_below n0 hbelA (by omega)
  have cRa := (hbelA.cell (p := ⟨rb, ro + g / 4, none⟩) rl1).trans cR
  have hri : (g : Int) / 4 < (m.root.length : Int) := by have := hgo.2; omega
  have HTb : Hid (∀ W, Below w1.heap.size w1 W → Calls Try.prog 63 #[.agg #[.int .i64 m.guest, .slice (some ⟨rb, ro, none⟩) m.root.length rc, .slice sa m.slots.length sc, .slice fa m.refs.length fc, .slice na m.snaps.length nc], .int .i64 (t : Int)] W fun r w' => ∃ g' cap, r = .returned (.slice (some ⟨g', 0, none⟩) 4 cap) ∧ w'.ownsRow W.heap.size 3 1 (.slice (some ⟨g', 0, none⟩) 4 cap) 4 (ints (tableO m (g / 4))) ∧ W.heap.size ≤ g' ∧ Below W.heap.size W w') := fun W hW => by
    have e := tabAt_O HT.out.1
    refine (tableOf_is (I1.below hW) HT.out.2.1 (by rw [e, HT.out.2.2]; decide)).mono ?_
    rintro r w' ⟨v, rfl, h1, h2, h3⟩
    rw [e, HT.out.2.2] at h1
    obtain ⟨g', cap, rfl⟩ := row_some h1
    exact ⟨g', cap, rfl, h1, h2 g' rfl, h3⟩
  go_upto_region 9 with fail
  refine wp_region_held_drew (S := (fun X : World => X.heap[w.heap.size]? = some (.cells #[.int .i64 m.guest, .slice (some ⟨rb, ro, none⟩) m.root.length rc, .slice sa m.slots.length sc, .slice fa m.refs.length fc, .slice na m.snaps.length nc] 26) ∧ X.cell? ⟨rb, ro + g / 4, none⟩ = some (.int .i64 (t : Int)))) (by kernel_rfl) ⟨MX, cRa⟩ (fun hHeld => ?_)
  refine wpAnyH_take (i := 0) (v := .agg #[.int .i64 m.guest, .slice (some ⟨rb, ro, none⟩) m.root.length rc, .slice sa m.slots.length sc, .slice fa m.refs.length fc, .slice na m.snaps.length nc]) rfl (by kernel_rfl) (by kernel_rfl) (by kernel_rfl) (fun _ _ _ h => h) (Or.inl ⟨by rfl, fun w' hSw => by obtain ⟨qa, qb⟩ := hSw; obtain ⟨j0, j1, j2, j3, j4⟩ := five qa; go_simp⟩) hHeld ?_
  simp only [Act.put, List.getElem_toArray, List.getElem_cons_succ, List.getElem_cons_zero, List.setIfInBounds_toArray, List.set_cons_zero, List.set_cons_succ]
  refine wpAnyH_take (i := 1) (v := .pointer (some ⟨w.heap.size, 1, none⟩)) rfl (by kernel_rfl) (by kernel_rfl) (by kernel_rfl) (fun _ _ _ h => h) (Or.inl ⟨by rfl, fun w' hSw => by obtain ⟨qa, qb⟩ := hSw; obtain ⟨j0, j1, j2, j3, j4⟩ := five qa; go_simp⟩) hHeld ?_
  simp only [Act.put, List.getElem_toArray, List.getElem_cons_succ, List.getElem_cons_zero, List.setIfInBounds_toArray, List.set_cons_zero, List.set_cons_succ]
  refine wpAnyH_take (i := 2) (v := .slice (some ⟨rb, ro, none⟩) m.root.length rc) rfl (by kernel_rfl) (by kernel_rfl) (by kernel_rfl) (fun _ _ _ h => h) (Or.inl ⟨by rfl, fun w' hSw => by obtain ⟨qa, qb⟩ := hSw; obtain ⟨j0, j1, j2, j3, j4⟩ := five qa; go_simp⟩) hHeld ?_
  simp only [Act.put, List.getElem_toArray, List.getElem_cons_succ, List.getElem_cons_zero, List.setIfInBounds_toArray, List.set_cons_zero, List.set_cons_succ]
  refine wpAnyH_take (i := 3) (v := .int .i64 ((g : Int) / 4)) rfl (by kernel_rfl) (by kernel_rfl) (by kernel_rfl) (fun _ _ _ h => h) (Or.inl ⟨by rfl, fun w' hSw => by obtain ⟨qa, qb⟩ := hSw; obtain ⟨j0, j1, j2, j3, j4⟩ := five qa; go_simp⟩) hHeld ?_
  simp only [Act.put, List.getElem_toArray, List.getElem_cons_succ, List.getElem_cons_zero, List.setIfInBounds_toArray, List.set_cons_zero, List.set_cons_succ]
  refine wpAnyH_take (i := 4) (v := .pointer (some ⟨rb, ro + g / 4, none⟩)) rfl (by kernel_rfl) (by kernel_rfl) (by kernel_rfl) (fun _ _ _ h => h) (Or.inl ⟨by rfl, fun w' hSw => by obtain ⟨qa, qb⟩ := hSw; obtain ⟨j0, j1, j2, j3, j4⟩ := five qa; go_simp⟩) hHeld ?_
  simp only [Act.put, List.getElem_toArray, List.getElem_cons_succ, List.getElem_cons_zero, List.setIfInBounds_toArray, List.set_cons_zero, List.set_cons_succ]
  refine wpAnyH_take (i := 5) (v := .int .i64 (t : Int)) rfl (by kernel_rfl) (by kernel_rfl) (by kernel_rfl) (fun _ _ _ h => h) (Or.inl ⟨by rfl, fun w' hSw => by obtain ⟨qa, qb⟩ := hSw; obtain ⟨j0, j1, j2, j3, j4⟩ := five qa; go_simp⟩) hHeld ?_
  simp only [Act.put, List.getElem_toArray, List.getElem_cons_succ, List.getElem_cons_zero, List.setIfInBounds_toArray, List.set_cons_zero, List.set_cons_succ]
  refine wpAnyH_ready (rs := [6]) (by kernel_rfl) (by simp) ?_
  refine AllReadyH.cons rfl (fun K hK => ?_) AllReadyH.nil
  clear hHeld
  simp only [Act.put, List.getElem_toArray, List.getElem_cons_succ, List.getElem_cons_zero, List.setIfInBounds_toArray, List.set_cons_zero, List.set_cons_succ]
  rw [if_pos (by rfl)]
  go_wp2_with (go_at_call 63; refine (HTb.out _ (to_drew hbelA)).mono ?_; rintro e4' w4 ⟨tg, tc, rfl, hev, hge, b4⟩)
  have b4 : Below wa.heap.size wa w4 := below_drew b4
  have sA := hbelA.size
  have s4 := b4.size
  have MX4 := cells_below MX b4 (by omega)
  have cR4 := (b4.cell (p := ⟨rb, ro + g / 4, none⟩) (Nat.lt_of_lt_of_le rl1 sA)).trans cRa
  refine hK.out _ _ ⟨MX4, cR4⟩ (fun hHeld => ?_)
  clear hK K
  try simp only [Act.put, List.getElem_toArray, List.getElem_cons_succ, List.getElem_cons_zero, List.setIfInBounds_toArray, List.set_cons_zero, List.set_cons_succ]
  refine wpAnyH_take (i := 7) (v := .slice (some ⟨tg, 0, none⟩) 4 tc) rfl (by kernel_rfl) (by kernel_rfl) (by kernel_rfl) (fun _ _ _ h => h) (Or.inl ⟨by rfl, fun w' hSw => by go_simp⟩) hHeld ?_
  simp only [Act.put, List.getElem_toArray, List.getElem_cons_succ, List.getElem_cons_zero, List.setIfInBounds_toArray, List.set_cons_zero, List.set_cons_succ]
  clear hHeld
  refine wpAnyH_done (by kernel_rfl) ?_ _
  have hsl4 : Sl w4 (.slice (some ⟨tg, 0, none⟩) 4 tc) (tableO m (g / 4)) := row_sl (show w4.ownsRow _ 3 1 _ (tableO m (g / 4)).length _ from by rw [HT.out.2.2]; exact hev)
  have hcc := cutOf_own _ _ (g % 4) _ hsl4 HK.out.1 (by omega)
  rw [e5] at hcc
  have HXa : Hid (OX wa w1.heap.size val m ∧ wa.heap[w3.heap.size]? = some (.cells #[.int .i64 m.guest, val .root, val .slots, val .refs, val .snaps] 26) ∧ (∀ a, LiveX m a → (val a).ownBlock ≠ some w3.heap.size) ∧ Below w1.heap.size w1 wa ∧ Below wa.heap.size wa w4) := ⟨hXa, hboxA, hfar, hbelA, b4⟩
  have HXv : Hid (val .root = .slice p0 m.root.length q0 ∧ val .slots = .slice p1 m.slots.length q1 ∧ val .refs = .slice p2 m.refs.length q2 ∧ val .snaps = .slice p3 m.snaps.length q3) := ⟨x0, x1, x2, x3⟩
  clear hXa hboxA hbxA hfar hbelA x0 x1 x2 x3 MX cRa MX4 cR4 HTb hev hge b4
  go_upto_region 13 with (first | (go_at_call 39; refine (sameInts_no hslc hslt (by rw [HK.out.2, HT.out.2.2]) HNe.out).mono ?_; rintro e6 w6 ⟨rfl, b6⟩) | (go_at_call 69; refine hcc.mono ?_; rintro e5' w5 ⟨cg, cc, rfl, hcw, b5⟩; have hslc : Sl w5 (.slice (some ⟨cg, 0, none⟩) 4 cc) (cutR (tableO m (g / 4)) (g % 4)) := row_sl (show w5.ownsRow _ 3 1 _ (cutR (tableO m (g / 4)) (g % 4)).length _ from by rw [HK.out.2]; exact hcw); have hslt := hsl4.below b5))
  have s5 := b5.size
  have s6 := b6.size
  have b46 : Below wa.heap.size wa w6 := ((HXa.out.2.2.2.2).trans (b5.mono s4)).trans (b6.mono (by omega))
  have hX6 : OX w6 w1.heap.size val m := HXa.out.1.below b46
  have hDl : w3.heap.size < wa.heap.size := (Array.getElem?_eq_some_iff.1 HXa.out.2.1).1
  have hbox6 := cells_below HXa.out.2.1 b46 hDl
  have hbel6 : Below w1.heap.size w1 w6 := HXa.out.2.2.2.1.trans (b46.mono sA)
  have hcge : w4.heap.size ≤ cg := (hcw.lt cg rfl).1
  have hrow6 : w6.ownsRow w1.heap.size 3 1 (.slice (some ⟨cg, 0, none⟩) 4 cc) (cutR (tableO m (g / 4)) (g % 4)).length (ints (cutR (tableO m (g / 4)) (g % 4))) := by
    rw [HK.out.2]
    exact row_mono (row_blk hcw (fun q e => b6.block q (by have := (hcw.lt q e).2; omega))) (by omega)
  have hbx := hbox6
  rw [HXv.out.1, HXv.out.2.1, HXv.out.2.2.1, HXv.out.2.2.2] at hbx
  obtain ⟨d0, d1, d2, d3, d4⟩ := five hbx
  have ff0 := cells_frozen hbx 0; have ff1 := cells_frozen hbx 1; have ff2 := cells_frozen hbx 2; have ff3 := cells_frozen hbx 3; have ff4 := cells_frozen hbx 4
  have HKt : Hid (Calls Try.prog 70 #[.agg #[.int .i64 m.guest, .slice p0 m.root.length q0, .slice p1 m.slots.length q1, .slice p2 m.refs.length q2, .slice p3 m.snaps.length q3], .int .i64 ((g : Int) / 4), .slice (some ⟨cg, 0, none⟩) 4 cc] w6 (fun r w' => ∃ g0 a0 b0 c0 a1 b1 c1 a2 b2 c2 a3 b3 c3, r = .returned (.tuple #[.agg #[.int .i64 g0, .slice a0 b0 c0, .slice a1 b1 c1, .slice a2 b2 c2, .slice a3 b3 c3], .bool false]) ∧ Below w1.heap.size w6 w' ∧ KeepX w6 w' m val)) := by
    have hc := tabledX_is m.guest (k := g / 4) hX6 (by omega) hgo.2 HT.out.1 HT.out.2.1 hrow6 (fun a b hb _ q hq x => by have h1 := ((HXa.out.1.row b hb).lt q x).2; have hq : cg = q := Option.some.inj hq; omega) HRf.out.1 HRf.out.2
    rw [e4] at hc
    unfold imgV at hc
    rw [HXv.out.1, HXv.out.2.1, HXv.out.2.2.1, HXv.out.2.2.2] at hc
    exact hc.mono (fun r w' hh => by rcases hh with ⟨_, _, ⟨v, ⟨g0, a0, b0, c0, a1, b1, c1, a2, b2, c2, a3, b3, c3, rfl⟩, rfl⟩, h1, h2⟩ | ⟨hno, _⟩; (exact ⟨g0, a0, b0, c0, a1, b1, c1, a2, b2, c2, a3, b3, c3, rfl, h1, h2⟩); exact absurd HFu.out hno)
  have z6 := cells_below n1 hbel6 hz1
  have nD1 : ¬ w3.heap.size = w.heap.size + 1 := by omega
  have nD2 : ¬ w.heap.size + 1 = w3.heap.size := by omega
  have HZ6 : Hid (w6.heap[w.heap.size + 1]? = some (.cells #[.int .i64 0, .slice none 0 0, .slice none 0 0, .slice none 0 0, .slice none 0 0] 26)) := z6
  have HBx6 : Hid (w6.heap[w3.heap.size]? = some (.cells #[.int .i64 m.guest, .slice p0 m.root.length q0, .slice p1 m.slots.length q1, .slice p2 m.refs.length q2, .slice p3 m.snaps.length q3] 26)) := hbx
  have hb6l : Below w.heap.size w w6 := Below.on bw hbel6
  have HDl6 : Hid (w3.heap.size < w6.heap.size ∧ w.heap.size + 1 < w6.heap.size ∧ w1.heap.size ≤ w6.heap.size ∧ Below w.heap.size w w6) := ⟨by omega, by omega, by omega, hb6l⟩
  clear hbx hbox6 z6 hbel6 hb6l hX6 hrow6 hcw b5 b6 b46 hslc hslt hsl4
  go_wp2_with (go_at_call 70; refine HKt.out.mono ?_; rintro e7 w7 ⟨g0, a0, r0, c0, a1, r1, c1, a2, r2, c2, a3, r3, c3, rfl, b7, k7⟩; have kD7 := (k7 w3.heap.size HDl6.out.1 HXa.out.2.2.1).trans HBx6.out; have kZ7 := (b7.block (w.heap.size + 1) hz1).trans HZ6.out; obtain ⟨k0, k1, k2, k3, k4⟩ := five kD7; have kf0 := cells_frozen kD7 0; have kf1 := cells_frozen kD7 1; have kf2 := cells_frozen kD7 2; have kf3 := cells_frozen kD7 3; have kf4 := cells_frozen kD7 4; obtain ⟨z0, z1, z2, z3, z4⟩ := five kZ7; have y0 := cells_frozen kZ7 0; have y1 := cells_frozen kZ7 1; have y2 := cells_frozen kZ7 2; have y3 := cells_frozen kZ7 3; have y4 := cells_frozen kZ7 4)
  have hB7 : Below w.heap.size w w7 := HDl6.out.2.2.2.trans (b7.mono (by omega))
  refine bodyPost_ret (v := .tuple #[.agg #[.int .i64 0, .slice none 0 0, .slice none 0 0, .slice none 0 0, .slice none 0 0], .int .i64 7]) (by simp [results, Try.results35, go_sem, z0, z1, z2, z3, z4]) rfl ⟨none, 0, none, 0, none, 0, none, 0, rfl, fun W' _ => imgZ_im W', below_five (below_five hB7 (show w.heap.size ≤ w3.heap.size by omega) _ _ _ _ _) (Nat.le_succ _) _ _ _ _ _⟩
end Go.Proofs.Ytehleeibgkpjmac
