/- Texts joined: WrC, SameI. -/
import Derived.Test.YtehleeibgkpjmadWBegunB10
import Derived.Test.YtehleeibgkpjmadWBegunB9
import Derived.Test.YtehleeibgkpjmadWBegunB3
import Derived.Test.YtehleeibgkpjmadWBegunB11
import Derived.Deep.RegionHeld3
/- Written once, a page lies in a place of its own; wiped or punched once, it stays so; a write is refused just if too few slots are left. Plain. -/
namespace Go.Proofs.Ytehleeibgkpjmad
open Go.RowKit Go.Shelf
set_option maxRecDepth 20000
set_option linter.unusedVariables false

/-! ### Too few slots are left -/
theorem count_but {f : Nat → Bool} {t : Nat} : ∀ n, (∀ j, 1 ≤ j → j < n → j ≠ t → f j = true) → n ≤ (List.range n).countP f + (if 0 < n then 1 else 0) + (if t < n then 1 else 0)
  | 0, _ => by simp
  | n + 1, h => by
    have ih := count_but (f := f) (t := t) n (fun j h1 h2 h3 => h j h1 (by omega) h3)
    rw [List.range_succ, List.countP_append]
    by_cases e : n = t
    · subst e
      rw [if_neg (Nat.lt_irrefl _)] at ih
      rw [if_pos (by omega), if_pos (by omega)]
      split at ih <;> omega
    · by_cases e0 : n = 0
      · subst e0
        rw [if_pos (by omega)]
        omega
      · have hf : f n = true := h n (by omega) (by omega) e
        have e1 : [n].countP f = 1 := by simp [hf]
        rw [e1, if_pos (by omega)]
        rw [if_pos (by omega)] at ih
        split at ih
        · rw [if_pos (by omega)]; omega
        · rename_i hlt
          rw [if_neg (by omega)]; omega
theorem used_kd (L : List SlotD) : usedN L = (List.range L.length).countP (fun j => kd L j != 0) := used_range L
theorem full_used {m : ImgD} (hC : checkE m = 0) {n : Nat} (hn : (n : Int) < m.guest) {page : ByteArray} (hW : writeD m n page = none) : 38 ≤ usedN m.slots := by
  have h := checkE_shape hC
  have hr := root_ok h
  have hg := guest_ok h
  have hk : n / 4 < m.root.length := by omega
  have hp := slotsE_parts (shapeE_zero h).2.1
  unfold writeD at hW
  by_cases hi : wInPl m n = true
  · rw [if_pos hi] at hW; cases hW
  rw [if_neg hi] at hW
  rw [used_kd]
  by_cases h1 : tabN m (n / 4) = 40
  · have hg40 : grabN m.slots = 40 := by
      unfold tabN at h1
      by_cases hp2 : inPl m (n / 4) = true
      · rw [if_pos hp2] at h1
        obtain ⟨t, ht, _, htl, _⟩ := inPl_spec hC hk hp2
        rw [ht, Int.toNat_natCast] at h1
        omega
      · rw [if_neg hp2] at h1; exact h1
    obtain ⟨_, b, c, _⟩ := grabN_spec hp.1
    rw [hg40] at b c
    have hl : m.slots.length = 40 := by omega
    have := count_but (f := fun j => kd m.slots j != 0) (t := 40) m.slots.length (fun j h1 h2 _ => by simpa using c j h1 (by omega))
    rw [if_pos (by omega), if_neg (by omega)] at this
    omega
  · rw [if_neg h1] at hW
    by_cases h2 : wD m n = 40
    · obtain ⟨t1, tl, t40, tk, hl⟩ := tabN_spec hC hk h1
      have hle := layS_le (s := ((2, ⟨#[]⟩, tableO m (n / 4)) : SlotD)) tl hp.2 t40
      have hlen : (tabL m (n / 4) (tableO m (n / 4))).length = if tabN m (n / 4) = m.slots.length then m.slots.length + 1 else m.slots.length := layS_length
      obtain ⟨_, b, c, _⟩ := grabN_spec (L := tabL m (n / 4) (tableO m (n / 4))) (by unfold tabL; omega)
      have h2 : grabN (tabL m (n / 4) (tableO m (n / 4))) = 40 := h2
      rw [h2] at b c
      have := count_but (f := fun j => kd m.slots j != 0) (t := tabN m (n / 4)) m.slots.length (fun j h1 h3 h4 => by
        have := c j h1 (by omega)
        unfold tabL at this
        rw [layS_kd tl, if_neg h4] at this
        simpa using this)
      rw [if_pos (by omega)] at this
      rw [hlen] at b
      by_cases et : tabN m (n / 4) = m.slots.length
      · rw [if_pos et] at b
        rw [if_neg (by omega)] at this
        omega
      · rw [if_neg et] at b
        split at this <;> omega
    · rw [if_neg h2] at hW; cases hW

/-! ### Told once -/
theorem count_set_one {l : List Int} {k : Nat} {t : Int} (hk : k < l.length) (h : ∀ i, i < l.length → i ≠ k → l.getD i 0 ≠ t) : (l.set k t).count t = 1 := by
  have h1 : t ∈ l.set k t := List.mem_iff_getElem.2 ⟨k, by rw [List.length_set]; exact hk, by simp⟩
  have hpos := List.count_pos_iff.2 h1
  rcases Nat.lt_or_ge 1 ((l.set k t).count t) with hgt | hle
  · exfalso
    have e : (l.set k t).count t = (l.eraseIdx k).count t + 1 := by
      rw [List.set_eq_take_append_cons_drop, if_pos hk, List.count_append, List.count_cons_self, List.eraseIdx_eq_take_drop_succ, List.count_append]
      omega
    have h2 : 0 < (l.eraseIdx k).count t := by omega
    obtain ⟨i, hi, ei⟩ := List.mem_iff_getElem.1 (List.count_pos_iff.1 h2)
    rw [List.getElem_eraseIdx] at ei
    have hlen : (l.eraseIdx k).length = l.length - 1 := by rw [List.length_eraseIdx, if_pos hk]
    split at ei
    · rename_i hik
      exact h i (by omega) (by omega) (by simp [List.getD, show i < l.length by omega, ei])
    · rename_i hik
      exact h (i + 1) (by omega) (by omega) (by simp [List.getD, show i + 1 < l.length by omega, ei])
  · omega
theorem count_none {l : List Int} {t : Int} (h : t ∉ l) : l.count t = 0 := List.count_eq_zero.2 h
/-- What was written elsewhere lies in place. -/
theorem again_in {m : ImgD} (hC : checkE m = 0) {n : Nat} (hn : (n : Int) < m.guest) (h40 : tabN m (n / 4) ≠ 40) (hd40 : wD m n ≠ 40) {page : ByteArray} (hp : page.size = 4) :
    wInPl (countedD (tabSet m (n / 4) (tabN m (n / 4)) (wL m n page) (rfZ (wL m n page)))) n = true := by
  obtain ⟨hx, hl, hz, hk, d1, d40, hkd, hdt⟩ := write_ext hC hn h40 hd40 hp
  obtain ⟨hL, hpg, _⟩ := write_laid hC hn h40 hd40 hp
  obtain ⟨t1, tl, t40, tk, _⟩ := tabN_spec hC hk h40
  have h := checkE_shape hC
  have hs := (shapeE_zero h).2.1
  obtain ⟨ock, oent⟩ := tableO_ok h hk
  have hlen := ckE_len ock
  obtain ⟨t, ht⟩ : ∃ t, tabN m (n / 4) = t := ⟨_, rfl⟩
  obtain ⟨d, hd⟩ : ∃ d, wD m n = d := ⟨_, rfl⟩
  obtain ⟨T, hT⟩ : ∃ T, tabSet m (n / 4) (tabN m (n / 4)) (wL m n page) (rfZ (wL m n page)) = T := ⟨_, rfl⟩
  have hTs : T.slots = wL m n page := by rw [← hT]; rfl
  have hTr : T.root = m.root.set (n / 4) (t : Int) := by rw [← hT, ← ht]; rfl
  have hTn : T.snaps = m.snaps := by rw [← hT]; rfl
  have es_eq : wEs m n = (tableO m (n / 4)).set (n % 4) (d : Int) := by unfold wEs; rw [hd]
  rw [hT] at hL ⊢
  rw [ht] at hx hl t1 tl t40 hdt
  rw [hd] at d1 d40 hkd hdt
  have hsh := hL.shape
  obtain ⟨z1, z2, z3, z4, z5, z6, z7⟩ := shapeE_zero hsh
  have kdt : kd T.slots t = 2 := by rw [hTs]; unfold kd; rw [hx.tab]
  have kdd : kd T.slots d = 1 := by
    have hdin : (d : Int) ∈ wEs m n := by rw [es_eq]; exact List.mem_iff_getElem.2 ⟨n % 4, by rw [List.length_set]; omega, by simp⟩
    have he := hx.ents _ hdin
    rcases tabE_cases he with e | e | ⟨j, e, _, hkj⟩
    · omega
    · omega
    · have : d = j := by omega
      rw [hTs, this]; exact hkj
  have tlt : t < T.slots.length := kd_lt (by rw [kdt]; decide)
  have dlt : d < T.slots.length := kd_lt (by rw [kdd]; decide)
  have hfl : flatR T = m.root.set (n / 4) (t : Int) ++ m.snaps.flatMap (fun s => s.2.2) := by rw [flatR_app, hTr, hTn]
  -- t is told once
  have ct : (cntL T).getD t 0 = 1 := by
    rw [cntL_get hsh t tlt]
    unfold cntI
    rw [if_neg (by omega), sumT_no z6 _ t1 (by rw [kdt]; decide), hfl, List.count_append, count_set_one hk (fun i hi hne => hl.root i hi hne), count_none]
    · rfl
    · rw [List.mem_flatMap]
      rintro ⟨s, hsm, hm⟩
      exact hl.snap s hsm hm
  -- d is told once
  have cd : (cntL T).getD d 0 = 1 := by
    rw [cntL_get hsh d dlt]
    unfold cntI
    have c0 : (flatR T).count (d : Int) = 0 := count_none (fun hm => by
      have := (told_root hsh hm d1).2.1
      rw [kdd] at this
      cases this)
    have s1 : sumT T.slots (flatR T) (d : Int) = 1 := by
      unfold sumT
      have hz0 : ((List.range T.slots.length).map (fun _ => 0)).sum = 0 := by
        generalize T.slots.length = q
        induction q with
        | zero => rfl
        | succ q ih => rw [List.range_succ, List.map_append, List.sum_append, ih]; rfl
      rw [sum_one (f := fun _ => 0) (k := t) (d := 1) T.slots.length tlt ?_ ?_, hz0]
      · show toldT T.slots (flatR T) d t = 0 + 1
        unfold toldT
        have hm : (t : Int) ∈ flatR T := by rw [hfl]; exact List.mem_append_left _ (List.mem_iff_getElem.2 ⟨n / 4, by rw [List.length_set]; exact hk, by simp⟩)
        rw [if_pos ⟨kdt, hm⟩]
        have etab : tabOf T.slots t = wEs m n := by unfold tabOf; rw [Int.toNat_natCast, hTs, hx.tab]
        rw [etab, es_eq, count_set_one (by omega) (fun i hi _ e => by
          rcases tabE_cases (oent (d : Int) (by rw [← e, getD_at hi]; exact List.getElem_mem hi)) with x | x | ⟨j, x, _, hkj⟩
          · omega
          · omega
          · have : d = j := by omega
            rw [← this, hkd] at hkj
            cases hkj)]
      · intro j hj
        show toldT T.slots (flatR T) d j = 0
        unfold toldT
        by_cases hc : kd T.slots j = 2 ∧ (j : Int) ∈ flatR T
        · rw [if_pos hc]
          refine count_none (fun hm => ?_)
          have hkj : kd m.slots j = 2 := hx.tabs j hj (by rw [← hTs]; exact hc.1)
          have etab : tabOf T.slots j = tabOf m.slots j := by unfold tabOf; rw [Int.toNat_natCast, hTs, hx.keep j hj (by rw [hkj]; decide)]
          rw [etab] at hm
          rcases tab_ent (shapeE_zero h).2.2.2.2.2.1 _ hm with x | x | ⟨i, x, _, hki⟩
          · omega
          · omega
          · have : d = i := by omega
            rw [← this, hkd] at hki
            cases hki
        · rw [if_neg hc]
    rw [if_neg (by omega), c0, s1]
    rfl
  have hroot : (countedD T).root.getD (n / 4) 0 = (t : Int) := by
    show T.root.getD (n / 4) 0 = _
    rw [hTr, getD_setI, if_pos ⟨rfl, hk⟩]
  have hlook : lookV (countedD T) (countedD T).root n = (d : Int) := by
    have e1 := lookV_counted hsh (s := (⟨#[]⟩, T.guest, T.root)) List.mem_cons_self (n := n) (by show n / 4 < T.root.length; rw [hL.rlen]; exact hk)
    have e1 : lookV (countedD T) (countedD T).root n = lookV T T.root n := e1
    rw [e1, hL.look n hk, if_pos rfl, es_eq, set_get (by omega)]
  unfold wInPl inPl
  rw [hlook, hroot, Int.toNat_natCast, Int.toNat_natCast]
  show (decide (0 < (d : Int)) && (((t : Int) != 0) && (cntL T).getD t 0 == 1 && (cntL T).getD d 0 == 1)) = true
  rw [ct, cd]
  simp
  omega
theorem used_setP {L : List SlotD} {e : Nat} {page : ByteArray} (hk : kd L e = 1) : usedN (L.set e (1, page, [])) = usedN L := by
  rw [used_kd, used_kd, List.length_set]
  refine List.countP_congr fun j _ => ?_
  rw [kd_setP hk]
/-- Written twice. -/
theorem wr_again {m : ImgD} {n : Int} {one two : ByteArray} (he : wrE m n one = 0) (h2 : two.size = 4) :
    ∃ e : Nat, kd (wrM m n one).slots e = 1 ∧ wrE (wrM m n one) n two = 0 ∧ wrM (wrM m n one) n two = { wrM m n one with slots := (wrM m n one).slots.set e (1, two, []) } := by
  obtain ⟨hl, hp, hW, hwr⟩ := wr_ok he
  obtain ⟨hC, h0, hn⟩ := lookE_prt hl
  obtain ⟨k, rfl⟩ := Int.eq_ofNat_of_zero_le h0
  rw [Int.toNat_natCast] at hW
  have hin : wInPl (wrM m k one) k = true := by
    unfold writeD at hW
    by_cases hi : wInPl m k = true
    · rw [if_pos hi] at hW
      have hW := Option.some.inj hW
      obtain ⟨e, hE, e1, el, ek, _, _⟩ := inplace_only hC hn hi
      rw [hE, Int.toNat_natCast] at hW
      obtain ⟨_, hlk⟩ := setP_same (page := one) hC ek hp
      rw [← hW]
      have hi2 := hi
      unfold wInPl at hi2 ⊢
      have e3 := hlk m.root k
      show (decide (0 < lookV { m with slots := m.slots.set e (1, one, []) } m.root k) && (inPl m (k / 4) && m.refs.getD (lookV { m with slots := m.slots.set e (1, one, []) } m.root k).toNat 0 == 1)) = true
      rw [e3]
      exact hi2
    · rw [if_neg hi] at hW
      by_cases h1 : tabN m (k / 4) = 40
      · rw [if_pos h1] at hW; cases hW
      · rw [if_neg h1] at hW
        by_cases h3 : wD m k = 40
        · rw [if_pos h3] at hW; cases hW
        · rw [if_neg h3] at hW
          rw [← Option.some.inj hW]
          exact again_in hC hn h1 h3 hp
  have hnM : (k : Int) < (wrM m k one).guest := by rw [hwr.guest]; exact hn
  obtain ⟨e, hE, e1, el, ek, _, _⟩ := inplace_only hwr.right hnM hin
  have hl2 : lookE (wrM m k one) k = 0 := lookE_of hwr.right hnM
  have hW2 : writeD (wrM m k one) k two = some { wrM m k one with slots := (wrM m k one).slots.set e (1, two, []) } := by
    unfold writeD
    rw [if_pos hin, hE, Int.toNat_natCast]
  refine ⟨e, ek, ?_, ?_⟩
  · unfold wrE
    rw [if_neg (by rw [hl2]; simp), if_pos h2, Int.toNat_natCast, hW2]; rfl
  · rw [show wrM (wrM m k one) k two = (if lookE (wrM m k one) k ≠ 0 then imgZ else if two.size = 4 then (writeD (wrM m k one) (k : Int).toNat two).getD imgZ else imgZ) from rfl, if_neg (by rw [hl2]; simp), if_pos h2, Int.toNat_natCast, hW2]; rfl
/-- Wiped, punched twice. -/
theorem pu_again {m : ImgD} {n e : Int} (h01 : e = 0 ∨ e = -1) (he : puE m n e = 0) : puE (puM m n e) n e = 0 ∧ puM (puM m n e) n e = puM m n e := by
  obtain ⟨hl, hP, hwr⟩ := pu_ok h01 he
  obtain ⟨hC, h0, hn⟩ := lookE_prt hl
  obtain ⟨k, rfl⟩ := Int.eq_ofNat_of_zero_le h0
  rw [Int.toNat_natCast] at hP
  have h := checkE_shape hC
  have hr := root_ok h
  have hg := guest_ok h
  have hk : k / 4 < m.root.length := by omega
  have hnM : (k : Int) < (puM m k e).guest := by rw [hwr.guest]; exact hn
  have hl2 : lookE (puM m k e) k = 0 := lookE_of hwr.right hnM
  have hlook : (tableO (puM m k e) (k / 4)).getD (k % 4) 0 = e := by
    rw [← lookV_tableO]
    have hP2 := hP
    unfold putD at hP2
    by_cases hi : (tableO m (k / 4)).getD (k % 4) 0 = e
    · rw [if_pos hi] at hP2
      rw [← Option.some.inj hP2, lookV_tableO]; exact hi
    · rw [if_neg hi] at hP2
      cases ht : tabledD m (k / 4) ((tableO m (k / 4)).set (k % 4) e) with
      | none => rw [ht] at hP2; cases hP2
      | some T =>
        rw [ht, Option.map_some] at hP2
        rw [← Option.some.inj hP2]
        obtain ⟨ock, oent⟩ := tableO_ok h hk
        have hlen := ckE_len ock
        obtain ⟨a, b⟩ := tabled_laid hC hk (set_ck ock (by rcases h01 with rfl | rfl <;> rfl)) (fun x hx => by
          rcases mem_set hx with hx | rfl
          · exact oent x hx
          · rcases h01 with rfl | rfl <;> rfl) (tail_set (tableO_tail h _) hn rfl hr.1 e) ht
        have e1 := lookV_counted a.shape (s := (⟨#[]⟩, T.guest, T.root)) List.mem_cons_self (n := k) (by show k / 4 < T.root.length; rw [a.rlen]; exact hk)
        have e1 : lookV (countedD T) (countedD T).root k = lookV T T.root k := e1
        rw [e1, a.look k hk, if_pos rfl, set_get (by omega)]
  have hP2 : putD (puM m k e) k e = some (puM m k e) := by unfold putD; rw [if_pos hlook]
  constructor
  · unfold puE
    rw [if_pos hl2, Int.toNat_natCast, hP2]; rfl
  · rw [show puM (puM m k e) k e = (if lookE (puM m k e) k = 0 then (putD (puM m k e) (k : Int).toNat e).getD imgZ else imgZ) from rfl, if_pos hl2, Int.toNat_natCast, hP2]; rfl
end Go.Proofs.Ytehleeibgkpjmad
/- Contract of SameImages: of one image, wherever it lies twice. -/
namespace Go.Proofs.Ytehleeibgkpjmad
open Go.RowKit Go.Shelf
set_option maxRecDepth 20000

set_option maxHeartbeats 4000000 in
theorem sameI_at (m : ImgD) (ra : Option Addr) (rc : Nat) (sa : Option Addr) (sc : Nat) (fa : Option Addr) (fc : Nat) (na : Option Addr) (nc : Nat) (rb : Option Addr) (rd : Nat) (sb : Option Addr) (sd : Nat) (fb : Option Addr) (fd : Nat) (nb : Option Addr) (nd : Nat) (w : World)
    (h1 : Sl w (.slice ra m.root.length rc) m.root) (h2 : Slots w (.slice sa m.slots.length sc) m.slots) (h3 : Sl w (.slice fa m.refs.length fc) m.refs) (h4 : Snaps w (.slice na m.snaps.length nc) m.snaps)
    (k1 : Sl w (.slice rb m.root.length rd) m.root) (k2 : Slots w (.slice sb m.slots.length sd) m.slots) (k3 : Sl w (.slice fb m.refs.length fd) m.refs) (k4 : Snaps w (.slice nb m.snaps.length nd) m.snaps) :
    Calls Try.prog 23 #[.agg #[.int .i64 m.guest, .slice ra m.root.length rc, .slice sa m.slots.length sc, .slice fa m.refs.length fc, .slice na m.snaps.length nc], .agg #[.int .i64 m.guest, .slice rb m.root.length rd, .slice sb m.slots.length sd, .slice fb m.refs.length fd, .slice nb m.snaps.length nd]] w fun r w' => r = .returned (.bool true) ∧ Below w.heap.size w w' := by
  have b0 : Below w.heap.size w ((w.alloc (.cells #[.int .i64 m.guest, .slice ra m.root.length rc, .slice sa m.slots.length sc, .slice fa m.refs.length fc, .slice na m.snaps.length nc] 26)).alloc (.cells #[.int .i64 m.guest, .slice rb m.root.length rd, .slice sb m.slots.length sd, .slice fb m.refs.length fd, .slice nb m.snaps.length nd] 26)) := ((Below.refl _ _).alloc (Nat.le_refl _) _).alloc (by simp) _
  have m0 : ((w.alloc (.cells #[.int .i64 m.guest, .slice ra m.root.length rc, .slice sa m.slots.length sc, .slice fa m.refs.length fc, .slice na m.snaps.length nc] 26)).alloc (.cells #[.int .i64 m.guest, .slice rb m.root.length rd, .slice sb m.slots.length sd, .slice fb m.refs.length fd, .slice nb m.snaps.length nd] 26)).heap[w.heap.size]? = some (.cells #[.int .i64 m.guest, .slice ra m.root.length rc, .slice sa m.slots.length sc, .slice fa m.refs.length fc, .slice na m.snaps.length nc] 26) := cells_alloc (World.alloc_heap_new _ _) _
  have m1 : ((w.alloc (.cells #[.int .i64 m.guest, .slice ra m.root.length rc, .slice sa m.slots.length sc, .slice fa m.refs.length fc, .slice na m.snaps.length nc] 26)).alloc (.cells #[.int .i64 m.guest, .slice rb m.root.length rd, .slice sb m.slots.length sd, .slice fb m.refs.length fd, .slice nb m.snaps.length nd] 26)).heap[w.heap.size + 1]? = some (.cells #[.int .i64 m.guest, .slice rb m.root.length rd, .slice sb m.slots.length sd, .slice fb m.refs.length fd, .slice nb m.snaps.length nd] 26) := by have := World.alloc_heap_new (w.alloc (.cells #[.int .i64 m.guest, .slice ra m.root.length rc, .slice sa m.slots.length sc, .slice fa m.refs.length fc, .slice na m.snaps.length nc] 26)) (.cells #[.int .i64 m.guest, .slice rb m.root.length rd, .slice sb m.slots.length sd, .slice fb m.refs.length fd, .slice nb m.snaps.length nd] 26); simpa using this
  obtain ⟨c0, c1, c2, c3, c4⟩ := five m0
  obtain ⟨d0, d1, d2, d3, d4⟩ := five m1
  have HR := same_any (h1.below b0) (k1.below b0)
  have HF := fun W (hW : Below w.heap.size w W) => same_any (h3.below hW) (k3.below hW)
  have HS : Hid (Slots w (.slice sa m.slots.length sc) m.slots ∧ Slots w (.slice sb m.slots.length sd) m.slots ∧ Snaps w (.slice na m.snaps.length nc) m.snaps ∧ Snaps w (.slice nb m.snaps.length nd) m.snaps) := ⟨h2, k2, h4, k4⟩
  have HL : Hid (m.slots.length ≤ 9223372036854775807 ∧ m.snaps.length ≤ 9223372036854775807) := ⟨h2.small, h4.small⟩
  clear h1 h2 h3 h4 k1 k2 k3 k4
  go_enter Try.func23, Try.ntmps23
  go_wp2_with (first
    | (go_at_call 22; refine (HF _ bw1).mono ?_; rintro e w2 ⟨rfl, b2⟩; have m4 := cells_below m2 b2 (Array.getElem?_eq_some_iff.1 m2).1; have m5 := cells_below m3 b2 (Array.getElem?_eq_some_iff.1 m3).1; obtain ⟨g0, g1, g2, g3, g4⟩ := five m4; obtain ⟨i0, i1, i2, i3, i4⟩ := five m5; have bw2 := Below.on bw1 b2)
    | (go_at_call 22; refine HR.mono ?_; rintro e w1 ⟨rfl, b1⟩; have m2 := cells_below m0 b1 (by simp <;> omega); have m3 := cells_below m1 b1 (by simp <;> omega); obtain ⟨e0, e1, e2, e3, e4⟩ := five m2; obtain ⟨f0, f1, f2, f3, f4⟩ := five m3; have bw1 := Below.on b0 b1))
  have HB : Hid (w2.heap[w.heap.size]? = some (.cells #[.int .i64 m.guest, .slice ra m.root.length rc, .slice sa m.slots.length sc, .slice fa m.refs.length fc, .slice na m.snaps.length nc] 26) ∧ w2.heap[w.heap.size + 1]? = some (.cells #[.int .i64 m.guest, .slice rb m.root.length rd, .slice sb m.slots.length sd, .slice fb m.refs.length fd, .slice nb m.snaps.length nd] 26) ∧ Below w.heap.size w w2) := ⟨m4, m5, bw2⟩
  clear c0 c1 c2 c3 c4 d0 d1 d2 d3 d4 e0 e1 e2 e3 e4 f0 f1 f2 f3 f4 g0 g1 g2 g3 g4 i0 i1 i2 i3 i4 m0 m1 m2 m3 m4 m5 b0 b1 b2 bw1 bw2 HR HF
  go_loopw [5] (fun i wr => ∃ k : Nat, k ≤ m.slots.length ∧ i = .int .i64 k ∧ Hid (wr.heap[w.heap.size]? = some (.cells #[.int .i64 m.guest, .slice ra m.root.length rc, .slice sa m.slots.length sc, .slice fa m.refs.length fc, .slice na m.snaps.length nc] 26) ∧ wr.heap[w.heap.size + 1]? = some (.cells #[.int .i64 m.guest, .slice rb m.root.length rd, .slice sb m.slots.length sd, .slice fb m.refs.length fd, .slice nb m.snaps.length nd] 26) ∧ Below w.heap.size w wr)) (fun i _ => m.slots.length - (intOf i).toNat)
  case atStart => exact ⟨0, Nat.zero_le _, rfl, HB⟩
  case round =>
    obtain ⟨k, hk, rfl, HC⟩ := hrel
    obtain ⟨mA, mB, hb⟩ := HC.out
    obtain ⟨c0, c1, c2, c3, c4⟩ := five mA
    obtain ⟨d0, d1, d2, d3, d4⟩ := five mB
    have hL := HL.out.1
    by_cases hlk : k < m.slots.length
    · have hki : (k : Int) < (m.slots.length : Int) := by omega
      have hL1 : (k : Int) + 1 ≤ 9223372036854775807 := by omega
      obtain ⟨pb, po, pc, e, _, hpl, hps⟩ := HS.out.1.open (by omega)
      simp at e
      obtain ⟨rfl, rfl⟩ := e
      obtain ⟨qb, qo, qc, e, _, hql, hqs⟩ := HS.out.2.1.open (by omega)
      simp at e
      obtain ⟨rfl, rfl⟩ := e
      obtain ⟨s, hs⟩ : ∃ s, m.slots[k] = s := ⟨_, rfl⟩
      obtain ⟨kk, dd, tt⟩ := s
      obtain ⟨tv, p0, p1, p2, ps⟩ := hps k hlk
      obtain ⟨uv, q0, q1, q2, qs⟩ := hqs k hlk
      rw [hs] at p0 p1 ps q0 q1 qs
      obtain ⟨ta, tc, rfl⟩ := ps.form
      obtain ⟨ua, uc, rfl⟩ := qs.form
      have p0 : wr.cell? ⟨pb, po + k * 3, none⟩ = some (.int .i64 kk) := (hb.cell (p := ⟨pb, po + k * 3, none⟩) hpl).trans p0
      have p1 : wr.cell? ⟨pb, po + k * 3 + 1, none⟩ = some (.string dd) := (hb.cell (p := ⟨pb, po + k * 3 + 1, none⟩) hpl).trans p1
      have p2 : wr.cell? ⟨pb, po + k * 3 + 1 + 1, none⟩ = some (.slice ta tt.length tc) := (hb.cell (p := ⟨pb, po + k * 3 + 1 + 1, none⟩) hpl).trans p2
      have q0 : wr.cell? ⟨qb, qo + k * 3, none⟩ = some (.int .i64 kk) := (hb.cell (p := ⟨qb, qo + k * 3, none⟩) hql).trans q0
      have q1 : wr.cell? ⟨qb, qo + k * 3 + 1, none⟩ = some (.string dd) := (hb.cell (p := ⟨qb, qo + k * 3 + 1, none⟩) hql).trans q1
      have q2 : wr.cell? ⟨qb, qo + k * 3 + 1 + 1, none⟩ = some (.slice ua tt.length uc) := (hb.cell (p := ⟨qb, qo + k * 3 + 1 + 1, none⟩) hql).trans q2
      have hcall := same_any (w := wr.drew) (ps.below (to_drew hb)) (qs.below (to_drew hb))
      have hpw : pb < wr.heap.size := Nat.lt_of_lt_of_le hpl hb.size
      have hqw : qb < wr.heap.size := Nat.lt_of_lt_of_le hql hb.size
      have HN : Hid (∀ W, Below wr.heap.size wr W → W.heap[w.heap.size]? = some (.cells #[.int .i64 m.guest, .slice ra m.root.length rc, .slice (some ⟨pb, po, none⟩) m.slots.length sc, .slice fa m.refs.length fc, .slice na m.snaps.length nc] 26) ∧ W.heap[w.heap.size + 1]? = some (.cells #[.int .i64 m.guest, .slice rb m.root.length rd, .slice (some ⟨qb, qo, none⟩) m.slots.length sd, .slice fb m.refs.length fd, .slice nb m.snaps.length nd] 26) ∧ Below w.heap.size w W) := fun W hW => ⟨cells_below mA hW (Array.getElem?_eq_some_iff.1 mA).1, cells_below mB hW (Array.getElem?_eq_some_iff.1 mB).1, Below.on hb hW⟩
      have HK : Hid (∀ W, Below wr.heap.size wr W → W.cell? ⟨w.heap.size, 0 + 1 + 1, none⟩ = some (.slice (some ⟨pb, po, none⟩) m.slots.length sc) ∧ W.cell? ⟨w.heap.size + 1, 0 + 1 + 1, none⟩ = some (.slice (some ⟨qb, qo, none⟩) m.slots.length sd) ∧ W.cell? ⟨pb, po + k * 3, none⟩ = some (.int .i64 kk) ∧ W.cell? ⟨pb, po + k * 3 + 1, none⟩ = some (.string dd) ∧ W.cell? ⟨pb, po + k * 3 + 1 + 1, none⟩ = some (.slice ta tt.length tc) ∧ W.cell? ⟨qb, qo + k * 3, none⟩ = some (.int .i64 kk) ∧ W.cell? ⟨qb, qo + k * 3 + 1, none⟩ = some (.string dd) ∧ W.cell? ⟨qb, qo + k * 3 + 1 + 1, none⟩ = some (.slice ua tt.length uc)) := fun W hW => ⟨(hW.cell (p := ⟨w.heap.size, 0 + 1 + 1, none⟩) (Array.getElem?_eq_some_iff.1 mA).1).trans c2, (hW.cell (p := ⟨w.heap.size + 1, 0 + 1 + 1, none⟩) (Array.getElem?_eq_some_iff.1 mB).1).trans d2, (hW.cell (p := ⟨pb, po + k * 3, none⟩) hpw).trans p0, (hW.cell (p := ⟨pb, po + k * 3 + 1, none⟩) hpw).trans p1, (hW.cell (p := ⟨pb, po + k * 3 + 1 + 1, none⟩) hpw).trans p2, (hW.cell (p := ⟨qb, qo + k * 3, none⟩) hqw).trans q0, (hW.cell (p := ⟨qb, qo + k * 3 + 1, none⟩) hqw).trans q1, (hW.cell (p := ⟨qb, qo + k * 3 + 1 + 1, none⟩) hqw).trans q2⟩
      clear hs mA mB ps qs hps hqs
      go_wp2_with fail
      go_region_held3 (fun W => W.cell? ⟨w.heap.size, 0 + 1 + 1, none⟩ = some (.slice (some ⟨pb, po, none⟩) m.slots.length sc) ∧ W.cell? ⟨w.heap.size + 1, 0 + 1 + 1, none⟩ = some (.slice (some ⟨qb, qo, none⟩) m.slots.length sd) ∧ W.cell? ⟨pb, po + k * 3, none⟩ = some (.int .i64 kk) ∧ W.cell? ⟨pb, po + k * 3 + 1, none⟩ = some (.string dd) ∧ W.cell? ⟨pb, po + k * 3 + 1 + 1, none⟩ = some (.slice ta tt.length tc) ∧ W.cell? ⟨qb, qo + k * 3, none⟩ = some (.int .i64 kk) ∧ W.cell? ⟨qb, qo + k * 3 + 1, none⟩ = some (.string dd) ∧ W.cell? ⟨qb, qo + k * 3 + 1 + 1, none⟩ = some (.slice ua tt.length uc)) (first | exact HK.out _ b3 | exact HK.out _ (to_drew (Below.refl _ _)))
        (first | (go_at_call 22; refine hcall.mono ?_; rintro e w3 ⟨rfl, b3⟩; have b3 := below_drew b3))
      go_wp2_with fail
      go_roundw
      case rel => exact ⟨k + 1, by omega, by go_num, HN.out _ b3⟩
      case measure => simp [intOf]; omega
    · have ek : k = m.slots.length := by omega
      subst ek
      obtain ⟨x, hrn⟩ : ∃ X, X = wr := ⟨_, rfl⟩
      subst hrn
      go_wp2_with fail
      clear c0 c1 c2 c3 c4 d0 d1 d2 d3 d4 mA mB hb hL
      go_loopw [6] (fun i wr => ∃ l : Nat, l ≤ m.snaps.length ∧ i = .int .i64 l ∧ Hid (wr.heap[w.heap.size]? = some (.cells #[.int .i64 m.guest, .slice ra m.root.length rc, .slice sa m.slots.length sc, .slice fa m.refs.length fc, .slice na m.snaps.length nc] 26) ∧ wr.heap[w.heap.size + 1]? = some (.cells #[.int .i64 m.guest, .slice rb m.root.length rd, .slice sb m.slots.length sd, .slice fb m.refs.length fd, .slice nb m.snaps.length nd] 26) ∧ Below w.heap.size w wr)) (fun i _ => m.snaps.length - (intOf i).toNat)
      case atStart => exact ⟨0, Nat.zero_le _, rfl, HC⟩
      case round =>
        obtain ⟨l, hl, rfl, HD⟩ := hrel
        obtain ⟨mA, mB, hb⟩ := HD.out
        obtain ⟨c0, c1, c2, c3, c4⟩ := five mA
        obtain ⟨d0, d1, d2, d3, d4⟩ := five mB
        have hL := HL.out.2
        by_cases hll : l < m.snaps.length
        · have hki : (l : Int) < (m.snaps.length : Int) := by omega
          have hL1 : (l : Int) + 1 ≤ 9223372036854775807 := by omega
          obtain ⟨pb, po, pc, e, _, hpl, hps⟩ := HS.out.2.2.1.open (by omega)
          simp at e
          obtain ⟨rfl, rfl⟩ := e
          obtain ⟨qb, qo, qc, e, _, hql, hqs⟩ := HS.out.2.2.2.open (by omega)
          simp at e
          obtain ⟨rfl, rfl⟩ := e
          obtain ⟨s, hs⟩ : ∃ s, m.snaps[l] = s := ⟨_, rfl⟩
          obtain ⟨nm, sg, tt⟩ := s
          obtain ⟨tv, p0, p1, p2, ps⟩ := hps l hll
          obtain ⟨uv, q0, q1, q2, qs⟩ := hqs l hll
          rw [hs] at p0 p1 ps q0 q1 qs
          obtain ⟨ta, tc, rfl⟩ := ps.form
          obtain ⟨ua, uc, rfl⟩ := qs.form
          have p0 : wr.cell? ⟨pb, po + l * 3, none⟩ = some (.string nm) := (hb.cell (p := ⟨pb, po + l * 3, none⟩) hpl).trans p0
          have p1 : wr.cell? ⟨pb, po + l * 3 + 1, none⟩ = some (.int .i64 sg) := (hb.cell (p := ⟨pb, po + l * 3 + 1, none⟩) hpl).trans p1
          have p2 : wr.cell? ⟨pb, po + l * 3 + 1 + 1, none⟩ = some (.slice ta tt.length tc) := (hb.cell (p := ⟨pb, po + l * 3 + 1 + 1, none⟩) hpl).trans p2
          have q0 : wr.cell? ⟨qb, qo + l * 3, none⟩ = some (.string nm) := (hb.cell (p := ⟨qb, qo + l * 3, none⟩) hql).trans q0
          have q1 : wr.cell? ⟨qb, qo + l * 3 + 1, none⟩ = some (.int .i64 sg) := (hb.cell (p := ⟨qb, qo + l * 3 + 1, none⟩) hql).trans q1
          have q2 : wr.cell? ⟨qb, qo + l * 3 + 1 + 1, none⟩ = some (.slice ua tt.length uc) := (hb.cell (p := ⟨qb, qo + l * 3 + 1 + 1, none⟩) hql).trans q2
          have hcall := same_any (w := wr.drew) (ps.below (to_drew hb)) (qs.below (to_drew hb))
          have hpw : pb < wr.heap.size := Nat.lt_of_lt_of_le hpl hb.size
          have hqw : qb < wr.heap.size := Nat.lt_of_lt_of_le hql hb.size
          have HN : Hid (∀ W, Below wr.heap.size wr W → W.heap[w.heap.size]? = some (.cells #[.int .i64 m.guest, .slice ra m.root.length rc, .slice sa m.slots.length sc, .slice fa m.refs.length fc, .slice (some ⟨pb, po, none⟩) m.snaps.length nc] 26) ∧ W.heap[w.heap.size + 1]? = some (.cells #[.int .i64 m.guest, .slice rb m.root.length rd, .slice sb m.slots.length sd, .slice fb m.refs.length fd, .slice (some ⟨qb, qo, none⟩) m.snaps.length nd] 26) ∧ Below w.heap.size w W) := fun W hW => ⟨cells_below mA hW (Array.getElem?_eq_some_iff.1 mA).1, cells_below mB hW (Array.getElem?_eq_some_iff.1 mB).1, Below.on hb hW⟩
          have HK : Hid (∀ W, Below wr.heap.size wr W → W.cell? ⟨w.heap.size, 0 + 1 + 1 + 1 + 1, none⟩ = some (.slice (some ⟨pb, po, none⟩) m.snaps.length nc) ∧ W.cell? ⟨w.heap.size + 1, 0 + 1 + 1 + 1 + 1, none⟩ = some (.slice (some ⟨qb, qo, none⟩) m.snaps.length nd) ∧ W.cell? ⟨pb, po + l * 3, none⟩ = some (.string nm) ∧ W.cell? ⟨pb, po + l * 3 + 1, none⟩ = some (.int .i64 sg) ∧ W.cell? ⟨pb, po + l * 3 + 1 + 1, none⟩ = some (.slice ta tt.length tc) ∧ W.cell? ⟨qb, qo + l * 3, none⟩ = some (.string nm) ∧ W.cell? ⟨qb, qo + l * 3 + 1, none⟩ = some (.int .i64 sg) ∧ W.cell? ⟨qb, qo + l * 3 + 1 + 1, none⟩ = some (.slice ua tt.length uc)) := fun W hW => ⟨(hW.cell (p := ⟨w.heap.size, 0 + 1 + 1 + 1 + 1, none⟩) (Array.getElem?_eq_some_iff.1 mA).1).trans c4, (hW.cell (p := ⟨w.heap.size + 1, 0 + 1 + 1 + 1 + 1, none⟩) (Array.getElem?_eq_some_iff.1 mB).1).trans d4, (hW.cell (p := ⟨pb, po + l * 3, none⟩) hpw).trans p0, (hW.cell (p := ⟨pb, po + l * 3 + 1, none⟩) hpw).trans p1, (hW.cell (p := ⟨pb, po + l * 3 + 1 + 1, none⟩) hpw).trans p2, (hW.cell (p := ⟨qb, qo + l * 3, none⟩) hqw).trans q0, (hW.cell (p := ⟨qb, qo + l * 3 + 1, none⟩) hqw).trans q1, (hW.cell (p := ⟨qb, qo + l * 3 + 1 + 1, none⟩) hqw).trans q2⟩
          clear hs mA mB ps qs hps hqs
          go_wp2_with fail
          go_region_held3 (fun W => W.cell? ⟨w.heap.size, 0 + 1 + 1 + 1 + 1, none⟩ = some (.slice (some ⟨pb, po, none⟩) m.snaps.length nc) ∧ W.cell? ⟨w.heap.size + 1, 0 + 1 + 1 + 1 + 1, none⟩ = some (.slice (some ⟨qb, qo, none⟩) m.snaps.length nd) ∧ W.cell? ⟨pb, po + l * 3, none⟩ = some (.string nm) ∧ W.cell? ⟨pb, po + l * 3 + 1, none⟩ = some (.int .i64 sg) ∧ W.cell? ⟨pb, po + l * 3 + 1 + 1, none⟩ = some (.slice ta tt.length tc) ∧ W.cell? ⟨qb, qo + l * 3, none⟩ = some (.string nm) ∧ W.cell? ⟨qb, qo + l * 3 + 1, none⟩ = some (.int .i64 sg) ∧ W.cell? ⟨qb, qo + l * 3 + 1 + 1, none⟩ = some (.slice ua tt.length uc)) (first | exact HK.out _ b3 | exact HK.out _ (to_drew (Below.refl _ _)))
            (first | (go_at_call 22; refine hcall.mono ?_; rintro e w3 ⟨rfl, b3⟩; have b3 := below_drew b3))
          go_wp2_with fail
          go_roundw
          case rel => exact ⟨l + 1, by omega, by go_num, HN.out _ b3⟩
          case measure => simp [intOf]; omega
        · have el : l = m.snaps.length := by omega
          subst el
          go_wp2_with fail
          go_ret
          exact ⟨rfl, hb⟩
theorem sameI_is {w : World} {v u : Value} {m : ImgD} (h : Img w v m) (k : Img w u m) : Calls Try.prog 23 #[v, u] w fun r w' => r = .returned (.bool true) ∧ Below w.heap.size w w' := by
  obtain ⟨ra, rc, sa, sc, fa, fc, na, nc, rfl, h1, h2, h3, h4⟩ := h.parts
  obtain ⟨rb, rd, sb, sd, fb, fd, nb, nd, rfl, k1, k2, k3, k4⟩ := k.parts
  exact sameI_at m ra rc sa sc fa fc na nc rb rd sb sd fb fd nb nd w h1 h2 h3 h4 k1 k2 k3 k4
end Go.Proofs.Ytehleeibgkpjmad
