/- Contracts of Counts, all ways together; of slices.Equal; of Check and Look. -/
import Derived.Test.YtehleeibgkpjmabCounts
import Derived.Deep.QuietTactic
import Derived.BigQuiet
namespace Go.Proofs.Ytehleeibgkpjmab
open Go.RowKit Go.Shelf
set_option maxRecDepth 20000

def cntL (m : ImgD) : List Int := ((rootsOf m).flatMap (fun s => s.2.2)).foldl (stepC m.slots) (List.replicate m.slots.length 0)
theorem cntL_length (m : ImgD) : (cntL m).length = m.slots.length := by unfold cntL; rw [fold_length]; simp

theorem LAt.sl {W : World} {g n : Nat} {l : List Int} (h : LAt W g l) (hn : l.length = n) (hm : n ≤ maxLen) : Sl W (.slice (some ⟨g, 0, none⟩) n n) l := by
  subst hn
  exact ⟨_, _, rfl, hm, Nat.le_refl _, fun _ => ⟨g, 0, rfl, h.lt, fun j hj => by rw [Nat.zero_add]; exact h.cell hj⟩⟩

/-- What a right shape says. -/
theorem shapeE_zero {m : ImgD} (h : shapeE m = 0) : m.snaps.length ≤ 3 ∧ slotsE m.slots = 0 ∧ m.refs.length = m.slots.length ∧ namesOK m.snaps = true ∧ (rootsOf m).all (fun s => guestOK s.2.1) = true ∧ tabFit m.slots = true ∧ (rootsOf m).all (fun s => rootFit m.slots s.2.1 s.2.2) = true := by
  unfold shapeE at h
  split at h
  · simp at h
  rename_i h1
  split at h
  · rename_i h2; exact absurd h h2
  rename_i h2
  split at h
  · simp at h
  rename_i h3
  split at h
  · simp at h
  rename_i h4
  split at h
  · simp at h
  rename_i h5
  split at h
  · simp at h
  rename_i h6
  refine ⟨by omega, by simpa using h2, ?_, ?_, by simpa using h4, by simpa using h5, by simpa using h6⟩
  · exact Classical.byContradiction fun e => h3 (.inl e)
  · cases e : namesOK m.snaps with
    | true => rfl
    | false => exact absurd (.inr e) h3

theorem counts_own {w : World} {v : Value} {m : ImgD} (h : Img w v m) (hE : shapeE m = 0) :
    Calls Try.prog 26 #[v] w fun e w' => (∃ g, w.heap.size ≤ g ∧ e = .returned (.tuple #[.slice (some ⟨g, 0, none⟩) m.slots.length m.slots.length, .int .i64 0]) ∧ LAt w' g (cntL m)) ∧ Below w.heap.size w w' := by
  obtain ⟨z1, z2, z3, z4, z5, z6, z7⟩ := shapeE_zero hE
  obtain ⟨ra, rc, sa, sc, fa, fc, na, nc, rfl, h1, h2, h3, h4⟩ := h.parts
  have hp := slotsE_parts z2
  have h2' := h2
  obtain ⟨sb, so, sc', e, hcp, hlt, hcell⟩ := h2.open hp.1
  simp at e
  obtain ⟨rfl, rfl⟩ := e
  refine (counts_at m.guest ra _ rc sb so _ sc fa _ fc na _ nc m.root m.slots m.snaps m.refs w h1 h2' h3 h4 rfl hp.2 hlt hcell hE z2 z1 z6 z5 z7).mono fun e w' hr => ⟨?_, hr.2⟩
  obtain ⟨g, hg, e1, e2⟩ := hr.1
  exact ⟨g, hg, e1, e2⟩
theorem counts_ok {w : World} {v : Value} {m : ImgD} (h : Img w v m) (hE : shapeE m = 0) :
    Calls Try.prog 26 #[v] w fun e w' => (∃ lv, e = .returned (.tuple #[lv, .int .i64 0]) ∧ Sl w' lv (cntL m)) ∧ Below w.heap.size w w' := by
  have hp := slotsE_parts (shapeE_zero hE).2.1
  refine (counts_own h hE).mono fun e w' hr => ⟨?_, hr.2⟩
  obtain ⟨g, _, e1, e2⟩ := hr.1
  exact ⟨_, e1, LAt.sl e2 (cntL_length m) (by unfold maxLen; omega)⟩
theorem counts_err {w : World} {v : Value} {m : ImgD} (h : Img w v m) {E : Int} (hE : shapeE m = E) (hne : (E != 0) = true) :
    Calls Try.prog 26 #[v] w fun r w' => r = .returned (.tuple #[.slice none 0 0, .int .i64 E]) ∧ Below w.heap.size w w' := by
  have h' := h
  obtain ⟨ra, rc, sa, sc, fa, fc, na, nc, rfl, _⟩ := h.parts
  exact counts_bad m.guest ra _ rc sa _ sc fa _ fc na _ nc m E w h' hE hne

set_option maxHeartbeats 1000000 in
theorem equal_at (ao bo : Option Addr) (n cap cap' : Nat) (xs ys : List Int) (w : World) (hn : xs.length = n) (hn' : ys.length = n) (hm : n ≤ 9223372036854775807)
    (hc : ∀ j, j < n → ∃ b off, ao = some ⟨b, off, none⟩ ∧ w.cell? ⟨b, off + j, none⟩ = some (.int .i64 (xs.getD j 0))) (hd : ∀ j, j < n → ∃ b off, bo = some ⟨b, off, none⟩ ∧ w.cell? ⟨b, off + j, none⟩ = some (.int .i64 (ys.getD j 0))) :
    Calls Try.prog 51 #[.slice ao n cap, .slice bo n cap'] w fun r w' => r = .returned (.bool (xs == ys)) ∧ Below w.heap.size w w' := by
  have H : Hid (xs.length = n ∧ ys.length = n) := ⟨hn, hn'⟩
  have HC : Hid (∀ j, j < n → ∃ b off, ao = some ⟨b, off, none⟩ ∧ w.cell? ⟨b, off + j, none⟩ = some (.int .i64 (xs.getD j 0))) := hc
  have HD : Hid (∀ j, j < n → ∃ b off, bo = some ⟨b, off, none⟩ ∧ w.cell? ⟨b, off + j, none⟩ = some (.int .i64 (ys.getD j 0))) := hd
  clear hn hn' hc hd
  go_enter Try.func51, Try.ntmps51
  go_wp2
  go_loopw [5, 13] (fun _ i wr => ∃ k : Nat, k ≤ n ∧ i = .int .i64 k ∧ Hid (∀ j, j < k → xs.getD j 0 = ys.getD j 0) ∧ (Below w.heap.size w wr ∧ ∀ a, wr.cell? a = w.cell? a)) (fun _ i _ => n - (intOf i).toNat)
  case atStart => exact ⟨0, Nat.zero_le _, rfl, fun j hj => absurd hj (by omega), Below.refl _ _, fun _ => rfl⟩
  case round =>
    obtain ⟨k, hk, rfl, HA, hbel, hsame⟩ := hrel
    by_cases hlk : k < n
    · obtain ⟨b, off, rfl, c1⟩ := HC.out k hlk
      obtain ⟨b', off', rfl, c2⟩ := HD.out k hlk
      have hki : (k : Int) < (n : Int) := by omega
      obtain ⟨x, hx⟩ : ∃ x, xs.getD k 0 = x := ⟨_, rfl⟩
      obtain ⟨y, hy⟩ : ∃ y, ys.getD k 0 = y := ⟨_, rfl⟩
      rw [hx] at c1
      rw [hy] at c2
      have c1 : wr.cell? ⟨b, off + k, none⟩ = some (.int .i64 x) := (hsame _).trans c1
      have c2 : wr.cell? ⟨b', off' + k, none⟩ = some (.int .i64 y) := (hsame _).trans c2
      have HX : Hid (xs.getD k 0 = x ∧ ys.getD k 0 = y) := ⟨hx, hy⟩
      clear hx hy
      by_cases hxy : x = y
      · have hb : (x != y) = false := by simp [hxy]
        have HXY : Hid (x = y) := hxy
        clear hxy
        go_wp2
        go_region
        go_wp2
        go_roundw
        case rel => exact ⟨k + 1, by omega, by go_num, fun j hj => by
          by_cases e : j = k
          · subst e; rw [HX.out.1, HX.out.2, HXY.out]
          · exact HA.out j (by omega), ⟨hbel.os, hbel.tape, hbel.output, hbel.size, hbel.block⟩, fun a => hsame a⟩
        case measure => simp [intOf]; omega
      · have hb : (x != y) = true := by simp [hxy]
        have HXY : Hid (x ≠ y) := hxy
        clear hxy
        go_wp2
        go_region
        go_wp2
        go_ret
        refine ⟨ret_boolE ?_, ⟨hbel.os, hbel.tape, hbel.output, hbel.size, hbel.block⟩⟩
        symm
        rw [beq_eq_false_iff_ne]
        intro e
        exact HXY.out (by rw [← HX.out.1, ← HX.out.2, e])
    · have e4 : k = n := by omega
      subst e4
      go_wp2
      go_ret
      refine ⟨ret_boolE ?_, hbel⟩
      symm
      rw [beq_iff_eq]
      apply List.ext_getElem
      · rw [H.out.1, H.out.2]
      · intro j h1 h2
        have := HA.out j (by rw [H.out.1] at h1; exact h1)
        simpa [List.getD, h1, h2] using this
end Go.Proofs.Ytehleeibgkpjmab
