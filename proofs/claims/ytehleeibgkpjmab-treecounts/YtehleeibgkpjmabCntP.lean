/- Counts, as data: what goes on while Roots are gone through; and the contract of countPages. -/
import Derived.Test.YtehleeibgkpjmabImg
namespace Go.Proofs.Ytehleeibgkpjmab
open Go.RowKit
set_option maxRecDepth 20000

def inc (l : List Int) (k : Int) : List Int := l.set k.toNat (l.getD k.toNat 0 + 1)
def incE (l : List Int) (e : Int) : List Int := if e = 0 ∨ e = -1 then l else inc l e
def pagesC (l t : List Int) : List Int := t.foldl incE l
def stepC (L : List SlotD) (l : List Int) (k : Int) : List Int := if k = 0 then l else if (inc l k).getD k.toNat 0 = 1 then pagesC (inc l k) (tabOf L k) else inc l k
def Bnd (l : List Int) (B : Nat) : Prop := ∀ j, 0 ≤ l.getD j 0 ∧ l.getD j 0 ≤ (B : Int)

theorem inc_length (l : List Int) (k : Int) : (inc l k).length = l.length := by simp [inc]
theorem incE_length (l : List Int) (k : Int) : (incE l k).length = l.length := by unfold incE; split; rfl; exact inc_length l k
theorem pagesC_length (t : List Int) : ∀ l : List Int, (pagesC l t).length = l.length := by
  induction t with
  | nil => exact fun l => rfl
  | cons e r ih => exact fun l => by show (pagesC (incE l e) r).length = _; rw [ih, incE_length]
theorem stepC_length (L : List SlotD) (l : List Int) (k : Int) : (stepC L l k).length = l.length := by
  unfold stepC
  split
  · rfl
  · split
    · rw [pagesC_length, inc_length]
    · exact inc_length l k
theorem getD_set (l : List Int) (i j : Nat) (x : Int) : (l.set i x).getD j 0 = if i = j ∧ j < l.length then x else l.getD j 0 := by
  by_cases h : i = j
  · subst h
    by_cases hj : i < l.length
    · simp [List.getD, hj]
    · simp [List.getD, hj]
  · simp [List.getD, List.getElem?_set_ne h, h]
theorem Bnd.inc {l : List Int} {B : Nat} (h : Bnd l B) (k : Int) : Bnd (inc l k) (B + 1) := fun j => by
  unfold Go.Proofs.Ytehleeibgkpjmab.inc
  rw [getD_set]
  have h1 := h j
  have h2 := h k.toNat
  split <;> omega
theorem Bnd.mono {l : List Int} {B B' : Nat} (h : Bnd l B) (hB : B ≤ B') : Bnd l B' := fun j => by have := h j; omega
theorem Bnd.incE {l : List Int} {B : Nat} (h : Bnd l B) (k : Int) : Bnd (incE l k) (B + 1) := by
  unfold Go.Proofs.Ytehleeibgkpjmab.incE
  split
  · exact h.mono (by omega)
  · exact h.inc k
theorem Bnd.pagesC : ∀ {t l : List Int} {B : Nat}, Bnd l B → Bnd (pagesC l t) (B + t.length)
  | [], _, _, h => h
  | e :: r, l, B, h => by
    have := Bnd.pagesC (t := r) (h.incE e)
    exact this.mono (by simp; omega)
theorem Bnd.zero (n : Nat) : Bnd (List.replicate n 0) 0 := fun j => by
  by_cases h : j < n <;> simp [List.getD, h]

/-- The list l lies in block g, whole. -/
def LAt (W : World) (g : Nat) (l : List Int) : Prop := W.heap[g]? = some (.cells (l.map (Value.int .i64)).toArray 3)
theorem LAt.cell {W : World} {g : Nat} {l : List Int} (h : LAt W g l) {j : Nat} (hj : j < l.length) : W.cell? ⟨g, j, none⟩ = some (.int .i64 (l.getD j 0)) := by
  have h' : W.heap[g]? = some (.cells (l.map (Value.int .i64)).toArray 3) := h
  simp [World.cell?, h', List.getD, hj]
theorem LAt.frozen {W : World} {g : Nat} {l : List Int} (h : LAt W g l) (j : Nat) : W.frozen? ⟨g, j, none⟩ = false := by
  have h' : W.heap[g]? = some (.cells (l.map (Value.int .i64)).toArray 3) := h
  simp [World.frozen?, h']
theorem LAt.lt {W : World} {g : Nat} {l : List Int} (h : LAt W g l) : g < W.heap.size := (Array.getElem?_eq_some_iff.1 h).1
theorem LAt.set {W : World} {g : Nat} {l : List Int} (h : LAt W g l) (j : Nat) (x : Int) : LAt (W.setCell ⟨g, j, none⟩ (.int .i64 x)) g (l.set j x) := by
  obtain ⟨hlt, hk⟩ := Array.getElem?_eq_some_iff.1 h
  show (W.heap.modify g _)[g]? = _
  rw [Array.getElem?_eq_getElem (by rw [Array.size_modify]; exact hlt), Array.getElem_modify_self, hk]
  simp [List.map_set]

/-- Nothing but block g has turned. -/
structure Only (g : Nat) (W W' : World) : Prop where
  os : W'.os = W.os
  tape : W'.tape = W.tape
  output : W'.output = W.output
  size : W'.heap.size = W.heap.size
  block : ∀ k, k ≠ g → W'.heap[k]? = W.heap[k]?
theorem Only.refl (g : Nat) (W : World) : Only g W W := ⟨rfl, rfl, rfl, rfl, fun _ _ => rfl⟩
theorem Only.trans {g : Nat} {A B C : World} (h : Only g A B) (k : Only g B C) : Only g A C := ⟨k.os.trans h.os, k.tape.trans h.tape, k.output.trans h.output, k.size.trans h.size, fun j hj => (k.block j hj).trans (h.block j hj)⟩
theorem Only.set (g : Nat) (W : World) (j : Nat) (v : Value) : Only g W (W.setCell ⟨g, j, none⟩ v) := by
  have hb := fun n (h : n ≤ g) => (Below.refl n W).setCell (p := ⟨g, j, none⟩) h v
  refine ⟨(hb 0 (Nat.zero_le _)).os, (hb 0 (Nat.zero_le _)).tape, (hb 0 (Nat.zero_le _)).output, by show (W.heap.modify g _).size = _; simp, fun k hk => ?_⟩
  show (W.heap.modify g _)[k]? = _
  rw [Array.getElem?_modify, if_neg (fun e => hk e.symm)]
theorem Only.below {g n : Nat} {W W' : World} (h : Only g W W') (hn : n ≤ g) : Below n W W' := ⟨h.os, h.tape, h.output, Nat.le_of_eq h.size.symm, fun k hk => h.block k (by omega)⟩

set_option maxHeartbeats 1000000 in
theorem countPages_at (g n : Nat) (l : List Int) (ta : Option Addr) (tn tc : Nat) (xs : List Int) (B : Nat) (w w0 : World) (hl : l.length = n) (_hn : n ≤ 40) (hxn : xs.length = tn) (htn : tn ≤ 4) (hB : B ≤ 1000000) (hL : LAt w g l) (hbd : Bnd l B)
    (hb : Below w0.heap.size w0 w) (hg : w0.heap.size ≤ g) (ht : Sl w0 (.slice ta tn tc) xs) (hx : ∀ e ∈ xs, e = 0 ∨ e = -1 ∨ (1 ≤ e ∧ e < (n : Int))) :
    Calls Try.prog 49 #[.slice (some ⟨g, 0, none⟩) n n, .slice ta tn tc] w fun r w' => (∃ v, r = .returned v) ∧ LAt w' g (pagesC l xs) ∧ Only g w w' := by
  have hcl := ht.cells
  obtain ⟨_, _, _, hcc⟩ := hcl
  have HC : Hid (∀ j, j < tn → ∃ b off, ta = some ⟨b, off, none⟩ ∧ b < w0.heap.size ∧ w0.cell? ⟨b, off + j, none⟩ = some (.int .i64 (xs.getD j 0))) := hcc
  have HX : Hid (∀ e ∈ xs, e = 0 ∨ e = -1 ∨ (1 ≤ e ∧ e < (n : Int))) := hx
  have HT : Hid (xs.length = tn) := hxn
  have HLn : Hid (l.length = n) := hl
  have HB : Hid (Bnd l B) := hbd
  have HL : Hid (LAt w g l) := hL
  clear hcc hx hxn hl hbd hL ht
  go_enter Try.func49, Try.ntmps49
  go_wp2
  go_loopw [5, 8] (fun _ i wr => ∃ k : Nat, k ≤ tn ∧ i = .int .i64 k ∧ Hid (LAt wr g (pagesC l (xs.take k))) ∧ Only g w wr) (fun _ i _ => tn - (intOf i).toNat)
  case atStart => exact ⟨0, Nat.zero_le _, rfl, HL, Only.refl _ _⟩
  case round =>
    obtain ⟨k, hk, rfl, HLk, hon⟩ := hrel
    by_cases hlk : k < tn
    · obtain ⟨b, off, rfl, hlt, hcell⟩ := HC.out k hlk
      have hki : (k : Int) < (tn : Int) := by omega
      obtain ⟨x, hxx⟩ : ∃ x, x = xs.getD k 0 := ⟨_, rfl⟩
      rw [← hxx] at hcell
      have c1 : wr.cell? ⟨b, off + k, none⟩ = some (.int .i64 x) := ((hon.below hg).cell (p := ⟨b, off + k, none⟩) hlt).trans ((hb.cell (p := ⟨b, off + k, none⟩) hlt).trans hcell)
      have hkx : k < xs.length := by rw [HT.out]; exact hlk
      have hxm : x ∈ xs := by rw [hxx]; simp [List.getD, hkx]
      have HS : Hid (pagesC l (xs.take (k + 1)) = incE (pagesC l (xs.take k)) x) := by
        show _ = _
        have e : xs.getD k 0 = xs[k] := by simp [List.getD, hkx]
        unfold pagesC
        rw [List.take_add_one, List.getElem?_eq_getElem hkx, Option.toList_some, List.foldl_append, hxx, e]
        rfl
      have hcase := HX.out x hxm
      clear hxx hcell hkx hxm
      by_cases h0 : x = 0
      · have h0' : (x != 0) = false := by simp [h0]
        have H0 : Hid (x = 0) := h0
        clear h0 hcase
        go_wp2
        go_roundw
        case rel => exact ⟨k + 1, by omega, by go_num, by show LAt _ _ _; rw [HS.out]; unfold incE; rw [if_pos (.inl H0.out)]; exact HLk.out, hon⟩
        case measure => simp [intOf]; omega
      by_cases h1 : x = -1
      · have h0' : (x != 0) = true := by simp [h0]
        have h1' : (x != -1) = false := by simp [h1]
        have H0 : Hid (x = -1) := h1
        clear h0 h1 hcase
        go_wp2
        go_roundw
        case rel => exact ⟨k + 1, by omega, by go_num, by show LAt _ _ _; rw [HS.out]; unfold incE; rw [if_pos (.inr H0.out)]; exact HLk.out, hon⟩
        case measure => simp [intOf]; omega
      · have h0' : (x != 0) = true := by simp [h0]
        have h1' : (x != -1) = true := by simp [h1]
        obtain ⟨j, rfl⟩ : ∃ j : Nat, x = j := ⟨x.toNat, by omega⟩
        have hjn : j < n := by omega
        obtain ⟨q, hq⟩ : ∃ q, q = (pagesC l (xs.take k)).getD j 0 := ⟨_, rfl⟩
        have hlen : (pagesC l (xs.take k)).length = n := by rw [pagesC_length, HLn.out]
        have cq : wr.cell? ⟨g, j, none⟩ = some (.int .i64 q) := by rw [hq]; exact HLk.out.cell (by rw [hlen]; exact hjn)
        have fq : wr.frozen? ⟨g, j, none⟩ = false := HLk.out.frozen j
        have hqb : 0 ≤ q ∧ q ≤ 1000004 := by
          have := (HB.out.pagesC (t := xs.take k)) j
          have h4 : (xs.take k).length ≤ 4 := by have := HT.out; simp; omega
          rw [← hq] at this
          omega
        have HQ : Hid (LAt (wr.setCell ⟨g, j, none⟩ (.int .i64 (q + 1))) g (pagesC l (xs.take (k + 1)))) := by
          show LAt _ _ _
          rw [HS.out]
          unfold incE
          rw [if_neg (by rintro (h | h); exact h0 h; exact h1 h)]
          have := HLk.out.set j (q + 1)
          unfold inc
          rw [Int.toNat_natCast, ← hq]
          exact this
        have hji : (j : Int) < (n : Int) := by omega
        have hq1 := hqb.1
        have hq2 := hqb.2
        clear h0 h1 hcase hq hqb hlen
        go_wp2
        go_roundw
        case rel => exact ⟨k + 1, by omega, by go_num, HQ, hon.trans (Only.set g wr j _)⟩
        case measure => simp [intOf]; omega
    · have e4 : k = tn := by omega
      subst e4
      have HE : Hid (LAt wr g (pagesC l xs)) := by
        show LAt _ _ _
        have := HLk.out
        rwa [List.take_of_length_le (by rw [HT.out]; exact Nat.le_refl _)] at this
      go_wp2
      go_end0
      exact ⟨⟨_, rfl⟩, HE.out, hon⟩
end Go.Proofs.Ytehleeibgkpjmab
