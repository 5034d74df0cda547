/- Contract of the document's SplitOf. -/
import Derived.Test.YtehleeibgkpjmaaPgSplit
import Derived.WalkSpells
namespace Go.Proofs.Ytehleeibgkpjmaa
open Go.RowKit
set_option maxRecDepth 20000

theorem splitOf_many (s : ByteArray) (w : World) (h : (64 : Int) < (s.size : Int)) : Calls Try.prog 11 #[.string s] w (AnsS w [] 2) := by
  go_enter Try.func11, Try.ntmps11
  go_wp2
  go_ret2
  exact AnsS.bad _ rfl

/-- How many 0 are wanted still. -/
def wants4 (v : Value) : Nat := (4 - strLen v % 4) % 4

set_option maxHeartbeats 1000000 in
theorem splitOf_few (s : ByteArray) (w : World) (h : s.size ≤ 64) : Calls Try.prog 11 #[.string s] w (AnsS w (splitP (bytes s)) 0) := by
  have g1 : ¬ (64 : Int) < (s.size : Int) := by omega
  obtain ⟨L, hL⟩ : ∃ L, bytes s = L := ⟨_, rfl⟩
  have HL : Hid (bytes s = L) := hL
  have hLn : L.length = s.size := by rw [← hL, bytes_size]
  have HLn : Hid (L.length = s.size) := hLn
  rw [hL]
  clear hL hLn
  go_enter Try.func11, Try.ntmps11
  go_wp2
  go_loop [0] (fun t => ∃ (u : ByteArray) (p : Nat), t = .string u ∧ p ≤ 3 ∧ u.size ≤ 67 ∧ Hid (u.size = s.size + p) ∧ Hid (bytes u = L ++ List.replicate p 0) ∧ Hid (p = 0 ∨ (s.size % 4 ≠ 0 ∧ s.size % 4 + p ≤ 4))) (fun t => wants4 t)
  case atStart => exact ⟨s, 0, rfl, by omega, by omega, rfl, by show _ = _; rw [HL.out]; simp, .inl rfl⟩
  case round =>
    obtain ⟨u, p, rfl, hp, hu, HS, HU, HP⟩ := hrel
    by_cases h4 : u.size % 4 = 0
    · have h4i : ((u.size : Int) % 4 != 0) = false := by simp; omega
      have H4 : Hid (u.size % 4 = 0) := h4
      clear h4
      have HUL : Hid ((bytes u).length = u.size) := bytes_size u
      go_wp2
      go_loopw [4, 5] (fun v i wr => ∃ k q : Nat, q ≤ u.size ∧ i = .int .i64 q ∧ Hid (q = 4 * k) ∧ Hid (wr.ownsRow w.heap.size 9 1 v ((List.range k).map (pageB L)).length (((List.range k).map (pageB L)).map Value.string)) ∧ Below w.heap.size w wr ∧ w.heap.size ≤ wr.heap.size) (fun _ i _ => u.size - (intOf i).toNat)
      case atStart => exact ⟨0, 0, by omega, rfl, rfl, World.ownsRow_nil _ _ _ _, Below.refl _ _, Nat.le_refl _⟩
      case round =>
        obtain ⟨k, q, hk, rfl, HQ, HO, hbel, hB⟩ := hrel
        by_cases hlt : q < u.size
        · have hlt4 : q + 4 ≤ u.size := by have := H4.out; have := HQ.out; omega
          have i1 : (q : Int) < (u.size : Int) := by omega
          have i2 : (q : Int) + 4 ≤ (u.size : Int) := by omega
          have HE : Hid (u.extract q (q + 4) = pageB L k) := by
            apply bytes_inj
            rw [bytes_extract, pageB, bytes_of, ← page_padded HU.out (by rw [HUL.out]; exact H4.out) (by rw [HUL.out, ← HQ.out]; exact hlt) hp, HQ.out]
            congr 1
            omega
          have hk16 : k ≤ 17 := by have := HQ.out; omega
          go_wp2_with (at_builtin; refine app_str (by rfl) _ _ (by rfl) _ ((List.range k).map (pageB L)) _ w.heap.size (by rfl) (by rfl) HO.out (by simp; omega) hB hbel ?_; intro v' w1 HO' hbel' hB')
          go_roundw
          case rel => exact ⟨k + 1, q + 4, by omega, by go_num, by have := HQ.out; show _ = _; omega, by rw [range_snoc, ← HE.out]; exact HO', hbel', hB'⟩
          case measure => simp [intOf]; omega
        · have HE : Hid ((List.range k).map (pageB L) = splitP L) := by
            show _ = _
            unfold splitP countP
            congr 2
            have := HQ.out
            have := HS.out
            have := HLn.out
            have := H4.out
            rcases HP.out with h | h <;> omega
          go_wp2
          go_ret2
          exact ⟨_, rfl, HE.out ▸ Ss_of_owns HO.out, hbel⟩
    · have h4i : ((u.size : Int) % 4 != 0) = true := by simp; omega
      have hp3 : p + 1 ≤ 3 := by
        have := HS.out
        rcases HP.out with h | h
        · omega
        · omega
      have hsz : (u ++ (⟨#[0]⟩ : ByteArray)).size = u.size + 1 := by simp; rfl
      have HSZ : Hid ((u ++ (⟨#[0]⟩ : ByteArray)).size = u.size + 1) := hsz
      clear hsz
      have hone : ((⟨#[0]⟩ : ByteArray).size : Int) ≤ 1 := by decide
      go_wp2
      go_round
      case rel => exact ⟨_, p + 1, rfl, hp3, by rw [HSZ.out]; have := HS.out; omega, by show _ = _; rw [HSZ.out]; have := HS.out; omega, by
        show _ = _
        rw [bytes_append, HU.out, List.replicate_succ', List.append_assoc]; rfl, .inr (by have := HS.out; rcases HP.out with h | h <;> omega)⟩
      case measure => simp only [wants4, strLen]; rw [HSZ.out]; omega

theorem splitOf_any (s : ByteArray) (w : World) (hm : s.size ≤ 9223372036854775807) : Calls Try.prog 11 #[.string s] w (AnsS w (splitA s) (splitE s.size)) := by
  by_cases h : s.size ≤ 64
  · rw [splitA, if_pos h, splitE, if_pos h]; exact splitOf_few s w h
  · rw [splitA, if_neg h, splitE, if_neg h]; exact splitOf_many s w (by omega)
theorem splitOf_is {s : ByteArray} {w : World} (hm : s.size ≤ 9223372036854775807) {ys : List ByteArray} {c : Int} (hy : splitA s = ys) (hc : splitE s.size = c) : Calls Try.prog 11 #[.string s] w (AnsS w ys c) := by subst hy; subst hc; exact splitOf_any s w hm
end Go.Proofs.Ytehleeibgkpjmaa
