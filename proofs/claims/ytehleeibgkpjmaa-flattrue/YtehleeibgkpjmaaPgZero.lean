/- Contracts of zeros and Zero; the law of an append of one string. -/
import Derived.Test.YtehleeibgkpjmaaPChk
import Derived.Test.YtehleeibgkpjmaaZ4
import Derived.Test.YtehleeibgkpjmaaPgPlain
import Derived.Test.YtehleeibgkpjmaaShelf
namespace Go.Proofs.Ytehleeibgkpjmaa
open Go.RowKit
set_option maxRecDepth 20000

theorem zeros_any (n : Nat) (w : World) (hn : n ≤ 4) : Calls Try.prog 36 #[.int .i64 n] w fun r w' => r = .returned (.string (ofBytes (List.replicate n 0))) ∧ Below w.heap.size w w' := by
  have h := Try.strings_Repeat ⟨#[0]⟩ n w (by omega) (by show 1 * n ≤ _; omega)
  rw [show (⟨#[0]⟩ : ByteArray).data.toList = [0] from rfl, repeat_zero] at h
  have HH : Hid (Calls Try.prog 47 #[.string ⟨#[0]⟩, .int .i64 n] w fun e w' => e = .returned (.string (ofBytes (List.replicate n 0))) ∧ Below w.heap.size w w') := h
  clear h
  go_enter Try.func36, Try.ntmps36
  go_wp2_with (go_at_call 47; refine (HH.out).mono ?_; rintro e w1 ⟨rfl, b1⟩)
  go_ret
  exact ⟨rfl, b1⟩

/-- How long is the text in a slot? -/
def strLen : Value → Nat | .string s => s.size | _ => 0
theorem zero_any (w : World) : Calls Try.prog 16 #[] w fun r w' => r = .returned (.string Z4) ∧ Below w.heap.size w w' := by
  go_enter Try.func16, Try.ntmps16
  go_wp2_with (go_at_call 36; refine (zeros_any 4 _ (by omega)).mono ?_; rintro e w1 ⟨rfl, b1⟩)
  go_ret
  exact ⟨rfl, b1⟩

theorem Try.info9 : (Try.prog.info? 9).map (fun i => (i.zero, i.size, i.bytes)) = some (some (.string ByteArray.empty), 1, 16) := by kernel_rfl

theorem Ss_of_owns {w : World} {base n : Nat} {v : Value} {xs : List ByteArray} (h : w.ownsRow base 9 1 v n (xs.map Value.string)) : Ss w v xs := by
  have hl : xs.length = n := by have := h.1; simpa using this
  have h' := h
  rcases h.2 with ⟨rfl, rfl⟩ | ⟨g, cap, cur, rfl, _⟩
  · have : xs = [] := List.eq_nil_of_length_eq_zero hl
    subst this
    exact Ss.nil w
  · exact Ss_of_own h'

theorem one_new (w : World) (y : ByteArray) : ∀ (j : Nat) (u : Value), [Value.string y][j]? = some u → (w.alloc (.cells #[.string y] 9)).cell? ((⟨w.heap.size, 0, none⟩ : Addr).add j) = some u := by
  intro j u hj
  match j, hj with
  | 0, hj =>
    simp at hj
    subst hj
    rw [addr_add, World.cell?_alloc_at _ _ _ _ rfl]
    rfl

/-- 'l = append(l, y)' of one string, l nil or the call's own, at its call in a walk. -/
theorem app_str {w0 w : World} {ops : Array Oper} {rest : List Oper} {o : Oper} {a : Act} {Q : Exit → Act → World → Prop} (hgd : o.guard = none) (s x : Operand)
    (ho : o.op = .call { callee := .builtin .append, args := #[s, x], argTypes := #[22, 22] }) (v : Value) (xs : List ByteArray) (y : ByteArray) (B : Nat) (hs : a.eval s = v) (hx : a.eval x = .slice (some ⟨w.heap.size, 0, none⟩) 1 1)
    (hown : w.ownsRow B 9 1 v xs.length (xs.map Value.string)) (hl : xs.length ≤ 1000) (hB : B ≤ w.heap.size) (hbel : Below B w0 w)
    (h : ∀ v' w', Hid (w'.ownsRow B 9 1 v' (xs ++ [y]).length ((xs ++ [y]).map Value.string)) → Below B w0 w' → B ≤ w'.heap.size → wpList Try.prog ops Q rest (a.put o.dst v') w') :
    wpList Try.prog ops Q (o :: rest) a (w.alloc (.cells #[.string y] 9)) := by
  obtain ⟨i0, hi, hz0, hz1, hz2⟩ := info_parts Try.info9
  refine wpList_append_own (w.alloc (.cells #[.string y] 9)) hgd s x 22 ho B 9 i0 (.string ByteArray.empty) 1 16 Try.underlying22 hi hz0 hz1 hz2 rfl (by decide) v xs.length _ hs (hown.alloc _) ⟨w.heap.size, 0, none⟩ 1 1 [.string y] hx rfl (one_new w y) (by intro u hu; simp at hu; subst hu; rfl) (by unfold maxLen; omega) (by omega) (by simp; omega) ?_
  intro v' w' hown' hgrow _
  have hz : w.heap.size ≤ w'.heap.size := Nat.le_trans (by simp) hgrow.size
  refine h v' w' ?_ ((hbel.alloc hB _).grown hgrow (by simp; omega) ?_) (Nat.le_trans hB hz)
  · show w'.ownsRow _ _ _ _ _ _
    rw [List.map_append, List.length_append]; exact hown'
  · intro k hk
    exact (hown.lt k hk).1
end Go.Proofs.Ytehleeibgkpjmaa
