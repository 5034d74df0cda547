/- Contracts of Patch and of the document's PatchOf. -/
import Derived.Test.YtehleeibgkpjmaaPChk
import Derived.Test.YtehleeibgkpjmaaWithin
import Derived.Test.YtehleeibgkpjmaaPgPlain
import Derived.WalkSpells
namespace Go.Proofs.Ytehleeibgkpjmaa
open Go.RowKit
set_option maxRecDepth 20000

def patchE (page : ByteArray) (i : Int) (s : ByteArray) : Int := if page.size = 4 then (if 0 ≤ i ∧ i ≤ 4 ∧ (s.size : Int) ≤ 4 - i then 0 else 3) else 1
def patchR (page : ByteArray) (i : Nat) (s : ByteArray) : ByteArray := page.extract 0 i ++ s ++ page.extract (i + s.size) page.size
def patchB (page : ByteArray) (i : Int) (s : ByteArray) : ByteArray := if patchE page i s = 0 then patchR page i.toNat s else ByteArray.empty

def AnsP (w : World) (p : ByteArray) (err : Int) (r : Ending) (w' : World) : Prop := r = .returned (.tuple #[.string p, .int .i64 err]) ∧ Below w.heap.size w w'


set_option maxHeartbeats 1000000 in
theorem patch_yes (page : ByteArray) (i : Nat) (s : ByteArray) (w : World) (hp : page.size = 4) (hi : i + s.size ≤ 4) (R : ByteArray) (hR : patchR page i s = R) :
    Calls Try.prog 19 #[.string page, .int .i64 i, .string s] w (AnsP w R 0) := by
  have HR : Hid (patchR page i s = R) := hR
  have hd : decide (page.size = 4) = true := by simp [hp]
  have hd' : ((page.size : Int) != 4) = false := by simp [hp]
  have p1 : (page.size : Int) ≤ 4 := by omega
  have p2 : (4 : Int) ≤ (page.size : Int) := by omega
  have q1 : (i : Int) + (s.size : Int) ≤ 4 := by omega
  have q2 : (i : Int) ≤ 4 := by omega
  have q3 : decide ((i : Int) < 0) = false := by simp
  have q4 : decide ((4 : Int) < (i : Int)) = false := by simp; omega
  have q5 : decide ((4 : Int) - (i : Int) < (s.size : Int)) = false := by simp; omega
  have q6 : decide ((0 : Int) ≤ (i : Int) ∧ (i : Int) ≤ 4) = true := by simp; omega
  clear hR hp hi
  go_enter Try.func19, Try.ntmps19
  go_wp2_with (go_at_call 38; refine (isPage_any _ _).mono ?_; rintro e w' ⟨rfl, hw⟩; subst hw; rw [hd])
  go_quiet (fail)
  go_wp2
  go_ret2
  exact ⟨by rw [← HR.out]; rfl, below_drewN (Below.refl _ _) _⟩

theorem patch_none (page : ByteArray) (i : Int) (s : ByteArray) (w : World) (hp : page.size ≠ 4) :
    Calls Try.prog 19 #[.string page, .int .i64 i, .string s] w (AnsP w ByteArray.empty 1) := by
  have hd : decide (page.size = 4) = false := by simp [hp]
  have hd' : ((page.size : Int) != 4) = true := by simp; omega
  go_enter Try.func19, Try.ntmps19
  go_wp2_with (go_at_call 38; refine (isPage_any _ _).mono ?_; rintro e w' ⟨rfl, hw⟩; subst hw; rw [hd])
  go_ret2
  exact ⟨rfl, Below.refl _ _⟩

set_option maxHeartbeats 1000000 in
theorem patch_out (page : ByteArray) (i : Int) (s : ByteArray) (w : World) (hp : page.size = 4) (hi : ¬ (0 ≤ i ∧ i ≤ 4 ∧ (s.size : Int) ≤ 4 - i)) :
    Calls Try.prog 19 #[.string page, .int .i64 i, .string s] w (AnsP w ByteArray.empty 3) := by
  have hd : decide (page.size = 4) = true := by simp [hp]
  have hd' : ((page.size : Int) != 4) = false := by simp [hp]
  clear hp
  by_cases h0 : i < 0
  · have q3 : decide (i < 0) = true := by simp [h0]
    have q6 : decide ((0 : Int) ≤ i ∧ i ≤ 4) = false := by simp; omega
    clear hi
    go_enter Try.func19, Try.ntmps19
    go_wp2_with (go_at_call 38; refine (isPage_any _ _).mono ?_; rintro e w' ⟨rfl, hw⟩; subst hw; rw [hd])
    go_ret2
    exact ⟨rfl, Below.refl _ _⟩
  by_cases h4 : 4 < i
  · have q3 : decide (i < 0) = false := by simp; omega
    have q4 : decide (4 < i) = true := by simp [h4]
    have q6 : decide ((0 : Int) ≤ i ∧ i ≤ 4) = false := by simp; omega
    clear hi
    go_enter Try.func19, Try.ntmps19
    go_wp2_with (go_at_call 38; refine (isPage_any _ _).mono ?_; rintro e w' ⟨rfl, hw⟩; subst hw; rw [hd])
    go_ret2
    exact ⟨rfl, Below.refl _ _⟩
  · have h5 : 4 - i < (s.size : Int) := by omega
    have q3 : decide (i < 0) = false := by simp; omega
    have q4 : decide (4 < i) = false := by simp; omega
    have q5 : decide (4 - i < (s.size : Int)) = true := by simp [h5]
    have q6 : decide ((0 : Int) ≤ i ∧ i ≤ 4) = true := by simp; omega
    clear hi
    go_enter Try.func19, Try.ntmps19
    go_wp2_with (go_at_call 38; refine (isPage_any _ _).mono ?_; rintro e w' ⟨rfl, hw⟩; subst hw; rw [hd])
    go_ret2
    exact ⟨rfl, Below.refl _ _⟩

theorem patch_any (page : ByteArray) (i : Int) (s : ByteArray) (w : World) :
    Calls Try.prog 19 #[.string page, .int .i64 i, .string s] w (AnsP w (patchB page i s) (patchE page i s)) := by
  by_cases hp : page.size = 4
  · by_cases hi : 0 ≤ i ∧ i ≤ 4 ∧ (s.size : Int) ≤ 4 - i
    · have e : patchE page i s = 0 := by unfold patchE; rw [if_pos hp, if_pos hi]
      have e2 : patchB page i s = patchR page i.toNat s := by unfold patchB; rw [if_pos e]
      rw [e, e2]
      obtain ⟨n, rfl⟩ := Int.eq_ofNat_of_zero_le hi.1
      rw [Int.toNat_natCast]
      exact patch_yes page n s w hp (by omega) _ rfl
    · have e : patchE page i s = 3 := by unfold patchE; rw [if_pos hp, if_neg hi]
      have e2 : patchB page i s = ByteArray.empty := by unfold patchB; rw [if_neg (by omega)]
      rw [e, e2]
      exact patch_out page i s w hp hi
  · have e : patchE page i s = 1 := by unfold patchE; rw [if_neg hp]
    have e2 : patchB page i s = ByteArray.empty := by unfold patchB; rw [if_neg (by omega)]
    rw [e, e2]
    exact patch_none page i s w hp
theorem patch_is {page : ByteArray} {i : Int} {s : ByteArray} {w : World} {p : ByteArray} {c : Int} (hp : patchB page i s = p) (hc : patchE page i s = c) :
    Calls Try.prog 19 #[.string page, .int .i64 i, .string s] w (AnsP w p c) := by subst hp; subst hc; exact patch_any page i s w

set_option maxHeartbeats 1000000 in
theorem patchOf_yes (page : ByteArray) (i : Nat) (s : ByteArray) (w : World) (hp : page.size = 4) (hi : i + s.size ≤ 4) (R : ByteArray) (hR : patchR page i s = R) :
    Calls Try.prog 20 #[.string page, .int .i64 i, .string s] w (AnsP w R 0) := by
  have HR : Hid (patchR page i s = R) := hR
  have hd : decide (page.size = 4) = true := by simp [hp]
  have hd' : ((page.size : Int) != 4) = false := by simp [hp]
  have p1 : (page.size : Int) ≤ 4 := by omega
  have p2 : (4 : Int) ≤ (page.size : Int) := by omega
  have q1 : (i : Int) + (s.size : Int) ≤ 4 := by omega
  have q2 : (i : Int) ≤ 4 := by omega
  have q3 : decide ((i : Int) < 0) = false := by simp
  have q4 : decide ((4 : Int) < (i : Int)) = false := by simp; omega
  have q5 : decide ((4 : Int) - (i : Int) < (s.size : Int)) = false := by simp; omega
  have q6 : decide ((0 : Int) ≤ (i : Int) ∧ (i : Int) ≤ 4) = true := by simp; omega
  clear hR hp hi
  go_enter Try.func20, Try.ntmps20
  go_wp2_with (go_at_call 39; refine (within_any _ _ _ _).mono ?_; rintro e w' ⟨rfl, hw⟩; subst hw; rw [q6])
  go_quiet (fail)
  go_wp2
  go_ret2
  exact ⟨by rw [← HR.out]; rfl, below_drewN (Below.refl _ _) _⟩

theorem patchOf_none (page : ByteArray) (i : Int) (s : ByteArray) (w : World) (hp : page.size ≠ 4) :
    Calls Try.prog 20 #[.string page, .int .i64 i, .string s] w (AnsP w ByteArray.empty 1) := by
  have hd : decide (page.size = 4) = false := by simp [hp]
  have hd' : ((page.size : Int) != 4) = true := by simp; omega
  go_enter Try.func20, Try.ntmps20
  go_wp2_with (go_at_call 39; refine (within_any _ _ _ _).mono ?_; rintro e w' ⟨rfl, hw⟩; subst hw)
  go_ret2
  exact ⟨rfl, Below.refl _ _⟩

set_option maxHeartbeats 1000000 in
theorem patchOf_out (page : ByteArray) (i : Int) (s : ByteArray) (w : World) (hp : page.size = 4) (hi : ¬ (0 ≤ i ∧ i ≤ 4 ∧ (s.size : Int) ≤ 4 - i)) :
    Calls Try.prog 20 #[.string page, .int .i64 i, .string s] w (AnsP w ByteArray.empty 3) := by
  have hd : decide (page.size = 4) = true := by simp [hp]
  have hd' : ((page.size : Int) != 4) = false := by simp [hp]
  clear hp
  by_cases h0 : i < 0
  · have q3 : decide (i < 0) = true := by simp [h0]
    have q6 : decide ((0 : Int) ≤ i ∧ i ≤ 4) = false := by simp; omega
    clear hi
    go_enter Try.func20, Try.ntmps20
    go_wp2_with (go_at_call 39; refine (within_any _ _ _ _).mono ?_; rintro e w' ⟨rfl, hw⟩; subst hw; rw [q6])
    go_ret2
    exact ⟨rfl, Below.refl _ _⟩
  by_cases h4 : 4 < i
  · have q3 : decide (i < 0) = false := by simp; omega
    have q4 : decide (4 < i) = true := by simp [h4]
    have q6 : decide ((0 : Int) ≤ i ∧ i ≤ 4) = false := by simp; omega
    clear hi
    go_enter Try.func20, Try.ntmps20
    go_wp2_with (go_at_call 39; refine (within_any _ _ _ _).mono ?_; rintro e w' ⟨rfl, hw⟩; subst hw; rw [q6])
    go_ret2
    exact ⟨rfl, Below.refl _ _⟩
  · have h5 : 4 - i < (s.size : Int) := by omega
    have q3 : decide (i < 0) = false := by simp; omega
    have q4 : decide (4 < i) = false := by simp; omega
    have q5 : decide (4 - i < (s.size : Int)) = true := by simp [h5]
    have q6 : decide ((0 : Int) ≤ i ∧ i ≤ 4) = true := by simp; omega
    clear hi
    go_enter Try.func20, Try.ntmps20
    go_wp2_with (go_at_call 39; refine (within_any _ _ _ _).mono ?_; rintro e w' ⟨rfl, hw⟩; subst hw; rw [q6])
    go_ret2
    exact ⟨rfl, Below.refl _ _⟩

theorem patchOf_any (page : ByteArray) (i : Int) (s : ByteArray) (w : World) :
    Calls Try.prog 20 #[.string page, .int .i64 i, .string s] w (AnsP w (patchB page i s) (patchE page i s)) := by
  by_cases hp : page.size = 4
  · by_cases hi : 0 ≤ i ∧ i ≤ 4 ∧ (s.size : Int) ≤ 4 - i
    · have e : patchE page i s = 0 := by unfold patchE; rw [if_pos hp, if_pos hi]
      have e2 : patchB page i s = patchR page i.toNat s := by unfold patchB; rw [if_pos e]
      rw [e, e2]
      obtain ⟨n, rfl⟩ := Int.eq_ofNat_of_zero_le hi.1
      rw [Int.toNat_natCast]
      exact patchOf_yes page n s w hp (by omega) _ rfl
    · have e : patchE page i s = 3 := by unfold patchE; rw [if_pos hp, if_neg hi]
      have e2 : patchB page i s = ByteArray.empty := by unfold patchB; rw [if_neg (by omega)]
      rw [e, e2]
      exact patchOf_out page i s w hp hi
  · have e : patchE page i s = 1 := by unfold patchE; rw [if_neg hp]
    have e2 : patchB page i s = ByteArray.empty := by unfold patchB; rw [if_neg (by omega)]
    rw [e, e2]
    exact patchOf_none page i s w hp
theorem patchOf_is {page : ByteArray} {i : Int} {s : ByteArray} {w : World} {p : ByteArray} {c : Int} (hp : patchB page i s = p) (hc : patchE page i s = c) :
    Calls Try.prog 20 #[.string page, .int .i64 i, .string s] w (AnsP w p c) := by subst hp; subst hc; exact patchOf_any page i s w
end Go.Proofs.Ytehleeibgkpjmaa
