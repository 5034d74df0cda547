/- Contract of slotsBegun: it answers true. -/
import Derived.Test.YtehleeibgkpjmabSCheck
namespace Go.Proofs.Ytehleeibgkpjmab
open Go.RowKit
set_option maxRecDepth 20000

theorem grab_is {v : Value} {L : List SlotD} {w : World} (h : Slots w v L) (hE : slotsE L = 0) {g : Nat} (hg : GrabAt L g) (h40 : g < 40) :
    Calls Try.prog 9 #[v] w fun r w' => r = .returned (.tuple #[.int .i64 g, .int .i64 0]) ∧ Below w.heap.size w w' := by
  refine (grab_ok v L w h hE).mono fun e w' hr => ⟨?_, hr.2⟩
  rcases hr.1 with ⟨h1, _⟩ | ⟨g', _, h2, h3⟩
  · have := hg.unique h1; omega
  · rw [h3, hg.unique h2]
theorem grab_full {v : Value} {L : List SlotD} {w : World} (h : Slots w v L) (hE : slotsE L = 0) (hg : GrabAt L 40) :
    Calls Try.prog 9 #[v] w fun r w' => r = .returned (.tuple #[.int .i64 0, .int .i64 7]) ∧ Below w.heap.size w w' := by
  refine (grab_ok v L w h hE).mono fun e w' hr => ⟨?_, hr.2⟩
  rcases hr.1 with ⟨_, h1⟩ | ⟨g', h1, h2, h3⟩
  · exact h1
  · have := hg.unique h2; omega
def L4 : List SlotD := [(0, ⟨#[]⟩, []), (1, ⟨#[97, 98, 99, 100]⟩, []), (0, ⟨#[]⟩, []), (2, ⟨#[]⟩, [1, 0, -1, 0])]
def L2 : List SlotD := [(0, ⟨#[]⟩, []), (1, ⟨#[97, 98, 99, 100]⟩, [])]

def blockT : Obj := .cells #[.int .i64 1, .int .i64 0, .int .i64 (-1), .int .i64 0] 3
def blockS (g : Nat) : Obj := .cells #[.int .i64 0, .string ⟨#[]⟩, .slice none 0 0, .int .i64 1, .string ⟨#[97, 98, 99, 100]⟩, .slice none 0 0, .int .i64 0, .string ⟨#[]⟩, .slice none 0 0, .int .i64 2, .string ⟨#[]⟩, .slice (some ⟨g, 0, none⟩) 4 4] 29

theorem cellS (w : World) (j : Nat) (x : Value) (h : (#[.int .i64 0, .string ⟨#[]⟩, .slice none 0 0, .int .i64 1, .string ⟨#[97, 98, 99, 100]⟩, .slice none 0 0, .int .i64 0, .string ⟨#[]⟩, .slice none 0 0, .int .i64 2, .string ⟨#[]⟩, .slice (some ⟨w.heap.size, 0, none⟩) 4 4] : Array Value)[j]? = some x) :
    ((w.alloc blockT).alloc (blockS w.heap.size)).cell? ⟨w.heap.size + 1, j, none⟩ = some x := by
  unfold blockS
  rw [World.cell?_alloc_at _ _ _ _ (by simp)]
  exact h

theorem slT (w : World) : Sl ((w.alloc blockT).alloc (blockS w.heap.size)) (.slice (some ⟨w.heap.size, 0, none⟩) 4 4) [1, 0, -1, 0] := (Sl_new4 w w.heap.size rfl 1 0 (-1) 0).past _

theorem slots4 (w : World) : Slots ((w.alloc blockT).alloc (blockS w.heap.size)) (.slice (some ⟨w.heap.size + 1, 0, none⟩) 4 4) L4 := by
  refine ⟨_, 4, rfl, by decide, by decide, fun _ => ⟨w.heap.size + 1, 0, rfl, by simp, fun j hj => ?_⟩⟩
  match j, hj with
  | 0, _ => exact ⟨_, cellS w 0 _ rfl, cellS w 1 _ rfl, cellS w 2 _ rfl, Sl.nil _⟩
  | 1, _ => exact ⟨_, cellS w 3 _ rfl, cellS w 4 _ rfl, cellS w 5 _ rfl, Sl.nil _⟩
  | 2, _ => exact ⟨_, cellS w 6 _ rfl, cellS w 7 _ rfl, cellS w 8 _ rfl, Sl.nil _⟩
  | 3, _ => exact ⟨_, cellS w 9 _ rfl, cellS w 10 _ rfl, cellS w 11 _ rfl, slT w⟩
theorem slots2 (w : World) : Slots ((w.alloc blockT).alloc (blockS w.heap.size)) (.slice (some ⟨w.heap.size + 1, 0, none⟩) 2 4) L2 := by
  refine ⟨_, 4, rfl, by decide, by decide, fun _ => ⟨w.heap.size + 1, 0, rfl, by simp, fun j hj => ?_⟩⟩
  match j, hj with
  | 0, _ => exact ⟨_, cellS w 0 _ rfl, cellS w 1 _ rfl, cellS w 2 _ rfl, Sl.nil _⟩
  | 1, _ => exact ⟨_, cellS w 3 _ rfl, cellS w 4 _ rfl, cellS w 5 _ rfl, Sl.nil _⟩

theorem grab4 : GrabAt L4 2 := by
  refine ⟨by decide, by decide, fun j hj h1 h2 => ?_, fun _ => rfl⟩
  have : j = 1 := by omega
  subst this
  exact (by decide : (1 : Int) ≠ 0)
theorem grab2 : GrabAt L2 2 := by
  refine ⟨by decide, by decide, fun j hj h1 h2 => ?_, fun h => absurd h (by decide)⟩
  have : j = 1 := by omega
  subst this
  exact (by decide : (1 : Int) ≠ 0)

set_option maxHeartbeats 1000000 in
theorem sbegun_any (w : World) : Calls Try.prog 11 #[] w fun r w' => r = .returned (.bool true) ∧ Below w.heap.size w w' := by
  have s4 := slots4 w
  have s2 := slots2 w
  have st := slT w
  have hc9 := cellS w 9 _ rfl
  have hc10 := cellS w 10 _ rfl
  have hc11 := cellS w 11 _ rfl
  have b0 : Below w.heap.size w ((w.alloc blockT).alloc (blockS w.heap.size)) := ((Below.refl _ w).alloc (Nat.le_refl _) _).alloc (by simp) _
  have hz : ((w.alloc blockT).alloc (blockS w.heap.size)).heap.size = w.heap.size + 2 := by simp
  have HW : Hid (((w.alloc blockT).alloc (blockS w.heap.size)).heap.size = w.heap.size + 2) := hz
  clear hz
  go_enter Try.func11, Try.ntmps11
  go_wp2_with fail
  refine (grab_is s4 (by decide) grab4 (by decide)).mono ?_
  rintro e w1 ⟨rfl, b1⟩
  have s4 := s4.below b1
  have s2 := s2.below b1
  have st := st.below b1
  have hc9 := (b1.cell (p := ⟨w.heap.size + 1, 9, none⟩) (by rw [HW.out]; simp)).trans hc9
  have hc10 := (b1.cell (p := ⟨w.heap.size + 1, 10, none⟩) (by rw [HW.out]; simp)).trans hc10
  have hc11 := (b1.cell (p := ⟨w.heap.size + 1, 11, none⟩) (by rw [HW.out]; simp)).trans hc11
  have z1 : w.heap.size + 2 ≤ w1.heap.size := by have := b1.size; rw [HW.out] at this; exact this
  have b1 := Below.on b0 b1
  clear b0
  go_wp2_with fail
  refine (used_is s4 (by decide) (u := 2) (by decide)).mono ?_
  rintro e w2 ⟨rfl, b2⟩
  have s2 := s2.below b2
  have st := st.below b2
  have hc9 := (b2.cell (p := ⟨w.heap.size + 1, 9, none⟩) (by simp; omega)).trans hc9
  have hc10 := (b2.cell (p := ⟨w.heap.size + 1, 10, none⟩) (by simp; omega)).trans hc10
  have hc11 := (b2.cell (p := ⟨w.heap.size + 1, 11, none⟩) (by simp; omega)).trans hc11
  have z2 : w.heap.size + 2 ≤ w2.heap.size := Nat.le_trans z1 b2.size
  have b2 := Below.on b1 b2
  clear b1 s4
  go_wp2_with fail
  refine (grab_is s2 (by decide) grab2 (by decide)).mono ?_
  rintro e w3 ⟨rfl, b3⟩
  have st := st.below b3
  have hc9 := (b3.cell (p := ⟨w.heap.size + 1, 9, none⟩) (by simp; omega)).trans hc9
  have hc10 := (b3.cell (p := ⟨w.heap.size + 1, 10, none⟩) (by simp; omega)).trans hc10
  have hc11 := (b3.cell (p := ⟨w.heap.size + 1, 11, none⟩) (by simp; omega)).trans hc11
  have b3 := Below.on b2 b3
  clear b2 s2
  go_wp2_with fail
  refine (scheck_is st (c := 0) (by decide)).mono ?_
  rintro e w4 ⟨rfl, b4⟩
  have b4 := Below.on b3 b4
  clear b3 st hc9 hc10 hc11
  go_wp2_with fail
  refine (scheck_is (Sl_new4 _ _ (by simp) 0 0 0 0) (c := 1) (by decide)).mono ?_
  rintro e w5 ⟨rfl, b5⟩
  have b5 : Below w.heap.size w w5 := (b4.alloc b4.size _).trans (b5.mono (by have := b4.size; simp; omega))
  clear b4
  go_wp2_with fail
  refine (scheck_is (Sl.nil _) (c := 1) (by decide)).mono ?_
  rintro e w6 ⟨rfl, b6⟩
  have b6 := Below.on b5 b6
  go_wp2_with fail
  go_ret
  exact ⟨rfl, b6⟩
end Go.Proofs.Ytehleeibgkpjmab
