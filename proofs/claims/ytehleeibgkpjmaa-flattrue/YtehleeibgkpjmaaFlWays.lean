/- The walk of FlatTrue, way by way. -/
import Derived.Test.YtehleeibgkpjmaaFlBegun
namespace Go.Proofs.Ytehleeibgkpjmaa
open Go.RowKit
set_option maxRecDepth 20000
set_option linter.unusedVariables false

set_option maxRecDepth 100000 in
set_option maxHeartbeats 2000000 in
theorem ftrue_be (ao : Option Addr) (m cap : Nat) (xs : List ByteArray) (n k : Int) (page : ByteArray) (g : Int) (w : World) (h : Ss w (.slice ao m cap) xs) (hm : xs.length = m) (c : Int) (hc : fwE xs n page = c) (hc0 : (c == 0) = false) (c2 : Int) (hc2 : frE xs g = c2) (hc20 : (c2 != 0) = true) :
    Calls Try.prog 7 #[.slice ao m cap, .int .i64 n, .string page, .int .i64 k, .int .i64 g] w fun r w' => r = .returned (.bool true) ∧ Below w.heap.size w w' := by
  obtain ⟨WA, hWA⟩ : ∃ y, fwA xs n page = y := ⟨_, rfl⟩
  have HW : Hid (fwA xs n page = WA ∧ fwE xs n page = c) := ⟨hWA, hc⟩
  clear hWA hc
  obtain ⟨ZA, hZA⟩ : ∃ y, frA xs g = y := ⟨_, rfl⟩
  have HZ : Hid (frA xs g = ZA ∧ frE xs g = c2) := ⟨hZA, hc2⟩
  clear hZA hc2
  clear hm
  go_enter Try.func7, Try.ntmps7
  go_wp2_with fail
  refine (fwrite_is h HW.out.1 HW.out.2).mono ?_
  rintro e w1 ⟨v1, rfl, s1, b1⟩
  have h := h.below b1
  clear s1
  go_wp2_with fail
  refine (fresize_is h HZ.out.1 HZ.out.2).mono ?_
  rintro e w6 ⟨v6, rfl, s6, b6⟩
  have b6 := Below.on b1 b6
  clear b1 s6
  go_wp2_with fail
  refine (fbegun_any _).mono ?_
  rintro e w7 ⟨rfl, b7⟩
  have b7 := Below.on b6 b7
  go_wp2_with fail
  go_ret
  exact ⟨rfl, b7⟩

set_option maxRecDepth 100000 in
set_option maxHeartbeats 2000000 in
theorem ftrue_bl (ao : Option Addr) (m cap : Nat) (xs : List ByteArray) (n k : Int) (page : ByteArray) (g : Int) (w : World) (h : Ss w (.slice ao m cap) xs) (hm : xs.length = m) (c : Int) (hc : fwE xs n page = c) (hc0 : (c == 0) = false) (hZ : frE xs g = 0) (hgl : g < (m : Int)) (hgl2 : decide (g < (m : Int)) = true) :
    Calls Try.prog 7 #[.slice ao m cap, .int .i64 n, .string page, .int .i64 k, .int .i64 g] w fun r w' => r = .returned (.bool true) ∧ Below w.heap.size w w' := by
  obtain ⟨WA, hWA⟩ : ∃ y, fwA xs n page = y := ⟨_, rfl⟩
  have HW : Hid (fwA xs n page = WA ∧ fwE xs n page = c) := ⟨hWA, hc⟩
  clear hWA hc
  obtain ⟨ZA, hZA⟩ : ∃ y, frA xs g = y := ⟨_, rfl⟩
  have HZ : Hid (frA xs g = ZA ∧ frE xs g = 0) := ⟨hZA, hZ⟩
  clear hZA hZ
  clear hm
  go_enter Try.func7, Try.ntmps7
  go_wp2_with fail
  refine (fwrite_is h HW.out.1 HW.out.2).mono ?_
  rintro e w1 ⟨v1, rfl, s1, b1⟩
  have h := h.below b1
  clear s1
  go_wp2_with fail
  refine (fresize_is h HZ.out.1 HZ.out.2).mono ?_
  rintro e w6 ⟨v6, rfl, s6, b6⟩
  have b6 := Below.on b1 b6
  clear b1 s6
  go_wp2_with fail
  refine (fbegun_any _).mono ?_
  rintro e w7 ⟨rfl, b7⟩
  have b7 := Below.on b6 b7
  go_wp2_with fail
  go_ret
  exact ⟨rfl, b7⟩

set_option maxRecDepth 100000 in
set_option maxHeartbeats 2000000 in
theorem ftrue_bo (ao : Option Addr) (m cap : Nat) (xs : List ByteArray) (n k : Int) (page : ByteArray) (g : Nat) (w : World) (h : Ss w (.slice ao m cap) xs) (hm : xs.length = m) (c : Int) (hc : fwE xs n page = c) (hc0 : (c == 0) = false) (hZK : ckP xs = 0) (hg16 : g ≤ 16) (hmg : m ≤ g) :
    Calls Try.prog 7 #[.slice ao m cap, .int .i64 n, .string page, .int .i64 k, .int .i64 g] w fun r w' => r = .returned (.bool true) ∧ Below w.heap.size w w' := by
  obtain ⟨WA, hWA⟩ : ∃ y, fwA xs n page = y := ⟨_, rfl⟩
  have HW : Hid (fwA xs n page = WA ∧ fwE xs n page = c) := ⟨hWA, hc⟩
  clear hWA hc
  have hZE : frE xs (g : Int) = 0 := by unfold frE; rw [if_pos hZK, if_pos ⟨by omega, by omega⟩]
  have hZE2 : frE (frR xs g) (m : Int) = 0 := by unfold frE; rw [if_pos (ckP_frR hZK hg16), if_pos ⟨by omega, by omega⟩]
  have HZ : Hid (frA xs (g : Int) = frR xs g ∧ frE xs (g : Int) = 0 ∧ frA (frR xs g) (m : Int) = xs ∧ frE (frR xs g) (m : Int) = 0) :=
    ⟨by rw [frA, if_pos hZE, Int.toNat_natCast], hZE, by rw [frA, if_pos hZE2, Int.toNat_natCast, ← hm]; exact frR_back (by omega), hZE2⟩
  have hd : decide ((g : Int) < (m : Int)) = false := by simp; omega
  clear hZE hZE2 hZK
  clear hm
  go_enter Try.func7, Try.ntmps7
  go_wp2_with fail
  refine (fwrite_is h HW.out.1 HW.out.2).mono ?_
  rintro e w1 ⟨v1, rfl, s1, b1⟩
  have h := h.below b1
  clear s1
  go_wp2_with fail
  refine (fresize_is h HZ.out.1 HZ.out.2.1).mono ?_
  rintro e w5 ⟨v5, rfl, s5, b5⟩
  have h := h.below b5
  have b5 := Below.on b1 b5
  clear b1
  go_wp2_with fail
  refine (fresize_is s5 HZ.out.2.2.1 HZ.out.2.2.2).mono ?_
  rintro e w6 ⟨v6, rfl, s6, b6⟩
  have h := h.below b6
  have b6 := Below.on b5 b6
  clear b5 s5
  go_wp2_with fail
  refine (fbegun_any _).mono ?_
  rintro e w7 ⟨rfl, b7⟩
  have h := h.below b7
  have s6 := s6.below b7
  have b7 := Below.on b6 b7
  clear b6
  go_wp2_with fail
  refine (samePages_any s6 h).mono ?_
  rintro e w8 ⟨rfl, b8⟩
  have b8 := Below.on b7 b8
  go_wp2_with fail
  go_ret
  exact ⟨rfl, b8⟩

set_option maxRecDepth 100000 in
set_option maxHeartbeats 2000000 in
theorem ftrue_se (ao : Option Addr) (m cap : Nat) (xs : List ByteArray) (n : Nat) (k : Int) (page : ByteArray) (g : Int) (w : World) (h : Ss w (.slice ao m cap) xs) (hm : xs.length = m) (hK : ckP xs = 0) (hn : n < xs.length) (hp : page.size = 4) (hk : ((k : Int) != (n : Int)) = false) (c2 : Int) (hc2 : frE xs g = c2) (hc20 : (c2 != 0) = true) :
    Calls Try.prog 7 #[.slice ao m cap, .int .i64 n, .string page, .int .i64 k, .int .i64 g] w fun r w' => r = .returned (.bool true) ∧ Below w.heap.size w w' := by
  have hWE : fwE xs (n : Int) page = 0 := by unfold fwE; rw [if_pos (atE_in hK ⟨by omega, by omega⟩), if_pos hp]
  obtain ⟨Q, hQ⟩ : ∃ y, freadA (xs.set n page) k = y := ⟨_, rfl⟩
  obtain ⟨V, hV⟩ : ∃ y, freadA xs k = y := ⟨_, rfl⟩
  obtain ⟨G, hG⟩ : ∃ y, atE xs k = y := ⟨_, rfl⟩
  have HW : Hid (fwA xs (n : Int) page = xs.set n page ∧ fwE xs (n : Int) page = 0 ∧ freadA (xs.set n page) (n : Int) = page ∧ atE (xs.set n page) (n : Int) = 0 ∧ freadA (xs.set n page) k = Q ∧ atE (xs.set n page) k = G ∧ freadA xs k = V ∧ atE xs k = G) :=
    ⟨by rw [fwA, if_pos hWE, Int.toNat_natCast], hWE, (fread_set_same hK hp hn).1, (fread_set_same hK hp hn).2, hQ, by rw [atE_set hK hp]; exact hG, hV, hG⟩
  clear hWE hQ hV hG hK hn hp
  obtain ⟨ZA, hZA⟩ : ∃ y, frA xs g = y := ⟨_, rfl⟩
  have HZ : Hid (frA xs g = ZA ∧ frE xs g = c2) := ⟨hZA, hc2⟩
  clear hZA hc2
  clear hm
  go_enter Try.func7, Try.ntmps7
  go_wp2_with fail
  refine (fwrite_is h HW.out.1 HW.out.2.1).mono ?_
  rintro e w1 ⟨v1, rfl, s1, b1⟩
  have h := h.below b1
  go_wp2_with fail
  refine (fread_is s1 HW.out.2.2.1 HW.out.2.2.2.1).mono ?_
  rintro e w2 ⟨rfl, hw⟩
  subst hw
  go_wp2_with fail
  refine (fread_is s1 HW.out.2.2.2.2.1 HW.out.2.2.2.2.2.1).mono ?_
  rintro e w3 ⟨rfl, hw⟩
  subst hw
  go_wp2_with fail
  refine (fread_is h HW.out.2.2.2.2.2.2.1 HW.out.2.2.2.2.2.2.2).mono ?_
  rintro e w4 ⟨rfl, hw⟩
  subst hw
  clear s1
  go_wp2_with fail
  refine (fresize_is h HZ.out.1 HZ.out.2).mono ?_
  rintro e w6 ⟨v6, rfl, s6, b6⟩
  have b6 := Below.on b1 b6
  clear b1 s6
  go_wp2_with fail
  refine (fbegun_any _).mono ?_
  rintro e w7 ⟨rfl, b7⟩
  have b7 := Below.on b6 b7
  go_wp2_with fail
  go_ret
  exact ⟨rfl, b7⟩

set_option maxRecDepth 100000 in
set_option maxHeartbeats 2000000 in
theorem ftrue_sl (ao : Option Addr) (m cap : Nat) (xs : List ByteArray) (n : Nat) (k : Int) (page : ByteArray) (g : Int) (w : World) (h : Ss w (.slice ao m cap) xs) (hm : xs.length = m) (hK : ckP xs = 0) (hn : n < xs.length) (hp : page.size = 4) (hk : ((k : Int) != (n : Int)) = false) (hZ : frE xs g = 0) (hgl : g < (m : Int)) (hgl2 : decide (g < (m : Int)) = true) :
    Calls Try.prog 7 #[.slice ao m cap, .int .i64 n, .string page, .int .i64 k, .int .i64 g] w fun r w' => r = .returned (.bool true) ∧ Below w.heap.size w w' := by
  have hWE : fwE xs (n : Int) page = 0 := by unfold fwE; rw [if_pos (atE_in hK ⟨by omega, by omega⟩), if_pos hp]
  obtain ⟨Q, hQ⟩ : ∃ y, freadA (xs.set n page) k = y := ⟨_, rfl⟩
  obtain ⟨V, hV⟩ : ∃ y, freadA xs k = y := ⟨_, rfl⟩
  obtain ⟨G, hG⟩ : ∃ y, atE xs k = y := ⟨_, rfl⟩
  have HW : Hid (fwA xs (n : Int) page = xs.set n page ∧ fwE xs (n : Int) page = 0 ∧ freadA (xs.set n page) (n : Int) = page ∧ atE (xs.set n page) (n : Int) = 0 ∧ freadA (xs.set n page) k = Q ∧ atE (xs.set n page) k = G ∧ freadA xs k = V ∧ atE xs k = G) :=
    ⟨by rw [fwA, if_pos hWE, Int.toNat_natCast], hWE, (fread_set_same hK hp hn).1, (fread_set_same hK hp hn).2, hQ, by rw [atE_set hK hp]; exact hG, hV, hG⟩
  clear hWE hQ hV hG hK hn hp
  obtain ⟨ZA, hZA⟩ : ∃ y, frA xs g = y := ⟨_, rfl⟩
  have HZ : Hid (frA xs g = ZA ∧ frE xs g = 0) := ⟨hZA, hZ⟩
  clear hZA hZ
  clear hm
  go_enter Try.func7, Try.ntmps7
  go_wp2_with fail
  refine (fwrite_is h HW.out.1 HW.out.2.1).mono ?_
  rintro e w1 ⟨v1, rfl, s1, b1⟩
  have h := h.below b1
  go_wp2_with fail
  refine (fread_is s1 HW.out.2.2.1 HW.out.2.2.2.1).mono ?_
  rintro e w2 ⟨rfl, hw⟩
  subst hw
  go_wp2_with fail
  refine (fread_is s1 HW.out.2.2.2.2.1 HW.out.2.2.2.2.2.1).mono ?_
  rintro e w3 ⟨rfl, hw⟩
  subst hw
  go_wp2_with fail
  refine (fread_is h HW.out.2.2.2.2.2.2.1 HW.out.2.2.2.2.2.2.2).mono ?_
  rintro e w4 ⟨rfl, hw⟩
  subst hw
  clear s1
  go_wp2_with fail
  refine (fresize_is h HZ.out.1 HZ.out.2).mono ?_
  rintro e w6 ⟨v6, rfl, s6, b6⟩
  have b6 := Below.on b1 b6
  clear b1 s6
  go_wp2_with fail
  refine (fbegun_any _).mono ?_
  rintro e w7 ⟨rfl, b7⟩
  have b7 := Below.on b6 b7
  go_wp2_with fail
  go_ret
  exact ⟨rfl, b7⟩

set_option maxRecDepth 100000 in
set_option maxHeartbeats 2000000 in
theorem ftrue_so (ao : Option Addr) (m cap : Nat) (xs : List ByteArray) (n : Nat) (k : Int) (page : ByteArray) (g : Nat) (w : World) (h : Ss w (.slice ao m cap) xs) (hm : xs.length = m) (hK : ckP xs = 0) (hn : n < xs.length) (hp : page.size = 4) (hk : ((k : Int) != (n : Int)) = false) (hZK : ckP xs = 0) (hg16 : g ≤ 16) (hmg : m ≤ g) :
    Calls Try.prog 7 #[.slice ao m cap, .int .i64 n, .string page, .int .i64 k, .int .i64 g] w fun r w' => r = .returned (.bool true) ∧ Below w.heap.size w w' := by
  have hWE : fwE xs (n : Int) page = 0 := by unfold fwE; rw [if_pos (atE_in hK ⟨by omega, by omega⟩), if_pos hp]
  obtain ⟨Q, hQ⟩ : ∃ y, freadA (xs.set n page) k = y := ⟨_, rfl⟩
  obtain ⟨V, hV⟩ : ∃ y, freadA xs k = y := ⟨_, rfl⟩
  obtain ⟨G, hG⟩ : ∃ y, atE xs k = y := ⟨_, rfl⟩
  have HW : Hid (fwA xs (n : Int) page = xs.set n page ∧ fwE xs (n : Int) page = 0 ∧ freadA (xs.set n page) (n : Int) = page ∧ atE (xs.set n page) (n : Int) = 0 ∧ freadA (xs.set n page) k = Q ∧ atE (xs.set n page) k = G ∧ freadA xs k = V ∧ atE xs k = G) :=
    ⟨by rw [fwA, if_pos hWE, Int.toNat_natCast], hWE, (fread_set_same hK hp hn).1, (fread_set_same hK hp hn).2, hQ, by rw [atE_set hK hp]; exact hG, hV, hG⟩
  clear hWE hQ hV hG hK hn hp
  have hZE : frE xs (g : Int) = 0 := by unfold frE; rw [if_pos hZK, if_pos ⟨by omega, by omega⟩]
  have hZE2 : frE (frR xs g) (m : Int) = 0 := by unfold frE; rw [if_pos (ckP_frR hZK hg16), if_pos ⟨by omega, by omega⟩]
  have HZ : Hid (frA xs (g : Int) = frR xs g ∧ frE xs (g : Int) = 0 ∧ frA (frR xs g) (m : Int) = xs ∧ frE (frR xs g) (m : Int) = 0) :=
    ⟨by rw [frA, if_pos hZE, Int.toNat_natCast], hZE, by rw [frA, if_pos hZE2, Int.toNat_natCast, ← hm]; exact frR_back (by omega), hZE2⟩
  have hd : decide ((g : Int) < (m : Int)) = false := by simp; omega
  clear hZE hZE2 hZK
  clear hm
  go_enter Try.func7, Try.ntmps7
  go_wp2_with fail
  refine (fwrite_is h HW.out.1 HW.out.2.1).mono ?_
  rintro e w1 ⟨v1, rfl, s1, b1⟩
  have h := h.below b1
  go_wp2_with fail
  refine (fread_is s1 HW.out.2.2.1 HW.out.2.2.2.1).mono ?_
  rintro e w2 ⟨rfl, hw⟩
  subst hw
  go_wp2_with fail
  refine (fread_is s1 HW.out.2.2.2.2.1 HW.out.2.2.2.2.2.1).mono ?_
  rintro e w3 ⟨rfl, hw⟩
  subst hw
  go_wp2_with fail
  refine (fread_is h HW.out.2.2.2.2.2.2.1 HW.out.2.2.2.2.2.2.2).mono ?_
  rintro e w4 ⟨rfl, hw⟩
  subst hw
  clear s1
  go_wp2_with fail
  refine (fresize_is h HZ.out.1 HZ.out.2.1).mono ?_
  rintro e w5 ⟨v5, rfl, s5, b5⟩
  have h := h.below b5
  have b5 := Below.on b1 b5
  clear b1
  go_wp2_with fail
  refine (fresize_is s5 HZ.out.2.2.1 HZ.out.2.2.2).mono ?_
  rintro e w6 ⟨v6, rfl, s6, b6⟩
  have h := h.below b6
  have b6 := Below.on b5 b6
  clear b5 s5
  go_wp2_with fail
  refine (fbegun_any _).mono ?_
  rintro e w7 ⟨rfl, b7⟩
  have h := h.below b7
  have s6 := s6.below b7
  have b7 := Below.on b6 b7
  clear b6
  go_wp2_with fail
  refine (samePages_any s6 h).mono ?_
  rintro e w8 ⟨rfl, b8⟩
  have b8 := Below.on b7 b8
  go_wp2_with fail
  go_ret
  exact ⟨rfl, b8⟩

set_option maxRecDepth 100000 in
set_option maxHeartbeats 2000000 in
theorem ftrue_oe (ao : Option Addr) (m cap : Nat) (xs : List ByteArray) (n : Nat) (k : Int) (page : ByteArray) (g : Int) (w : World) (h : Ss w (.slice ao m cap) xs) (hm : xs.length = m) (hK : ckP xs = 0) (hn : n < xs.length) (hp : page.size = 4) (hk : ((k : Int) != (n : Int)) = true) (c2 : Int) (hc2 : frE xs g = c2) (hc20 : (c2 != 0) = true) :
    Calls Try.prog 7 #[.slice ao m cap, .int .i64 n, .string page, .int .i64 k, .int .i64 g] w fun r w' => r = .returned (.bool true) ∧ Below w.heap.size w w' := by
  have hWE : fwE xs (n : Int) page = 0 := by unfold fwE; rw [if_pos (atE_in hK ⟨by omega, by omega⟩), if_pos hp]
  obtain ⟨Q, hQ⟩ : ∃ y, freadA (xs.set n page) k = y := ⟨_, rfl⟩
  obtain ⟨V, hV⟩ : ∃ y, freadA xs k = y := ⟨_, rfl⟩
  obtain ⟨G, hG⟩ : ∃ y, atE xs k = y := ⟨_, rfl⟩
  have HW : Hid (fwA xs (n : Int) page = xs.set n page ∧ fwE xs (n : Int) page = 0 ∧ freadA (xs.set n page) (n : Int) = page ∧ atE (xs.set n page) (n : Int) = 0 ∧ freadA (xs.set n page) k = Q ∧ atE (xs.set n page) k = G ∧ freadA xs k = V ∧ atE xs k = G) :=
    ⟨by rw [fwA, if_pos hWE, Int.toNat_natCast], hWE, (fread_set_same hK hp hn).1, (fread_set_same hK hp hn).2, hQ, by rw [atE_set hK hp]; exact hG, hV, hG⟩
  have hQV : Q = V := by rw [← hQ, ← hV]; exact fread_set_other hK hp (by simpa using hk)
  subst hQV
  clear hWE hQ hV hG hK hn hp
  obtain ⟨ZA, hZA⟩ : ∃ y, frA xs g = y := ⟨_, rfl⟩
  have HZ : Hid (frA xs g = ZA ∧ frE xs g = c2) := ⟨hZA, hc2⟩
  clear hZA hc2
  clear hm
  go_enter Try.func7, Try.ntmps7
  go_wp2_with fail
  refine (fwrite_is h HW.out.1 HW.out.2.1).mono ?_
  rintro e w1 ⟨v1, rfl, s1, b1⟩
  have h := h.below b1
  go_wp2_with fail
  refine (fread_is s1 HW.out.2.2.1 HW.out.2.2.2.1).mono ?_
  rintro e w2 ⟨rfl, hw⟩
  subst hw
  go_wp2_with fail
  refine (fread_is s1 HW.out.2.2.2.2.1 HW.out.2.2.2.2.2.1).mono ?_
  rintro e w3 ⟨rfl, hw⟩
  subst hw
  go_wp2_with fail
  refine (fread_is h HW.out.2.2.2.2.2.2.1 HW.out.2.2.2.2.2.2.2).mono ?_
  rintro e w4 ⟨rfl, hw⟩
  subst hw
  clear s1
  go_wp2_with fail
  refine (fresize_is h HZ.out.1 HZ.out.2).mono ?_
  rintro e w6 ⟨v6, rfl, s6, b6⟩
  have b6 := Below.on b1 b6
  clear b1 s6
  go_wp2_with fail
  refine (fbegun_any _).mono ?_
  rintro e w7 ⟨rfl, b7⟩
  have b7 := Below.on b6 b7
  go_wp2_with fail
  go_ret
  exact ⟨rfl, b7⟩

set_option maxRecDepth 100000 in
set_option maxHeartbeats 2000000 in
theorem ftrue_ol (ao : Option Addr) (m cap : Nat) (xs : List ByteArray) (n : Nat) (k : Int) (page : ByteArray) (g : Int) (w : World) (h : Ss w (.slice ao m cap) xs) (hm : xs.length = m) (hK : ckP xs = 0) (hn : n < xs.length) (hp : page.size = 4) (hk : ((k : Int) != (n : Int)) = true) (hZ : frE xs g = 0) (hgl : g < (m : Int)) (hgl2 : decide (g < (m : Int)) = true) :
    Calls Try.prog 7 #[.slice ao m cap, .int .i64 n, .string page, .int .i64 k, .int .i64 g] w fun r w' => r = .returned (.bool true) ∧ Below w.heap.size w w' := by
  have hWE : fwE xs (n : Int) page = 0 := by unfold fwE; rw [if_pos (atE_in hK ⟨by omega, by omega⟩), if_pos hp]
  obtain ⟨Q, hQ⟩ : ∃ y, freadA (xs.set n page) k = y := ⟨_, rfl⟩
  obtain ⟨V, hV⟩ : ∃ y, freadA xs k = y := ⟨_, rfl⟩
  obtain ⟨G, hG⟩ : ∃ y, atE xs k = y := ⟨_, rfl⟩
  have HW : Hid (fwA xs (n : Int) page = xs.set n page ∧ fwE xs (n : Int) page = 0 ∧ freadA (xs.set n page) (n : Int) = page ∧ atE (xs.set n page) (n : Int) = 0 ∧ freadA (xs.set n page) k = Q ∧ atE (xs.set n page) k = G ∧ freadA xs k = V ∧ atE xs k = G) :=
    ⟨by rw [fwA, if_pos hWE, Int.toNat_natCast], hWE, (fread_set_same hK hp hn).1, (fread_set_same hK hp hn).2, hQ, by rw [atE_set hK hp]; exact hG, hV, hG⟩
  have hQV : Q = V := by rw [← hQ, ← hV]; exact fread_set_other hK hp (by simpa using hk)
  subst hQV
  clear hWE hQ hV hG hK hn hp
  obtain ⟨ZA, hZA⟩ : ∃ y, frA xs g = y := ⟨_, rfl⟩
  have HZ : Hid (frA xs g = ZA ∧ frE xs g = 0) := ⟨hZA, hZ⟩
  clear hZA hZ
  clear hm
  go_enter Try.func7, Try.ntmps7
  go_wp2_with fail
  refine (fwrite_is h HW.out.1 HW.out.2.1).mono ?_
  rintro e w1 ⟨v1, rfl, s1, b1⟩
  have h := h.below b1
  go_wp2_with fail
  refine (fread_is s1 HW.out.2.2.1 HW.out.2.2.2.1).mono ?_
  rintro e w2 ⟨rfl, hw⟩
  subst hw
  go_wp2_with fail
  refine (fread_is s1 HW.out.2.2.2.2.1 HW.out.2.2.2.2.2.1).mono ?_
  rintro e w3 ⟨rfl, hw⟩
  subst hw
  go_wp2_with fail
  refine (fread_is h HW.out.2.2.2.2.2.2.1 HW.out.2.2.2.2.2.2.2).mono ?_
  rintro e w4 ⟨rfl, hw⟩
  subst hw
  clear s1
  go_wp2_with fail
  refine (fresize_is h HZ.out.1 HZ.out.2).mono ?_
  rintro e w6 ⟨v6, rfl, s6, b6⟩
  have b6 := Below.on b1 b6
  clear b1 s6
  go_wp2_with fail
  refine (fbegun_any _).mono ?_
  rintro e w7 ⟨rfl, b7⟩
  have b7 := Below.on b6 b7
  go_wp2_with fail
  go_ret
  exact ⟨rfl, b7⟩

set_option maxRecDepth 100000 in
set_option maxHeartbeats 2000000 in
theorem ftrue_oo (ao : Option Addr) (m cap : Nat) (xs : List ByteArray) (n : Nat) (k : Int) (page : ByteArray) (g : Nat) (w : World) (h : Ss w (.slice ao m cap) xs) (hm : xs.length = m) (hK : ckP xs = 0) (hn : n < xs.length) (hp : page.size = 4) (hk : ((k : Int) != (n : Int)) = true) (hZK : ckP xs = 0) (hg16 : g ≤ 16) (hmg : m ≤ g) :
    Calls Try.prog 7 #[.slice ao m cap, .int .i64 n, .string page, .int .i64 k, .int .i64 g] w fun r w' => r = .returned (.bool true) ∧ Below w.heap.size w w' := by
  have hWE : fwE xs (n : Int) page = 0 := by unfold fwE; rw [if_pos (atE_in hK ⟨by omega, by omega⟩), if_pos hp]
  obtain ⟨Q, hQ⟩ : ∃ y, freadA (xs.set n page) k = y := ⟨_, rfl⟩
  obtain ⟨V, hV⟩ : ∃ y, freadA xs k = y := ⟨_, rfl⟩
  obtain ⟨G, hG⟩ : ∃ y, atE xs k = y := ⟨_, rfl⟩
  have HW : Hid (fwA xs (n : Int) page = xs.set n page ∧ fwE xs (n : Int) page = 0 ∧ freadA (xs.set n page) (n : Int) = page ∧ atE (xs.set n page) (n : Int) = 0 ∧ freadA (xs.set n page) k = Q ∧ atE (xs.set n page) k = G ∧ freadA xs k = V ∧ atE xs k = G) :=
    ⟨by rw [fwA, if_pos hWE, Int.toNat_natCast], hWE, (fread_set_same hK hp hn).1, (fread_set_same hK hp hn).2, hQ, by rw [atE_set hK hp]; exact hG, hV, hG⟩
  have hQV : Q = V := by rw [← hQ, ← hV]; exact fread_set_other hK hp (by simpa using hk)
  subst hQV
  clear hWE hQ hV hG hK hn hp
  have hZE : frE xs (g : Int) = 0 := by unfold frE; rw [if_pos hZK, if_pos ⟨by omega, by omega⟩]
  have hZE2 : frE (frR xs g) (m : Int) = 0 := by unfold frE; rw [if_pos (ckP_frR hZK hg16), if_pos ⟨by omega, by omega⟩]
  have HZ : Hid (frA xs (g : Int) = frR xs g ∧ frE xs (g : Int) = 0 ∧ frA (frR xs g) (m : Int) = xs ∧ frE (frR xs g) (m : Int) = 0) :=
    ⟨by rw [frA, if_pos hZE, Int.toNat_natCast], hZE, by rw [frA, if_pos hZE2, Int.toNat_natCast, ← hm]; exact frR_back (by omega), hZE2⟩
  have hd : decide ((g : Int) < (m : Int)) = false := by simp; omega
  clear hZE hZE2 hZK
  clear hm
  go_enter Try.func7, Try.ntmps7
  go_wp2_with fail
  refine (fwrite_is h HW.out.1 HW.out.2.1).mono ?_
  rintro e w1 ⟨v1, rfl, s1, b1⟩
  have h := h.below b1
  go_wp2_with fail
  refine (fread_is s1 HW.out.2.2.1 HW.out.2.2.2.1).mono ?_
  rintro e w2 ⟨rfl, hw⟩
  subst hw
  go_wp2_with fail
  refine (fread_is s1 HW.out.2.2.2.2.1 HW.out.2.2.2.2.2.1).mono ?_
  rintro e w3 ⟨rfl, hw⟩
  subst hw
  go_wp2_with fail
  refine (fread_is h HW.out.2.2.2.2.2.2.1 HW.out.2.2.2.2.2.2.2).mono ?_
  rintro e w4 ⟨rfl, hw⟩
  subst hw
  clear s1
  go_wp2_with fail
  refine (fresize_is h HZ.out.1 HZ.out.2.1).mono ?_
  rintro e w5 ⟨v5, rfl, s5, b5⟩
  have h := h.below b5
  have b5 := Below.on b1 b5
  clear b1
  go_wp2_with fail
  refine (fresize_is s5 HZ.out.2.2.1 HZ.out.2.2.2).mono ?_
  rintro e w6 ⟨v6, rfl, s6, b6⟩
  have h := h.below b6
  have b6 := Below.on b5 b6
  clear b5 s5
  go_wp2_with fail
  refine (fbegun_any _).mono ?_
  rintro e w7 ⟨rfl, b7⟩
  have h := h.below b7
  have s6 := s6.below b7
  have b7 := Below.on b6 b7
  clear b6
  go_wp2_with fail
  refine (samePages_any s6 h).mono ?_
  rintro e w8 ⟨rfl, b8⟩
  have b8 := Below.on b7 b8
  go_wp2_with fail
  go_ret
  exact ⟨rfl, b8⟩

theorem ftrue_any (v : Value) (xs : List ByteArray) (n : Int) (page : ByteArray) (k g : Int) (w : World) (h : Ss w v xs) :
    Calls Try.prog 7 #[v, .int .i64 n, .string page, .int .i64 k, .int .i64 g] w fun r w' => r = .returned (.bool true) ∧ Below w.heap.size w w' := by
  obtain ⟨ao, cap, rfl⟩ := h.form
  have hR : (frE xs g ≠ 0) ∨ (frE xs g = 0 ∧ g < (xs.length : Int)) ∨ (ckP xs = 0 ∧ 0 ≤ g ∧ g ≤ 16 ∧ (xs.length : Int) ≤ g) := by
    by_cases e : frE xs g = 0
    · by_cases e2 : g < (xs.length : Int)
      · exact .inr (.inl ⟨e, e2⟩)
      · refine .inr (.inr ?_)
        unfold frE at e
        split at e
        · rename_i e3
          split at e
          · rename_i e4; exact ⟨e3, e4.1, e4.2, by omega⟩
          · simp at e
        · rename_i e3; exact absurd e e3
    · exact .inl e
  by_cases hW : fwE xs n page = 0
  · have hA : atE xs n = 0 := by
      unfold fwE at hW
      split at hW
      · assumption
      · exact hW
    have hp : page.size = 4 := by
      unfold fwE at hW
      rw [if_pos hA] at hW
      split at hW
      · assumption
      · simp at hW
    obtain ⟨hK, h0, h1⟩ := atE_parts hA
    obtain ⟨n, rfl⟩ := Int.eq_ofNat_of_zero_le h0
    have hn : n < xs.length := by omega
    by_cases hk : k = (n : Int)
    · have hk' : (k != (n : Int)) = false := by simp [hk]
      rcases hR with e | ⟨e, e2⟩ | ⟨e, e2, e3, e4⟩
      · exact ftrue_se ao _ cap xs n k page g w h rfl hK hn hp hk' _ rfl (by simpa using e)
      · exact ftrue_sl ao _ cap xs n k page g w h rfl hK hn hp hk' e e2 (by simpa using e2)
      · obtain ⟨g, rfl⟩ := Int.eq_ofNat_of_zero_le e2
        exact ftrue_so ao _ cap xs n k page g w h rfl hK hn hp hk' e (by omega) (by omega)
    · have hk' : (k != (n : Int)) = true := by simpa using hk
      rcases hR with e | ⟨e, e2⟩ | ⟨e, e2, e3, e4⟩
      · exact ftrue_oe ao _ cap xs n k page g w h rfl hK hn hp hk' _ rfl (by simpa using e)
      · exact ftrue_ol ao _ cap xs n k page g w h rfl hK hn hp hk' e e2 (by simpa using e2)
      · obtain ⟨g, rfl⟩ := Int.eq_ofNat_of_zero_le e2
        exact ftrue_oo ao _ cap xs n k page g w h rfl hK hn hp hk' e (by omega) (by omega)
  · have hc0 : (fwE xs n page == 0) = false := by simpa using hW
    rcases hR with e | ⟨e, e2⟩ | ⟨e, e2, e3, e4⟩
    · exact ftrue_be ao _ cap xs n k page g w h rfl _ rfl hc0 _ rfl (by simpa using e)
    · exact ftrue_bl ao _ cap xs n k page g w h rfl _ rfl hc0 e e2 (by simpa using e2)
    · obtain ⟨g, rfl⟩ := Int.eq_ofNat_of_zero_le e2
      exact ftrue_bo ao _ cap xs n k page g w h rfl _ rfl hc0 e (by omega) (by omega)
end Go.Proofs.Ytehleeibgkpjmaa
