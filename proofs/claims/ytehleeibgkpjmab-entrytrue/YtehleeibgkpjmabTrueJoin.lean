/- EntryTrue answers true, whatever it is handed: the ways joined. -/
import Derived.Test.YtehleeibgkpjmabTrueWaysA
import Derived.Test.YtehleeibgkpjmabTrueWaysB
namespace Go.Proofs.Ytehleeibgkpjmab
open Go.RowKit
set_option maxRecDepth 20000
theorem true_any (v : Value) (xs : List Int) (k e i n m : Int) (w : World) (h : Sl w v xs) (hlo : -9223372036854775808 ≤ i) (hhi : i ≤ 9223372036854775807) :
    Calls Try.prog 5 #[v, .int .i64 k, .int .i64 e, .int .i64 i, .int .i64 n, .int .i64 m] w fun r w' => r = .returned (.bool true) ∧ Below w.heap.size w w' := by
  by_cases hf : withE xs k e = 0
  · obtain ⟨h0, hk0, hk4, _⟩ := withE_parts hf
    obtain ⟨k, rfl⟩ := Int.eq_ofNat_of_zero_le hk0
    by_cases hn : cutE xs n = 0
    · by_cases hm : cutE xs m = 0
      · obtain ⟨_, hn0, hn4⟩ := cutE_parts hn
        obtain ⟨_, hm0, hm4⟩ := cutE_parts hm
        obtain ⟨n, rfl⟩ := Int.eq_ofNat_of_zero_le hn0
        obtain ⟨m, rfl⟩ := Int.eq_ofNat_of_zero_le hm0
        exact true_yes_yes v xs k e i n m w h hlo hhi (by omega) hf h0 (by omega) (by omega)
      · exact true_yes_m v xs k e i n m w h hlo hhi (by omega) hf hn (by simpa using hm)
    · exact true_yes_n v xs k e i n m w h hlo hhi (by omega) hf (by simpa using hn)
  · have hf' : (withE xs k e == 0) = false := by simpa using hf
    by_cases hn : cutE xs n = 0
    · by_cases hm : cutE xs m = 0
      · obtain ⟨h0, hn0, hn4⟩ := cutE_parts hn
        obtain ⟨_, hm0, hm4⟩ := cutE_parts hm
        obtain ⟨n, rfl⟩ := Int.eq_ofNat_of_zero_le hn0
        obtain ⟨m, rfl⟩ := Int.eq_ofNat_of_zero_le hm0
        exact true_no_yes v xs k e i n m w h hf' h0 (by omega) (by omega)
      · exact true_no_m v xs k e i n m w h hf' hn (by simpa using hm)
    · exact true_no_n v xs k e i n m w h hf' (by simpa using hn)
end Go.Proofs.Ytehleeibgkpjmab
