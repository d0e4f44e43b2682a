/- PROVED: what count, distance and the two Fits answer. CONDITIONS: none beyond each theorem's own. -/
import Derived.Test.YtgfmaolifnnkgaaMem
namespace Go.Proofs.Ytgfmaolifnnkgaa
open Go.RowKit

/-- a number from 0 to Inf -/
def fit (x : Int) : Int := min (max x 0) 1152921504606846976
theorem fit_lo (x : Int) : 0 ≤ fit x := by unfold fit; omega
theorem fit_hi (x : Int) : fit x ≤ 1152921504606846976 := by unfold fit; omega
theorem fit_cnt (x : Int) : min (fit x) 1099511627776 = cnt x := by unfold fit cnt; omega

theorem count_any (x : Int) (w : World) :
    Calls Try.prog 15 #[.int .i64 x] w fun e w' => e = .returned (.int .i64 (cnt x)) ∧ w' = w := by
  go_enter Try.func15, Try.ntmps15
  go_wp2
  go_ret
  exact ⟨rfl, rfl⟩

theorem fit_any (x : Int) (w : World) :
    Calls Try.prog 13 #[.int .i64 x] w fun e w' => e = .returned (.int .i64 (fit x)) ∧ w' = w := by
  go_enter Try.func13, Try.ntmps13
  go_wp2
  go_ret
  exact ⟨rfl, rfl⟩

theorem rfit_any (x : Int) (w : World) :
    Calls Try.prog 16 #[.int .i64 x] w fun e w' => e = .returned (.int .i64 (fit x)) ∧ w' = w := by
  by_cases h0 : x < 0
  · go_enter Try.func16, Try.ntmps16
    go_wp2
    go_ret
    exact ⟨ret_int (by unfold fit; omega), rfl⟩
  · by_cases h1 : 1152921504606846976 < x
    · go_enter Try.func16, Try.ntmps16
      go_wp2
      go_ret
      exact ⟨ret_int (by unfold fit; omega), rfl⟩
    · go_enter Try.func16, Try.ntmps16
      go_wp2
      go_ret
      exact ⟨ret_int (by unfold fit; omega), rfl⟩

theorem distance_any (a b : Int) (w : World) (ha0 : 0 ≤ a) (ha1 : a ≤ 1099511627776) (hb0 : 0 ≤ b) (hb1 : b ≤ 1099511627776) :
    Calls Try.prog 17 #[.int .i64 a, .int .i64 b] w fun e w' => e = .returned (.int .i64 (apart a b)) ∧ w' = w := by
  go_enter Try.func17, Try.ntmps17
  go_wp2
  go_ret
  exact ⟨rfl, rfl⟩

end Go.Proofs.Ytgfmaolifnnkgaa
