/- PROVED: what the small functions answer: num's, the document's own, those that are handed on. CONDITIONS: none. -/
import Derived.Test.YtggnhgbimkfdaaaMem
namespace Go.Proofs.Ytggnhgbimkfdaaa
open Go.RowKit

theorem fit_any (x : Int) (w : World) :
    Calls Try.prog 16 #[.int .i64 x] w fun e w' => e = .returned (.int .i64 (fit x)) ∧ w' = w := by
  go_enter Try.func16, Try.ntmps16
  go_wp2
  go_ret
  exact ⟨rfl, rfl⟩

theorem plus_any (a b : Int) (w : World) :
    Calls Try.prog 17 #[.int .i64 a, .int .i64 b] w fun e w' => e = .returned (.int .i64 (plus a b)) ∧ w' = w := by
  have ha0 := fit_lo a
  have ha1 := fit_hi a
  have hb0 := fit_lo b
  have hb1 := fit_hi b
  go_enter Try.func17, Try.ntmps17
  go_wp2_with (go_at_call 16; refine (fit_any _ _).mono ?_; rintro e w' ⟨rfl, rfl⟩)
  go_ret
  exact ⟨rfl, rfl⟩

theorem rfit_any (x : Int) (w : World) :
    Calls Try.prog 27 #[.int .i64 x] w fun e w' => e = .returned (.int .i64 (fit x)) ∧ w' = w := by
  by_cases h0 : x < 0
  · go_enter Try.func27, Try.ntmps27
    go_wp2
    go_ret
    exact ⟨ret_int (by unfold fit; omega), rfl⟩
  · by_cases h1 : 1152921504606846976 < x
    · go_enter Try.func27, Try.ntmps27
      go_wp2
      go_ret
      exact ⟨ret_int (by unfold fit; omega), rfl⟩
    · go_enter Try.func27, Try.ntmps27
      go_wp2
      go_ret
      exact ⟨ret_int (by unfold fit; omega), rfl⟩

end Go.Proofs.Ytggnhgbimkfdaaa
