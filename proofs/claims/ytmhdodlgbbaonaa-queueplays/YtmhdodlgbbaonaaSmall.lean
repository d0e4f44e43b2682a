/- PROVED: what the small functions answer: num's, the document's own, those that are handed on. CONDITIONS: none. -/
import Derived.Test.YtmhdodlgbbaonaaMem
namespace Go.Proofs.Ytmhdodlgbbaonaa
open Go.RowKit

theorem fit_any (x : Int) (w : World) :
    Calls Try.prog 29 #[.int .i64 x] w fun e w' => e = .returned (.int .i64 (fit x)) ∧ w' = w := by
  go_enter Try.func29, Try.ntmps29
  go_wp2
  go_ret
  exact ⟨rfl, rfl⟩

theorem plus_any (a b : Int) (w : World) :
    Calls Try.prog 26 #[.int .i64 a, .int .i64 b] w fun e w' => e = .returned (.int .i64 (plus a b)) ∧ w' = w := by
  have ha0 := fit_lo a
  have ha1 := fit_hi a
  have hb0 := fit_lo b
  have hb1 := fit_hi b
  go_enter Try.func26, Try.ntmps26
  go_wp2_with (go_at_call 29; refine (fit_any _ _).mono ?_; rintro e w' ⟨rfl, rfl⟩)
  go_ret
  exact ⟨rfl, rfl⟩

end Go.Proofs.Ytmhdodlgbbaonaa
