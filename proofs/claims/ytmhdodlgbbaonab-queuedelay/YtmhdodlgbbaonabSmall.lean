/- PROVED: what the small functions answer: num's, the document's own, those that are handed on. CONDITIONS: none. -/
import Derived.Test.YtmhdodlgbbaonabMem
namespace Go.Proofs.Ytmhdodlgbbaonab
open Go.RowKit

theorem fit_any (x : Int) (w : World) :
    Calls Try.prog 18 #[.int .i64 x] w fun e w' => e = .returned (.int .i64 (fit x)) ∧ w' = w := by
  go_enter Try.func18, Try.ntmps18
  go_wp2
  go_ret
  exact ⟨rfl, rfl⟩

theorem plus_any (a b : Int) (w : World) :
    Calls Try.prog 13 #[.int .i64 a, .int .i64 b] w fun e w' => e = .returned (.int .i64 (plus a b)) ∧ w' = w := by
  have ha0 := fit_lo a
  have ha1 := fit_hi a
  have hb0 := fit_lo b
  have hb1 := fit_hi b
  go_enter Try.func13, Try.ntmps13
  go_wp2_with (go_at_call 18; refine (fit_any _ _).mono ?_; rintro e w' ⟨rfl, rfl⟩)
  go_ret
  exact ⟨rfl, rfl⟩

end Go.Proofs.Ytmhdodlgbbaonab
