/- PROVED: what is asked ahead of each promise. CONDITIONS: none beyond each theorem's own. -/
import Derived.Test.YtacgfalgifgkoaaTold
import Derived.Test.YtacgfalgifgkoaaSame
namespace Go.Proofs.Ytacgfalgifgkoaa
open Go.RowKit
attribute [local go_sem ↓] eqA eqR

set_option maxHeartbeats 1600000 in
theorem alive_any (w : World) : Calls Try.prog 11 #[] w fun e w' => e = .returned (.bool true) ∧ Below w.heap.size w w' := by
  have s1 := sameR_self 3 1 2 0 1 0
  have s2 := sameA_self 1 1
  go_enter Try.func11, Try.ntmps11
  go_wp2_with (go_at_call 7; refine (pass_is 2 2 1 0 3 1 2 0 1 0 1 1 (by decide +kernel) (by decide +kernel) _).mono ?_; rintro e v1 ⟨rfl, b1⟩)
  go_ret
  exact ⟨rfl, balloc (balloc b1 _) _⟩

end Go.Proofs.Ytacgfalgifgkoaa
