/- PROVED: what link.within, Right and flowsInRow answer. CONDITIONS: none beyond each theorem's own. -/
import Derived.Test.YtjageagnclmnjaaDoorKRnd
namespace Go.Proofs.YtjageagnclmnjaaDoor.K
open Go.RowKit

theorem idx0 (a b : Int) (w : World) : (Instr.index 22 (.agg #[.int .i64 a, .int .i64 b]) (.int .i64 0)).run Tryd.prog w = .ok (.int .i64 a) w := by kernel_rfl
theorem idx1 (a b : Int) (w : World) : (Instr.index 22 (.agg #[.int .i64 a, .int .i64 b]) (.int .i64 1)).run Tryd.prog w = .ok (.int .i64 b) w := by kernel_rfl

end Go.Proofs.YtjageagnclmnjaaDoor.K
