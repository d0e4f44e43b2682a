/- PROVED: what lesser and the begin of parts answer. CONDITIONS: none beyond each theorem's own. -/
import Derived.Test.YtngmjmehkehbeaaMem
import Derived.WalkKit
import Derived.WalkSpells
import Derived.WalkLawsBesides
import Derived.Deep.QuietTactic
import Derived.BigQuiet
namespace Go.Proofs.Ytngmjmehkehbeaa
open Go.RowKit

theorem lesser_any (x y : Int) (w : World) :
    Calls Try.prog 23 #[.int .i64 x, .int .i64 y] w fun e w' => e = .returned (.bool (decide (x < y))) ∧ w' = w := by
  go_enter Try.func23, Try.ntmps23
  go_wp2
  go_ret
  exact ⟨rfl, rfl⟩

theorem partsOf_any (u v : Int) (w : World) :
    Calls Try.prog 24 #[.int .i64 u, .int .i64 v] w fun e w' => e = .returned (.func (.func 27) #[] #[.pointer (some ⟨w.heap.size, 0, none⟩), .pointer (some ⟨w.heap.size + 1, 0, none⟩)]) ∧ w' = (w.alloc (.cells #[.int .i64 u] 3)).alloc (.cells #[.int .i64 v] 3) := by
  go_enter Try.func24, Try.ntmps24
  go_wp2
  go_ret
  exact ⟨rfl, rfl⟩

theorem parts_any (place u v : Int) (b c : Nat) (w : World) (h0 : 0 ≤ place) (h1 : place ≤ 35184372088832) (hu : 1 ≤ u) (hu2 : u ≤ 9223372036854775807) (hv : 1 ≤ v) (hv2 : v ≤ 9223372036854775807)
    (hc : w.cell? ⟨b, 0, none⟩ = some (.int .i64 u)) (hd : w.cell? ⟨c, 0, none⟩ = some (.int .i64 v)) :
    Calls Try.prog 27 #[.int .i64 place, .pointer (some ⟨b, 0, none⟩), .pointer (some ⟨c, 0, none⟩)] w fun e w' => e = .returned (.int .i64 (max (place / u - (v - 1)) 0 * u)) ∧ ∃ n, w' = w.drewN n := by
  have q0 : 0 ≤ place / u := Int.ediv_nonneg h0 (by omega)
  have q1 : place / u ≤ place := Int.ediv_le_self _ h0
  have q2 : place / u * u ≤ place := Int.ediv_mul_le _ (by omega)
  have m0 : 0 ≤ max (place / u - (v - 1)) 0 * u := Int.mul_nonneg (by omega) (by omega)
  have m1 : max (place / u - (v - 1)) 0 * u ≤ place / u * u := Int.mul_le_mul_of_nonneg_right (by omega) (by omega)
  have M : Hid (wrap64 (max (place / u - (v - 1)) 0 * u) = max (place / u - (v - 1)) 0 * u) := IntWalk.wrap64_in _ (by omega)
  clear m0 m1 q2
  go_enter Try.func27, Try.ntmps27
  go_wp2
  go_region
  all_goals (try go_wp2)
  all_goals go_ret
  exact ⟨ret_int M.out, 1, rfl⟩

end Go.Proofs.Ytngmjmehkehbeaa
