/- PROVED: what link.within, Right and flowsInRow answer. CONDITIONS: none beyond each theorem's own. -/
import Derived.Test.YtobgjnjndkfjoaaKRnd
namespace Go.Proofs.Ytobgjnjndkfjoaa.K
open Go.RowKit

theorem within_any (n l h : Int) (w : World) :
    Calls Try.prog 58 #[.int .i64 n, .int .i64 l, .int .i64 h] w fun e w' => e = .returned (.bool (decide (l ≤ n) && decide (n ≤ h))) ∧ w' = w := by
  by_cases h1 : l ≤ n
  · go_enter Try.func58, Try.ntmps58
    go_wp2
    go_ret
    exact ⟨by simp [h1], rfl⟩
  · have h2 : decide (l ≤ n) = false := decide_eq_false h1
    go_enter Try.func58, Try.ntmps58
    go_wp2
    go_ret
    exact ⟨by simp, rfl⟩
theorem within_is (n l h : Int) (t : Bool) (e : (decide (l ≤ n) && decide (n ≤ h)) = t) (w : World) :
    Calls Try.prog 58 #[.int .i64 n, .int .i64 l, .int .i64 h] w fun e w' => e = .returned (.bool t) ∧ w' = w := by
  subst e; exact within_any n l h w

theorem idx0 (a b : Int) (w : World) : (Instr.index 22 (.agg #[.int .i64 a, .int .i64 b]) (.int .i64 0)).run Try.prog w = .ok (.int .i64 a) w := by kernel_rfl
theorem idx1 (a b : Int) (w : World) : (Instr.index 22 (.agg #[.int .i64 a, .int .i64 b]) (.int .i64 1)).run Try.prog w = .ok (.int .i64 b) w := by kernel_rfl

theorem flows_any (a b s t : Int) (w : World) :
    Calls Try.prog 44 #[.agg #[.int .i64 a, .int .i64 b], .agg #[.int .i64 s, .int .i64 t]] w fun e w' => e = .returned (.func (.func 59) #[] #[.pointer (some ⟨w.heap.size, 0, none⟩), .pointer (some ⟨w.heap.size + 1, 0, none⟩)]) ∧ w' = (w.alloc (.cells #[.int .i64 a, .int .i64 b] 22)).alloc (.cells #[.int .i64 s, .int .i64 t] 22) := by
  go_enter Try.func44, Try.ntmps44
  go_wp2
  go_ret
  exact ⟨rfl, rfl⟩

end Go.Proofs.Ytobgjnjndkfjoaa.K
