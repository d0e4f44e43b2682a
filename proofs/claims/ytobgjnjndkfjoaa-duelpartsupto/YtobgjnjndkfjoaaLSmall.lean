/- PROVED: what ledbat.within, bounded, growth, New and rightPart answer. CONDITIONS: none beyond each theorem's own. -/
import Derived.Test.YtobgjnjndkfjoaaLCtl
import Derived.Test.YtobgjnjndkfjoaaLSame
import Derived.Test.YtobgjnjndkfjoaaLLed
import Derived.Deep.RegionWith
import Derived.Deep.CutRange
import Derived.Deep.RegionHeld3
namespace Go.Proofs.Ytobgjnjndkfjoaa.L
open Go.RowKit

theorem within_any (n : Int) (w : World) :
    Calls Try.prog 54 #[.int .i64 n] w fun e w' => e = .returned (.int .i64 (clip n)) ∧ w' = w := by
  go_enter Try.func54, Try.ntmps54
  go_wp2
  go_ret
  exact ⟨rfl, rfl⟩

theorem bounded_any (n : Int) (w : World) :
    Calls Try.prog 56 #[.int .i64 n] w fun e w' => e = .returned (.int .i64 (bd n)) ∧ w' = w := by
  go_enter Try.func56, Try.ntmps56
  go_wp2
  go_ret
  exact ⟨rfl, rfl⟩

theorem growth_any (x : Int) (w : World) (h0 : 0 ≤ x) (h1 : x ≤ 1099511627776) :
    Calls Try.prog 57 #[.int .i64 x] w fun e w' => e = .returned (.int .i64 (gr x)) ∧ w' = w := by
  go_enter Try.func57, Try.ntmps57
  go_wp2
  go_ret
  exact ⟨rfl, rfl⟩

theorem new_any (n : Int) (w : World) :
    Calls Try.prog 40 #[.int .i64 n] w fun e w' => e = .returned (.agg #[.int .i64 3, .int .i64 (clip n), .int .i64 (-1), .int .i64 0, .int .i64 0, .int .i64 0]) ∧ Below w.heap.size w w' := by
  have c := fun v => within_any n v
  generalize clip n = m at c ⊢
  go_enter Try.func40, Try.ntmps40
  go_wp2_with (go_at_call 54; refine (c _).mono ?_; rintro e w'' ⟨rfl, rfl⟩)
  exact bodyPost_ret (v := .agg #[.int .i64 3, .int .i64 m, .int .i64 (-1), .int .i64 0, .int .i64 0, .int .i64 0]) (by simp [results, Try.results40, go_sem]) rfl ⟨rfl, (Below.refl _ _).alloc (Nat.le_refl _) _⟩

/-- may such a part be? -/
def rpart (n q : Int) : Prop := n = 12 ∧ q = 0 ∨ n ≠ 12 ∧ 0 ≤ q ∧ q < 4
instance (n q : Int) : Decidable (rpart n q) := by unfold rpart; infer_instance

set_option maxHeartbeats 1600000 in
theorem part_any (k n b a s q : Int) (w : World) :
    Calls Try.prog 55 #[.agg #[.int .i64 k, .int .i64 n, .int .i64 b, .int .i64 a, .int .i64 s, .int .i64 q]] w fun e w' => e = .returned (.bool (decide (rpart n q))) ∧ Below w.heap.size w w' := by
  by_cases h : n = 12
  · rw [show decide (rpart n q) = (q == 0) by rw [Bool.eq_iff_iff, decide_eq_true_iff, beq_iff_eq]; unfold rpart; omega]
    subst h
    go_enter Try.func55, Try.ntmps55
    go_wp2
    go_ret
    exact ⟨rfl, balloc (Below.refl _ _) _⟩
  · by_cases h2 : 0 ≤ q
    · rw [show decide (rpart n q) = decide (q < 4) by rw [Bool.eq_iff_iff, decide_eq_true_iff, decide_eq_true_iff]; unfold rpart; omega]
      have h2 : decide (0 ≤ q) = true := decide_eq_true h2
      go_enter Try.func55, Try.ntmps55
      go_wp2
      go_ret
      exact ⟨rfl, balloc (Below.refl _ _) _⟩
    · rw [show decide (rpart n q) = false by rw [decide_eq_false_iff_not]; unfold rpart; omega]
      have h2 : decide (0 ≤ q) = false := decide_eq_false h2
      go_enter Try.func55, Try.ntmps55
      go_wp2
      go_ret
      exact ⟨rfl, balloc (Below.refl _ _) _⟩

end Go.Proofs.Ytobgjnjndkfjoaa.L
