/- PROVED: what copa.within, New, wayOf, speedOf and Right answer. CONDITIONS: none beyond each theorem's own. -/
import Derived.Test.YtobgjnjndkfjoaaCCtl
import Derived.Test.YtobgjnjndkfjoaaCSame
import Derived.Test.YtobgjnjndkfjoaaCCopa
import Derived.Deep.RegionWith
import Derived.Deep.CutRange
namespace Go.Proofs.Ytobgjnjndkfjoaa.C
open Go.RowKit

theorem within_any (n : Int) (w : World) :
    Calls Try.prog 51 #[.int .i64 n] w fun e w' => e = .returned (.int .i64 (clip n)) ∧ w' = w := by
  go_enter Try.func51, Try.ntmps51
  go_wp2
  go_ret
  exact ⟨rfl, rfl⟩

theorem new_any (n : Int) (w : World) :
    Calls Try.prog 37 #[.int .i64 n] w fun e w' => e = .returned (.agg #[.int .i64 2, .int .i64 (clip n), .int .i64 (-1), .int .i64 0, .int .i64 0, .int .i64 0]) ∧ Below w.heap.size w w' := by
  have c := fun v => within_any n v
  generalize clip n = m at c ⊢
  go_enter Try.func37, Try.ntmps37
  go_wp2_with (go_at_call 51; refine (c _).mono ?_; rintro e w'' ⟨rfl, rfl⟩)
  exact bodyPost_ret (v := .agg #[.int .i64 2, .int .i64 m, .int .i64 (-1), .int .i64 0, .int .i64 0, .int .i64 0]) (by simp [results, Try.results37, go_sem]) rfl ⟨rfl, (Below.refl _ _).alloc (Nat.le_refl _) _⟩

theorem way_of (n x d y m : Int) (w : World) (hd0 : 0 ≤ d) (hd1 : d ≤ 1099511627776) (h : x = 0 ∧ y = 1 ∨ (x == 0) = false ∧ ¬ x = 0 ∧ (2 * (1 + d)).tdiv x = m ∧ 0 ≤ m ∧ m ≤ 2199023255554 ∧ (decide (n ≤ m) = true ∧ y = 1 ∨ decide (n ≤ m) = false ∧ y = -1)) :
    Calls Try.prog 52 #[.int .i64 n, .int .i64 x, .int .i64 d] w fun e w' => e = .returned (.int .i64 y) ∧ w' = w := by
  rcases h with ⟨rfl, rfl⟩ | ⟨h0, hx, hm, hm0, hm1, ⟨h2, rfl⟩ | ⟨h2, rfl⟩⟩
  all_goals
    go_enter Try.func52, Try.ntmps52
    go_wp2
    go_ret
    exact ⟨rfl, rfl⟩

theorem way_any (n x d : Int) (w : World) (hx0 : 0 ≤ x) (hd0 : 0 ≤ d) (hd1 : d ≤ 1099511627776) :
    Calls Try.prog 52 #[.int .i64 n, .int .i64 x, .int .i64 d] w fun e w' => e = .returned (.int .i64 (wy n x d)) ∧ w' = w := by
  by_cases h : x = 0
  · refine way_of n x d _ 0 w hd0 hd1 (.inl ⟨h, ?_⟩)
    unfold wy; rw [h, Int.mul_zero, if_pos (by omega)]
  · have h0 : 0 < x := by omega
    have q := wy_div (n := n) (d := d) h0
    have tv : (2 * (1 + d)).tdiv x = 2 * (1 + d) / x := Int.tdiv_eq_ediv_of_nonneg (by omega)
    have m0 : 0 ≤ 2 * (1 + d) / x := Int.ediv_nonneg (by omega) (by omega)
    have m1 : 2 * (1 + d) / x ≤ 2 * (1 + d) := Int.ediv_le_self _ (by omega)
    refine way_of n x d _ _ w hd0 hd1 (.inr ⟨by simpa using h, h, tv, m0, by omega, ?_⟩)
    unfold wy
    by_cases c : n * x ≤ 2 * (1 + d)
    · exact .inl ⟨decide_eq_true (q.2 c), if_pos c⟩
    · exact .inr ⟨decide_eq_false fun h => c (q.1 h), if_neg c⟩

set_option maxHeartbeats 1600000 in
theorem speed_any (k n b a s q y : Int) (w : World) (hs0 : 0 ≤ s) (hs1 : s ≤ 4) :
    Calls Try.prog 53 #[.agg #[.int .i64 k, .int .i64 n, .int .i64 b, .int .i64 a, .int .i64 s, .int .i64 q], .int .i64 y] w fun e w' => e = .returned (.int .i64 (spd a s y)) ∧ Below w.heap.size w w' := by
  by_cases h : y = a
  · rw [show spd a s y = min (max (2 * s) 1) 4 by unfold spd; rw [if_pos h]]
    subst h
    go_enter Try.func53, Try.ntmps53
    go_wp2
    go_ret
    exact ⟨rfl, balloc (Below.refl _ _) _⟩
  · rw [show spd a s y = 1 by unfold spd; rw [if_neg h]]
    go_enter Try.func53, Try.ntmps53
    go_wp2
    go_ret
    exact ⟨rfl, balloc (Below.refl _ _) _⟩

end Go.Proofs.Ytobgjnjndkfjoaa.C
