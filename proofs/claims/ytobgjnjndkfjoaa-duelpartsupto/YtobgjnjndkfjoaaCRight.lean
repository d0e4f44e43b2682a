/- PROVED: what copa.Right answers. CONDITIONS: none beyond each theorem's own. -/
import Derived.Test.YtobgjnjndkfjoaaCSmall
namespace Go.Proofs.Ytobgjnjndkfjoaa.C
open Go.RowKit

set_option maxHeartbeats 4000000 in
theorem right_of (k n b a s q m : Int) (w : World) (c : ∀ v, Calls Try.prog 51 #[.int .i64 n] v fun e w' => e = .returned (.int .i64 m) ∧ w' = v) (t0 t1 t2 t3 t4 t5 t6 t7 t8 : Bool) (h0 : (k == 2) = t0) (h1 : (n == m) = t1) (h2 : (q == 0) = t2) (h3 : decide (-1 ≤ b) = t3) (h4 : decide (b ≤ 1099511627776) = t4) (h5 : decide (-1 ≤ a) = t5) (h6 : decide (a ≤ 1) = t6) (h7 : decide (0 ≤ s) = t7) (h8 : decide (s ≤ 4) = t8) :
    Calls Try.prog 38 #[.agg #[.int .i64 k, .int .i64 n, .int .i64 b, .int .i64 a, .int .i64 s, .int .i64 q]] w fun e w' => e = .returned (.bool (t0 && (t1 && (t2 && (t3 && (t4 && (t5 && (t6 && (t7 && t8))))))))) ∧ Below w.heap.size w w' := by
  obtain ⟨c0, c1, c2, c3, c4, c5, f0, f1, f2, f3, f4, f5⟩ := Ctl.new w _ rfl k n b a s q
  have bb : Below w.heap.size w (w.alloc (.cells #[.int .i64 k, .int .i64 n, .int .i64 b, .int .i64 a, .int .i64 s, .int .i64 q] 26)) := balloc (Below.refl _ _) _
  cases t0
  case' true => cases t1
  case' true.true => cases t2
  case' true.true.true => cases t3
  case' true.true.true.true => cases t4
  case' true.true.true.true.true => cases t5
  case' true.true.true.true.true.true => cases t6
  case' true.true.true.true.true.true.true => cases t7
  case' true.true.true.true.true.true.true.true => cases t8
  all_goals
    go_enter Try.func38, Try.ntmps38
    go_wp2
    go_quiet ((go_at_call 51; refine (c _).mono ?_; rintro e w'' ⟨rfl, rfl⟩; exact ⟨rfl, _, rfl⟩))
    go_wp2
    go_ret
    exact ⟨rfl, below_drewN bb _⟩

theorem right_any (k n b a s q : Int) (w : World) :
    Calls Try.prog 38 #[.agg #[.int .i64 k, .int .i64 n, .int .i64 b, .int .i64 a, .int .i64 s, .int .i64 q]] w fun e w' => e = .returned (.bool (decide (lright k n b a s q))) ∧ Below w.heap.size w w' := by
  have := right_of k n b a s q (clip n) w (within_any n) _ _ _ _ _ _ _ _ _ rfl rfl rfl rfl rfl rfl rfl rfl rfl
  rw [show (k == 2 && (n == clip n && (q == 0 && (decide (-1 ≤ b) && (decide (b ≤ 1099511627776) && (decide (-1 ≤ a) && (decide (a ≤ 1) && (decide (0 ≤ s) && decide (s ≤ 4))))))))) = decide (lright k n b a s q) by
    rw [Bool.eq_iff_iff]
    simp only [Bool.and_eq_true, decide_eq_true_iff, beq_iff_eq]
    unfold lright clip
    omega] at this
  exact this

end Go.Proofs.Ytobgjnjndkfjoaa.C
