/- PROVED: what link.Right answers. CONDITIONS: none beyond each theorem's own. -/
import Derived.Test.YtobgjnjndkfjoaaKSmall
namespace Go.Proofs.Ytobgjnjndkfjoaa.K
open Go.RowKit
set_option maxHeartbeats 4000000 in
theorem right_of (r m a b s t : Int) (w : World) (t0 t1 t2 t3 t4 t5 : Bool) (h2 : t2 = true → 0 ≤ a ∧ a ≤ 16)
    (k0 : ∀ v, Calls Try.prog 58 #[.int .i64 r, .int .i64 1, .int .i64 12] v fun e w' => e = .returned (.bool t0) ∧ w' = v)
    (k1 : ∀ v, Calls Try.prog 58 #[.int .i64 m, .int .i64 0, .int .i64 16] v fun e w' => e = .returned (.bool t1) ∧ w' = v)
    (k2 : ∀ v, Calls Try.prog 58 #[.int .i64 a, .int .i64 0, .int .i64 16] v fun e w' => e = .returned (.bool t2) ∧ w' = v)
    (k3 : ∀ v, Calls Try.prog 58 #[.int .i64 b, .int .i64 0, .int .i64 (16 - a)] v fun e w' => e = .returned (.bool t3) ∧ w' = v)
    (k4 : ∀ v, Calls Try.prog 58 #[.int .i64 s, .int .i64 0, .int .i64 12] v fun e w' => e = .returned (.bool t4) ∧ w' = v)
    (k5 : ∀ v, Calls Try.prog 58 #[.int .i64 t, .int .i64 0, .int .i64 12] v fun e w' => e = .returned (.bool t5) ∧ w' = v) :
    Calls Try.prog 43 #[.int .i64 r, .int .i64 m, .agg #[.int .i64 a, .int .i64 b], .agg #[.int .i64 s, .int .i64 t]] w fun e w' => e = .returned (.bool (t0 && (t1 && (t2 && (t3 && (t4 && t5)))))) ∧ w' = (w.alloc (.cells #[.int .i64 a, .int .i64 b] 22)).alloc (.cells #[.int .i64 s, .int .i64 t] 22) := by
  cases t0
  case' true => cases t1
  case' true.true => cases t2
  case' true.true.true => obtain ⟨ha0, ha1⟩ := h2 rfl
  case' true.true.true => cases t3
  case' true.true.true.true => cases t4
  all_goals
    go_enter Try.func43, Try.ntmps43

    go_wp2_with (first
      | (go_at_call 58; refine (k0 _).mono ?_; clear k0; rintro e w'' ⟨rfl, rfl⟩)
      | (go_at_call 58; refine (k1 _).mono ?_; clear k1; rintro e w'' ⟨rfl, rfl⟩)
      | (go_at_call 58; refine (k2 _).mono ?_; clear k2; rintro e w'' ⟨rfl, rfl⟩)
      | (go_at_call 58; refine (k3 _).mono ?_; clear k3; rintro e w'' ⟨rfl, rfl⟩)
      | (go_at_call 58; refine (k4 _).mono ?_; clear k4; rintro e w'' ⟨rfl, rfl⟩)
      | (go_at_call 58; refine (k5 _).mono ?_; clear k5; rintro e w'' ⟨rfl, rfl⟩))
    go_ret
    exact ⟨rfl, rfl⟩

theorem right_any (r m a b s t : Int) (w : World) :
    Calls Try.prog 43 #[.int .i64 r, .int .i64 m, .agg #[.int .i64 a, .int .i64 b], .agg #[.int .i64 s, .int .i64 t]] w fun e w' => e = .returned (.bool (decide (lr r m a b s t))) ∧ w' = (w.alloc (.cells #[.int .i64 a, .int .i64 b] 22)).alloc (.cells #[.int .i64 s, .int .i64 t] 22) := by
  have := right_of r m a b s t w _ _ _ _ _ _ (fun h => by simp only [Bool.and_eq_true, decide_eq_true_iff] at h; exact h) (within_any r 1 12) (within_any m 0 16) (within_any a 0 16) (within_any b 0 (16 - a)) (within_any s 0 12) (within_any t 0 12)
  refine this.mono ?_
  rintro e w' ⟨rfl, rfl⟩
  refine ⟨?_, rfl⟩
  congr 2
  rw [Bool.eq_iff_iff]
  simp only [Bool.and_eq_true, decide_eq_true_iff]
  unfold lr
  omega

end Go.Proofs.Ytobgjnjndkfjoaa.K
