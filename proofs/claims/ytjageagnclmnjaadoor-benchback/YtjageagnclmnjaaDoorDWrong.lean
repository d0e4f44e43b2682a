/- PROVED: what the verifier's PWrong and PStart answer. CONDITIONS: none beyond each theorem's own. -/
import Derived.Test.YtjageagnclmnjaaDoorDMem
import Derived.Test.YtjageagnclmnjaaDoorKDuel
import Derived.Deep.RegionHeld3
namespace Go.Proofs.YtjageagnclmnjaaDoor.D
open Go.RowKit K

theorem tok : Hid True := trivial

set_option maxHeartbeats 3200000 in
theorem pwrong_kind (k0 k1 r m j : Int) (w : World) (h : min k0 k1 < 1 ∨ decide (min k0 k1 < 1) = false ∧ 3 < max k0 k1) :
    Calls Tryd.prog 13 #[.agg #[.int .i64 k0, .int .i64 k1, .int .i64 r, .int .i64 m, .int .i64 j]] w fun e w' => e = .returned (.int .i64 5) ∧ Below w.heap.size w w' := by
  rcases h with h | ⟨h, h'⟩
  all_goals
    go_enter Tryd.func13, Tryd.ntmps13
    go_wp2
    go_ret
    exact ⟨rfl, balloc (Below.refl _ _) _⟩

set_option maxHeartbeats 3200000 in
theorem pwrong_of (k0 k1 r m j : Int) (w : World) (h : decide (min k0 k1 < 1) = false) (h' : decide (3 < max k0 k1) = false) (t0 t1 t2 t3 t4 t5 : Bool) (h0 : decide (r < 1) = t0) (h1 : decide (12 < r) = t1) (h2 : decide (m < 0) = t2) (h3 : decide (16 < m) = t3) (h4 : decide (j < 0) = t4) (h5 : decide (3 < j) = t5) :
    Calls Tryd.prog 13 #[.agg #[.int .i64 k0, .int .i64 k1, .int .i64 r, .int .i64 m, .int .i64 j]] w fun e w' => e = .returned (.int .i64 (if (t0 || (t1 || (t2 || (t3 || (t4 || t5))))) then 2 else 0)) ∧ Below w.heap.size w w' := by
  cases t0
  case' false => cases t1
  case' false.false => cases t2
  case' false.false.false => cases t3
  case' false.false.false.false => cases t4
  case' false.false.false.false.false => cases t5
  all_goals
    go_enter Tryd.func13, Tryd.ntmps13
    go_wp2
    go_ret
    exact ⟨rfl, balloc (Below.refl _ _) _⟩

theorem pwrong_any (r : Ru) (w : World) :
    Calls Tryd.prog 13 #[.agg #[.int .i64 r.k0, .int .i64 r.k1, .int .i64 r.r, .int .i64 r.m, .int .i64 r.j]] w fun e w' => e = .returned (.int .i64 (wrong r)) ∧ Below w.heap.size w w' := by
  by_cases hk : kinds r
  · have hk' := hk
    unfold kinds at hk'
    have := pwrong_of r.k0 r.k1 r.r r.m r.j w (decide_eq_false (by omega)) (decide_eq_false (by omega)) _ _ _ _ _ _ rfl rfl rfl rfl rfl rfl
    refine this.mono ?_
    rintro e w' ⟨rfl, b⟩
    refine ⟨?_, b⟩
    congr 2
    unfold wrong
    rw [if_pos hk]
    by_cases hr : ranges r
    · rw [if_pos hr]
      unfold ranges at hr
      rw [if_neg]
      simp only [Bool.or_eq_true, decide_eq_true_iff]
      omega
    · rw [if_neg hr]
      unfold ranges at hr
      rw [if_pos]
      simp only [Bool.or_eq_true, decide_eq_true_iff]
      omega
  · rw [show wrong r = 5 by unfold wrong; rw [if_neg hk]]
    unfold kinds at hk
    refine pwrong_kind r.k0 r.k1 r.r r.m r.j w ?_
    by_cases h : min r.k0 r.k1 < 1
    · exact .inl h
    · exact .inr ⟨decide_eq_false h, by omega⟩
theorem pwrong_is (r : Ru) (e : Int) (h : wrong r = e) (w : World) :
    Calls Tryd.prog 13 #[.agg #[.int .i64 r.k0, .int .i64 r.k1, .int .i64 r.r, .int .i64 r.m, .int .i64 r.j]] w fun x w' => x = .returned (.int .i64 e) ∧ Below w.heap.size w w' := by subst h; exact pwrong_any r w

end Go.Proofs.YtjageagnclmnjaaDoor.D

