/- PROVED: what duel.Wrong answers. CONDITIONS: none beyond each theorem's own. -/
import Derived.Test.YtjageagnclmnjaaDoorDSend
import Derived.Test.YtjageagnclmnjaaDoorKDuel
namespace Go.Proofs.YtjageagnclmnjaaDoor.D
open Go.RowKit K
attribute [local go_sem] idx0 idx1

set_option maxHeartbeats 3200000 in
theorem wrong_of (k0 k1 r m j : Int) (w : World) (t0 t1 t2 t3 t4 : Bool) (A0 B0 C0 A1 B1 C1 : Value)
    (h0 : (∃ a b c, t0 = true ∧ A0 = .func (.func a) #[] #[] ∧ B0 = .func (.func b) #[] #[] ∧ C0 = .func (.func c) #[] #[]) ∨ t0 = false ∧ A0 = .nilFunc ∧ B0 = .nilFunc ∧ C0 = .nilFunc)
    (h1 : (∃ a b c, t1 = true ∧ A1 = .func (.func a) #[] #[] ∧ B1 = .func (.func b) #[] #[] ∧ C1 = .func (.func c) #[] #[]) ∨ t1 = false ∧ A1 = .nilFunc ∧ B1 = .nilFunc ∧ C1 = .nilFunc)
    (s0 : ∀ v, Calls Tryd.prog 18 #[.int .i64 k0] v fun e w' => e = .returned (.tuple #[.agg #[A0, B0, C0], .bool t0]) ∧ Below v.heap.size v w')
    (s1 : ∀ v, Calls Tryd.prog 18 #[.int .i64 k1] v fun e w' => e = .returned (.tuple #[.agg #[A1, B1, C1], .bool t1]) ∧ Below v.heap.size v w')
    (c2 : ∀ v, Calls Tryd.prog 19 #[.int .i64 r, .int .i64 1, .int .i64 12] v fun e w' => e = .returned (.bool t2) ∧ w' = v)
    (c3 : ∀ v, Calls Tryd.prog 19 #[.int .i64 m, .int .i64 0, .int .i64 16] v fun e w' => e = .returned (.bool t3) ∧ w' = v)
    (c4 : ∀ v, Calls Tryd.prog 19 #[.int .i64 j, .int .i64 0, .int .i64 3] v fun e w' => e = .returned (.bool t4) ∧ w' = v) :
    Calls Tryd.prog 10 #[.agg #[.int .i64 k0, .int .i64 k1, .int .i64 r, .int .i64 m, .int .i64 j]] w fun e w' => e = .returned (.int .i64 (if t0 && t1 then if t2 && (t3 && t4) then 0 else 2 else 5)) ∧ Below w.heap.size w w' := by
  have X := Rul.new w _ rfl k0 k1 r m j
  have B : Below w.heap.size w (w.alloc (.cells #[.int .i64 k0, .int .i64 k1, .int .i64 r, .int .i64 m, .int .i64 j] 24)) := balloc (Below.refl _ _) _
  obtain ⟨x0, x1, _, _, _, _, _, _, _, _⟩ := id X
  go_enter Tryd.func10, Tryd.ntmps10
  go_wp2
  clear x0 x1
  go_loopw [9] (fun i wr => (i = .int .i64 0 ∨ i = .int .i64 1 ∧ t0 = true ∨ i = .int .i64 2 ∧ t0 = true ∧ t1 = true) ∧ Rul wr w.heap.size k0 k1 r m j ∧ Below w.heap.size w wr) (fun i _ => 2 - (intOf i).toNat)
  case atStart => exact ⟨.inl rfl, X, B⟩
  case round =>
    clear X B
    obtain ⟨rfl | ⟨rfl, rfl⟩ | ⟨rfl, rfl, rfl⟩, X, B⟩ := hrel
    · clear s1 c2 c3 c4 h1
      rcases h0 with ⟨P, Q, S, rfl, rfl, rfl, rfl⟩ | ⟨rfl, rfl, rfl, rfl⟩
      all_goals go_wp2_with (go_at_call 18; refine (s0 _).mono ?_; clear s0; rintro x v1 ⟨rfl, b⟩; replace X := X.kept b; replace B := bthen B b; clear b)
      · go_roundw
        case rel => exact ⟨.inr (.inl ⟨rfl, by first | rfl | trivial⟩), X.alloc _, balloc B _⟩
        case measure => simp [intOf]
      · go_ret
        exact ⟨rfl, balloc B _⟩
    · clear s0 c2 c3 c4 h0
      rcases h1 with ⟨P, Q, S, rfl, rfl, rfl, rfl⟩ | ⟨rfl, rfl, rfl, rfl⟩
      all_goals go_wp2_with (go_at_call 18; refine (s1 _).mono ?_; clear s1; rintro x v1 ⟨rfl, b⟩; replace X := X.kept b; replace B := bthen B b; clear b)
      · go_roundw
        case rel => exact ⟨.inr (.inr ⟨rfl, by first | rfl | trivial, by first | rfl | trivial⟩), X.alloc _, balloc B _⟩
        case measure => simp [intOf]
      · go_ret
        exact ⟨rfl, balloc B _⟩
    · obtain ⟨_, _, x2, x3, x4, _, _, _, _, _⟩ := id X
      clear s0 s1 h0 h1
      cases t2
      case' true => cases t3
      case' true.true => cases t4
      all_goals
        go_wp2_with (first
          | (go_at_call 19; refine (c2 _).mono ?_; clear c2; rintro x v1 ⟨rfl, rfl⟩)
          | (go_at_call 19; refine (c3 _).mono ?_; clear c3; rintro x v1 ⟨rfl, rfl⟩)
          | (go_at_call 19; refine (c4 _).mono ?_; clear c4; rintro x v1 ⟨rfl, rfl⟩))
        go_ret
        exact ⟨rfl, B⟩

theorem sender_any (k : Int) : ∃ A B C, ((∃ a b c, (decide (1 ≤ k) && decide (k ≤ 3)) = true ∧ A = .func (.func a) #[] #[] ∧ B = .func (.func b) #[] #[] ∧ C = .func (.func c) #[] #[]) ∨ (decide (1 ≤ k) && decide (k ≤ 3)) = false ∧ A = .nilFunc ∧ B = .nilFunc ∧ C = .nilFunc) ∧ ∀ w, Calls Tryd.prog 18 #[.int .i64 k] w fun e w' => e = .returned (.tuple #[.agg #[A, B, C], .bool (decide (1 ≤ k) && decide (k ≤ 3))]) ∧ Below w.heap.size w w' := by
  by_cases h : 1 ≤ k ∧ k ≤ 3
  · have e : (decide (1 ≤ k) && decide (k ≤ 3)) = true := by simp [h]
    rw [e]
    refine ⟨_, _, _, .inl ⟨stF k, rtF k, nxF k, rfl, rfl, rfl, rfl⟩, fun w => ?_⟩
    exact sender_yes k h w
  · have e : (decide (1 ≤ k) && decide (k ≤ 3)) = false := by simp; omega
    rw [e]
    refine ⟨_, _, _, .inr ⟨rfl, rfl, rfl, rfl⟩, fun w => ?_⟩
    exact sender_no k (by simp; omega) (by simp; omega) (by simp; omega) w

theorem wrong_any (r : Ru) (w : World) :
    Calls Tryd.prog 10 #[.agg #[.int .i64 r.k0, .int .i64 r.k1, .int .i64 r.r, .int .i64 r.m, .int .i64 r.j]] w fun e w' => e = .returned (.int .i64 (wrong r)) ∧ Below w.heap.size w w' := by
  obtain ⟨A0, B0, C0, h0, s0⟩ := sender_any r.k0
  obtain ⟨A1, B1, C1, h1, s1⟩ := sender_any r.k1
  refine (wrong_of r.k0 r.k1 r.r r.m r.j w _ _ _ _ _ A0 B0 C0 A1 B1 C1 h0 h1 s0 s1 (within_any _ _ _) (within_any _ _ _) (within_any _ _ _)).mono ?_
  rintro e w' ⟨rfl, b⟩
  refine ⟨?_, b⟩
  congr 2
  unfold wrong
  by_cases hk : kinds r
  · rw [if_pos hk]
    unfold kinds at hk
    rw [if_pos (by simp only [Bool.and_eq_true, decide_eq_true_iff]; omega)]
    by_cases hr : ranges r
    · rw [if_pos hr]
      unfold ranges at hr
      rw [if_pos (by simp only [Bool.and_eq_true, decide_eq_true_iff]; omega)]
    · rw [if_neg hr]
      unfold ranges at hr
      rw [if_neg (by simp only [Bool.and_eq_true, decide_eq_true_iff]; omega)]
  · rw [if_neg hk]
    unfold kinds at hk
    rw [if_neg (by simp only [Bool.and_eq_true, decide_eq_true_iff]; omega)]
theorem wrong_is (r : Ru) (e : Int) (h : wrong r = e) (w : World) :
    Calls Tryd.prog 10 #[.agg #[.int .i64 r.k0, .int .i64 r.k1, .int .i64 r.r, .int .i64 r.m, .int .i64 r.j]] w fun x w' => x = .returned (.int .i64 e) ∧ Below w.heap.size w w' := by subst h; exact wrong_any r w

end Go.Proofs.YtjageagnclmnjaaDoor.D
