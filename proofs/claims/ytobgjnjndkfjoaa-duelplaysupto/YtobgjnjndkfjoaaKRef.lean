/- PROVED: what the verifier's ORight and upto answer. CONDITIONS: none beyond each theorem's own. -/
import Derived.Test.YtobgjnjndkfjoaaKSmall
namespace Go.Proofs.Ytobgjnjndkfjoaa.K
open Go.RowKit
attribute [local go_sem] idx0 idx1

set_option maxHeartbeats 3200000 in
theorem oright_not (r m a b s t : Int) (w : World) (t0 t1 t2 t3 t4 t5 t6 t7 : Bool) (h0 : decide (1 ≤ r) = t0) (h1 : decide (r ≤ 12) = t1) (h2 : decide (0 ≤ m) = t2) (h3 : decide (m ≤ 16) = t3) (h4 : decide (0 ≤ a) = t4) (h5 : decide (0 ≤ b) = t5) (h6 : decide (a ≤ 16) = t6) (h7 : decide (b ≤ 16 - min a 16) = t7) (ha : t4 = true → 0 ≤ a)
    (hn : (t0 && (t1 && (t2 && (t3 && (t4 && (t5 && (t6 && t7))))))) = false) :
    Calls Try.prog 48 #[.int .i64 r, .int .i64 m, .agg #[.int .i64 a, .int .i64 b], .agg #[.int .i64 s, .int .i64 t]] w fun e w' => e = .returned (.bool false) ∧ w' = (w.alloc (.cells #[.int .i64 a, .int .i64 b] 22)).alloc (.cells #[.int .i64 s, .int .i64 t] 22) := by
  cases t0
  case' true => cases t1
  case' true.true => cases t2
  case' true.true.true => cases t3
  case' true.true.true.true => cases t4
  case' true.true.true.true.true => cases t5
  case' true.true.true.true.true.true => cases t6
  case' true.true.true.true.true.true.true => obtain rfl : t7 = false := hn
  all_goals
    first | replace ha := ha rfl | clear ha
    try clear hn
    go_enter Try.func48, Try.ntmps48
    go_wp2
    go_loop [9, 51] (fun ok i => ok = .bool false ∧ (i = .int .i64 0 ∨ i = .int .i64 1 ∨ i = .int .i64 2)) (fun _ i => 2 - (intOf i).toNat)
    case atStart => exact ⟨rfl, .inl rfl⟩
    case round =>
      obtain ⟨rfl, rfl | rfl | rfl⟩ := hrel
      · go_wp2
        go_round
        case rel => exact ⟨rfl, .inr (.inl rfl)⟩
        case measure => simp [intOf]
      · go_wp2
        go_round
        case rel => exact ⟨rfl, .inr (.inr rfl)⟩
        case measure => simp [intOf]
      · go_wp2
        go_ret
        exact ⟨rfl, rfl⟩

set_option maxHeartbeats 3200000 in
theorem oright_yes (r m a b s t : Int) (w : World) (h0 : 1 ≤ r) (h1 : r ≤ 12) (h2 : 0 ≤ m) (h3 : m ≤ 16) (h4 : 0 ≤ a) (h5 : 0 ≤ b) (h6 : a ≤ 16) (h7 : b ≤ 16 - min a 16) (x0 x1 y0 y1 : Bool) (k0 : decide (0 ≤ s) = x0) (k1 : decide (s ≤ 12) = x1) (j0 : decide (0 ≤ t) = y0) (j1 : decide (t ≤ 12) = y1) :
    Calls Try.prog 48 #[.int .i64 r, .int .i64 m, .agg #[.int .i64 a, .int .i64 b], .agg #[.int .i64 s, .int .i64 t]] w fun e w' => e = .returned (.bool (x0 && x1 && (y0 && y1))) ∧ w' = (w.alloc (.cells #[.int .i64 a, .int .i64 b] 22)).alloc (.cells #[.int .i64 s, .int .i64 t] 22) := by
  go_enter Try.func48, Try.ntmps48
  go_wp2
  go_loop [9, 51] (fun ok i => i = .int .i64 0 ∧ ok = .bool true ∨ i = .int .i64 1 ∧ ok = .bool (x0 && x1) ∨ i = .int .i64 2 ∧ ok = .bool (x0 && x1 && (y0 && y1))) (fun _ i => 2 - (intOf i).toNat)
  case atStart => exact .inl ⟨rfl, rfl⟩
  case round =>
    obtain ⟨rfl, rfl⟩ | ⟨rfl, rfl⟩ | ⟨rfl, rfl⟩ := hrel
    · cases x0
      case' true => cases x1
      all_goals
        go_wp2
        go_round
        case rel => exact .inr (.inl ⟨rfl, rfl⟩)
        case measure => simp [intOf]
    · generalize (x0 && x1) = z
      cases z
      case' true => cases y0
      case' true.true => cases y1
      all_goals
        go_wp2
        go_round
        case rel => exact .inr (.inr ⟨rfl, rfl⟩)
        case measure => simp [intOf]
    · go_wp2
      go_ret
      exact ⟨rfl, rfl⟩

theorem oright_any (r m a b s t : Int) (w : World) :
    Calls Try.prog 48 #[.int .i64 r, .int .i64 m, .agg #[.int .i64 a, .int .i64 b], .agg #[.int .i64 s, .int .i64 t]] w fun e w' => e = .returned (.bool (decide (lr r m a b s t))) ∧ w' = (w.alloc (.cells #[.int .i64 a, .int .i64 b] 22)).alloc (.cells #[.int .i64 s, .int .i64 t] 22) := by
  by_cases h : 1 ≤ r ∧ r ≤ 12 ∧ 0 ≤ m ∧ m ≤ 16 ∧ 0 ≤ a ∧ 0 ≤ b ∧ a ≤ 16 ∧ b ≤ 16 - min a 16
  · obtain ⟨h0, h1, h2, h3, h4, h5, h6, h7⟩ := h
    refine (oright_yes r m a b s t w h0 h1 h2 h3 h4 h5 h6 h7 _ _ _ _ rfl rfl rfl rfl).mono ?_
    rintro e w' ⟨rfl, rfl⟩
    refine ⟨?_, rfl⟩
    congr 2
    rw [Bool.eq_iff_iff]
    simp only [Bool.and_eq_true, decide_eq_true_iff]
    unfold lr
    omega
  · rw [show decide (lr r m a b s t) = false from decide_eq_false (fun k => h (by unfold lr at k; omega))]
    refine oright_not r m a b s t w _ _ _ _ _ _ _ _ rfl rfl rfl rfl rfl rfl rfl rfl (fun k => of_decide_eq_true k) ?_
    rw [Bool.eq_false_iff]
    intro k
    simp only [Bool.and_eq_true, decide_eq_true_iff] at k
    exact h (by omega)

set_option maxHeartbeats 1600000 in
set_option linter.unusedVariables false in
theorem upto_of (n a b s t o0 o1 k h g x y q0 q1 : Int) (w : World) (hn : 0 ≤ n ∧ n ≤ 28) (ha : 0 ≤ a ∧ a ≤ 16) (hb : 0 ≤ b ∧ b ≤ 16) (hs : 0 ≤ s ∧ s ≤ 12) (ht : 0 ≤ t ∧ t ≤ 12) (e0 : min n a = o0) (e1 : min (n - o0) b = o1) (e2 : n - (o0 + o1) = k) (e3 : min s t = h) (e4 : min k (s + t) = g) (d0 : (k + 1).tdiv 2 = q0) (d1 : k.tdiv 2 = q1)
    (i0 : 0 ≤ o0 ∧ o0 ≤ 16) (i1 : 0 ≤ o1 ∧ o1 ≤ 16) (i2 : 0 ≤ k ∧ k ≤ 28) (i3 : 0 ≤ h ∧ h ≤ 12) (i4 : 0 ≤ g ∧ g ≤ 28) (i5 : 0 ≤ q0 ∧ q0 ≤ 28) (i6 : 0 ≤ q1 ∧ q1 ≤ 28)
    (hc : k ≤ 2 * h ∧ x = o0 + q0 ∧ y = o1 + q1 ∨ decide (k ≤ 2 * h) = false ∧ h < s ∧ x = o0 + g - h ∧ y = o1 + h ∨ decide (k ≤ 2 * h) = false ∧ decide (h < s) = false ∧ x = o0 + h ∧ y = o1 + g - h) :
    Calls Try.prog 49 #[.int .i64 n, .agg #[.int .i64 a, .int .i64 b], .agg #[.int .i64 s, .int .i64 t]] w fun e w' => e = .returned (.agg #[.int .i64 x, .int .i64 y]) ∧ Below w.heap.size w w' := by
  rcases hc with ⟨c0, rfl, rfl⟩ | ⟨c0, c1, rfl, rfl⟩ | ⟨c0, c1, rfl, rfl⟩
  all_goals
    go_enter Try.func49, Try.ntmps49
    go_wp2
    refine bodyPost_ret (by simp [results, Try.results49, go_sem]) rfl ⟨rfl, ?_⟩
    exact balloc (balloc (balloc (balloc (Below.refl _ _) _) _) _) _

theorem upto_any (n a b s t : Int) (w : World) (hn : 0 ≤ n ∧ n ≤ 28) (ha : 0 ≤ a ∧ a ≤ 16) (hb : 0 ≤ b ∧ b ≤ 16) (hs : 0 ≤ s ∧ s ≤ 12) (ht : 0 ≤ t ∧ t ≤ 12) :
    Calls Try.prog 49 #[.int .i64 n, .agg #[.int .i64 a, .int .i64 b], .agg #[.int .i64 s, .int .i64 t]] w fun e w' => e = .returned (.agg #[.int .i64 (u0 n a b s t), .int .i64 (u1 n a b s t)]) ∧ Below w.heap.size w w' := by
  have p0 : (n - (min n a + min (n - min n a) b) + 1).tdiv 2 = (n - (min n a + min (n - min n a) b) + 1) / 2 := Int.tdiv_eq_ediv_of_nonneg (by omega)
  have p1 : (n - (min n a + min (n - min n a) b)).tdiv 2 = (n - (min n a + min (n - min n a) b)) / 2 := Int.tdiv_eq_ediv_of_nonneg (by omega)
  refine upto_of n a b s t _ _ _ _ _ _ _ _ _ w hn ha hb hs ht rfl rfl rfl rfl rfl p0 p1 (by omega) (by omega) (by omega) (by omega) (by omega) (by omega) (by omega) ?_
  unfold u0 u1
  by_cases h1 : n - (min n a + min (n - min n a) b) ≤ 2 * min s t
  · rw [if_pos h1, if_pos h1]
    exact .inl ⟨h1, rfl, rfl⟩
  · rw [if_neg h1, if_neg h1]
    by_cases h2 : s > min s t
    · rw [if_pos h2, if_pos h2]
      exact .inr (.inl ⟨decide_eq_false h1, h2, rfl, rfl⟩)
    · rw [if_neg h2, if_neg h2]
      exact .inr (.inr ⟨decide_eq_false h1, decide_eq_false h2, rfl, rfl⟩)

end Go.Proofs.Ytobgjnjndkfjoaa.K
