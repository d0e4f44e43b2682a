/- PROVED: what the document's own way answers: clip, known, MRight, seen and lmore. CONDITIONS: none beyond each theorem's own. -/
import Derived.Test.YtniecidkkhneeaaAlive
namespace Go.Proofs.Ytniecidkkhneeaa
open Go.RowKit
set_option linter.unusedVariables false

theorem clip_any (n : Int) (w : World) :
    Calls Try.prog 21 #[.int .i64 n] w fun e w' => e = .returned (.int .i64 (clip n)) ∧ w' = w := by
  by_cases h1 : n < 1
  · rw [show clip n = 1 by unfold clip; omega]
    go_enter Try.func21, Try.ntmps21
    go_wp2
    go_ret
    exact ⟨rfl, rfl⟩
  · by_cases h2 : 12 < n
    · rw [show clip n = 12 by unfold clip; omega]
      go_enter Try.func21, Try.ntmps21
      go_wp2
      go_ret
      exact ⟨rfl, rfl⟩
    · rw [show clip n = n by unfold clip; omega]
      go_enter Try.func21, Try.ntmps21
      go_wp2
      go_ret
      exact ⟨rfl, rfl⟩

/-- what all of them have -/
def knownC (n b : Int) : Prop := (1 ≤ n ∧ n ≤ 12) ∧ -1 ≤ b ∧ b ≤ 1099511627776
instance (n b : Int) : Decidable (knownC n b) := by unfold knownC; infer_instance

set_option maxHeartbeats 1600000 in
theorem known_of (k n b a s q m : Int) (w : World) (c : ∀ v, Calls Try.prog 21 #[.int .i64 n] v fun e w' => e = .returned (.int .i64 m) ∧ w' = v) (t1 t2 t3 : Bool) (h1 : (n == m) = t1) (h2 : decide (-1 ≤ b) = t2) (h3 : decide (b ≤ 1099511627776) = t3) :
    Calls Try.prog 20 #[.agg #[.int .i64 k, .int .i64 n, .int .i64 b, .int .i64 a, .int .i64 s, .int .i64 q]] w fun e w' => e = .returned (.bool (t1 && (t2 && t3))) ∧ Below w.heap.size w w' := by
  have X := Ctl.new w _ rfl k n b a s q
  obtain ⟨c0, c1, c2, c3, c4, c5, f0, f1, f2, f3, f4, f5⟩ := X
  have bb : Below w.heap.size w (w.alloc (.cells #[.int .i64 k, .int .i64 n, .int .i64 b, .int .i64 a, .int .i64 s, .int .i64 q] 23)) := balloc (Below.refl _ _) _
  cases t1
  · go_enter Try.func20, Try.ntmps20
    go_wp2
    go_quiet ((go_at_call 21; refine (c _).mono ?_; rintro e w'' ⟨rfl, rfl⟩; exact ⟨rfl, _, rfl⟩))
    go_wp2
    go_ret
    exact ⟨rfl, below_drewN bb _⟩
  · cases t2
    · go_enter Try.func20, Try.ntmps20
      go_wp2
      go_quiet ((go_at_call 21; refine (c _).mono ?_; rintro e w'' ⟨rfl, rfl⟩; exact ⟨rfl, _, rfl⟩))
      go_wp2
      go_ret
      exact ⟨rfl, below_drewN bb _⟩
    · cases t3
      all_goals
        go_enter Try.func20, Try.ntmps20
        go_wp2
        go_quiet ((go_at_call 21; refine (c _).mono ?_; rintro e w'' ⟨rfl, rfl⟩; exact ⟨rfl, _, rfl⟩))
        go_wp2
        go_ret
        exact ⟨rfl, below_drewN bb _⟩

theorem known_any (k n b a s q : Int) (w : World) :
    Calls Try.prog 20 #[.agg #[.int .i64 k, .int .i64 n, .int .i64 b, .int .i64 a, .int .i64 s, .int .i64 q]] w fun e w' => e = .returned (.bool (decide (knownC n b))) ∧ Below w.heap.size w w' := by
  have := known_of k n b a s q (clip n) w (clip_any n) _ _ _ rfl rfl rfl
  rw [show (n == clip n && (decide (-1 ≤ b) && decide (b ≤ 1099511627776))) = decide (knownC n b) by
    rw [Bool.eq_iff_iff, Bool.and_eq_true, Bool.and_eq_true, decide_eq_true_iff, decide_eq_true_iff, decide_eq_true_iff, beq_iff_eq]
    unfold knownC clip
    omega] at this
  exact this

set_option maxHeartbeats 1600000 in
theorem seen_of (k n b a s q d B x : Int) (w : World) (hb0 : -1 ≤ b) (hb1 : b ≤ 1099511627776) (hd0 : 0 ≤ d) (hd1 : d ≤ 1099511627776) (hB : b = -1 ∧ d = B ∨ b ≠ -1 ∧ min b d = B) (hx : d - B = x) (hx0 : 0 ≤ x) (hx1 : x ≤ 1099511627776) :
    Calls Try.prog 16 #[.agg #[.int .i64 k, .int .i64 n, .int .i64 b, .int .i64 a, .int .i64 s, .int .i64 q], .int .i64 d] w fun e w' => e = .returned (.tuple #[.agg #[.int .i64 k, .int .i64 n, .int .i64 B, .int .i64 a, .int .i64 s, .int .i64 q], .int .i64 x]) ∧ Below w.heap.size w w' := by
  rcases hB with ⟨rfl, rfl⟩ | ⟨hb, hB⟩
  · obtain rfl : 0 = x := by omega
    clear hx
    go_enter Try.func16, Try.ntmps16
    go_wp2
    go_region
    all_goals go_wp2
    all_goals refine bodyPost_ret (v := .tuple #[.agg #[.int .i64 k, .int .i64 n, .int .i64 d, .int .i64 a, .int .i64 s, .int .i64 q], .int .i64 0]) (by simp [results, Try.results16, go_sem]) rfl ⟨rfl, ?_⟩
    all_goals (first | exact Below.drew (balloc (balloc (Below.refl _ _) _) _) | exact balloc (balloc (Below.refl _ _) _) _)
  · go_enter Try.func16, Try.ntmps16
    go_wp2
    go_region
    all_goals go_wp2
    all_goals refine bodyPost_ret (v := .tuple #[.agg #[.int .i64 k, .int .i64 n, .int .i64 B, .int .i64 a, .int .i64 s, .int .i64 q], .int .i64 x]) (by simp [results, Try.results16, go_sem]) rfl ⟨rfl, ?_⟩
    all_goals (first | exact Below.drew (balloc (balloc (Below.refl _ _) _) _) | exact balloc (balloc (Below.refl _ _) _) _)

set_option maxHeartbeats 4000000 in
theorem mright_no (k n b a s q : Int) (w : World) (t0 t1 t2 t3 t4 t5 : Bool) (kn : ∀ v, Calls Try.prog 20 #[.agg #[.int .i64 k, .int .i64 n, .int .i64 b, .int .i64 a, .int .i64 s, .int .i64 q]] v fun e w' => e = .returned (.bool t1) ∧ Below v.heap.size v w') (h0 : (k == 3) = t0) (h2 : (a == 0) = t2) (h3 : (s == 0) = t3) (h4 : decide (0 ≤ q) = t4) (h5 : decide (q < 4) = t5) (hf : (t0 && (t1 && (t2 && (t3 && (t4 && t5))))) = false) :
    Calls Try.prog 12 #[.agg #[.int .i64 k, .int .i64 n, .int .i64 b, .int .i64 a, .int .i64 s, .int .i64 q]] w fun e w' => e = .returned (.bool false) ∧ Below w.heap.size w w' := by
  obtain ⟨c0, c1, c2, c3, c4, c5, f0, f1, f2, f3, f4, f5⟩ := Ctl.new w _ rfl k n b a s q
  have bb : Below w.heap.size w (w.alloc (.cells #[.int .i64 k, .int .i64 n, .int .i64 b, .int .i64 a, .int .i64 s, .int .i64 q] 23)) := balloc (Below.refl _ _) _
  cases t0
  case' true => cases t1
  case' true.true => cases t2
  case' true.true.true => cases t3
  case' true.true.true.true => cases t4
  case' true.true.true.true.true => cases t5
  case' true.true.true.true.true.true => exact absurd hf (by decide)
  case' false =>
    clear hf
    go_enter Try.func12, Try.ntmps12
    go_wp2
    go_ret
    exact ⟨rfl, bb⟩
  all_goals
    clear hf
    go_enter Try.func12, Try.ntmps12
    go_wp2_with (go_at_call 20; refine (kn _).mono ?_; rintro e v1 ⟨rfl, b1⟩; clear kn; have X2 := (Ctl.kept ⟨c0, c1, c2, c3, c4, c5, f0, f1, f2, f3, f4, f5⟩ b1); clear c0 c1 c2 c3 c4 c5 f0 f1 f2 f3 f4 f5; obtain ⟨c0, c1, c2, c3, c4, c5, f0, f1, f2, f3, f4, f5⟩ := X2; replace bb := bthen bb b1)
    go_ret
    exact ⟨rfl, bb⟩

set_option maxHeartbeats 4000000 in
theorem mright_last (k n b a s q p m : Int) (w : World) (kn : ∀ v, Calls Try.prog 20 #[.agg #[.int .i64 k, .int .i64 n, .int .i64 b, .int .i64 a, .int .i64 s, .int .i64 q]] v fun e w' => e = .returned (.bool true) ∧ Below v.heap.size v w') (h0 : (k == 3) = true) (h2 : (a == 0) = true) (h3 : (s == 0) = true) (h4 : decide (0 ≤ q) = true) (h5 : decide (q < 4) = true) (hp : n.tdiv 12 = p) (hp0 : 0 ≤ p) (hp1 : p ≤ 1) (hm : q * p = m) (hm0 : 0 ≤ m) (hm1 : m ≤ 3) :
    Calls Try.prog 12 #[.agg #[.int .i64 k, .int .i64 n, .int .i64 b, .int .i64 a, .int .i64 s, .int .i64 q]] w fun e w' => e = .returned (.bool (m == 0)) ∧ Below w.heap.size w w' := by
  obtain ⟨c0, c1, c2, c3, c4, c5, f0, f1, f2, f3, f4, f5⟩ := Ctl.new w _ rfl k n b a s q
  have bb : Below w.heap.size w (w.alloc (.cells #[.int .i64 k, .int .i64 n, .int .i64 b, .int .i64 a, .int .i64 s, .int .i64 q] 23)) := balloc (Below.refl _ _) _
  go_enter Try.func12, Try.ntmps12
  go_wp2_with (go_at_call 20; refine (kn _).mono ?_; rintro e v1 ⟨rfl, b1⟩; clear kn; have X2 := (Ctl.kept ⟨c0, c1, c2, c3, c4, c5, f0, f1, f2, f3, f4, f5⟩ b1); clear c0 c1 c2 c3 c4 c5 f0 f1 f2 f3 f4 f5; obtain ⟨c0, c1, c2, c3, c4, c5, f0, f1, f2, f3, f4, f5⟩ := X2; replace bb := bthen bb b1)
  go_ret
  exact ⟨rfl, bb⟩

theorem mright_any (k n b a s q : Int) (w : World) :
    Calls Try.prog 12 #[.agg #[.int .i64 k, .int .i64 n, .int .i64 b, .int .i64 a, .int .i64 s, .int .i64 q]] w fun e w' => e = .returned (.bool (decide (mright k n b a s q))) ∧ Below w.heap.size w w' := by
  have kn := fun v => known_any k n b a s q v
  by_cases h : k = 3 ∧ knownC n b ∧ a = 0 ∧ s = 0 ∧ 0 ≤ q ∧ q < 4
  · obtain ⟨h0, h1, h2, h3, h4, h5⟩ := h
    rw [decide_eq_true h1] at kn
    unfold knownC at h1
    have tv : n.tdiv 12 = n / 12 := Int.tdiv_eq_ediv_of_nonneg (by omega)
    by_cases c : n = 12
    · have := mright_last k n b a s q 1 q w kn (by simp [h0]) (by simp [h2]) (by simp [h3]) (decide_eq_true h4) (decide_eq_true h5) (by omega) (by omega) (by omega) (by omega) h4 (by omega)
      rw [show decide (mright k n b a s q) = (q == 0) by
        rw [Bool.eq_iff_iff, decide_eq_true_iff, beq_iff_eq]; unfold mright; omega]
      exact this
    · have := mright_last k n b a s q 0 0 w kn (by simp [h0]) (by simp [h2]) (by simp [h3]) (decide_eq_true h4) (decide_eq_true h5) (by omega) (by omega) (by omega) (by omega) (by omega) (by omega)
      rw [show decide (mright k n b a s q) = ((0 : Int) == 0) by
        rw [Bool.eq_iff_iff, decide_eq_true_iff, beq_iff_eq]; unfold mright; omega]
      exact this
  · rw [show decide (mright k n b a s q) = false by
      rw [decide_eq_false_iff_not]
      unfold mright; unfold knownC at h; omega]
    refine mright_no k n b a s q w _ _ _ _ _ _ kn rfl rfl rfl rfl rfl ?_
    rw [← Bool.not_eq_true]
    simp only [Bool.and_eq_true, decide_eq_true_iff, beq_iff_eq]
    exact h

set_option maxHeartbeats 4000000 in
theorem lmore_up (n b q V Q : Int) (w : World) (hn : 1 ≤ n ∧ n ≤ 12) (hq : 0 ≤ q ∧ q ≤ 3) (h : n < 12 ∧ q < 3 ∧ n = V ∧ q + 1 = Q ∨ n < 12 ∧ q = 3 ∧ n + 1 = V ∧ 0 = Q ∨ n = 12 ∧ q = 0 ∧ 12 = V ∧ 0 = Q) :
    Calls Try.prog 17 #[.agg #[.int .i64 3, .int .i64 n, .int .i64 b, .int .i64 0, .int .i64 0, .int .i64 q], .int .i64 1] w fun e w' => e = .returned (.agg #[.int .i64 3, .int .i64 V, .int .i64 b, .int .i64 0, .int .i64 0, .int .i64 Q]) ∧ Below w.heap.size w w' := by
  rcases h with ⟨h1, h2, rfl, rfl⟩ | ⟨h1, rfl, rfl, rfl⟩ | ⟨rfl, rfl, rfl, rfl⟩
  case' inl => have h3 : (q + 1 == 4) = false := by simp; omega
  case' inl => have h4 : decide (q + 1 < 0) = false := decide_eq_false (by omega)
  all_goals
    go_enter Try.func17, Try.ntmps17
    go_wp2
  · exact bodyPost_ret (v := .agg #[.int .i64 3, .int .i64 n, .int .i64 b, .int .i64 0, .int .i64 0, .int .i64 (q + 1)]) (by simp [results, Try.results17, go_sem]) rfl ⟨rfl, balloc (balloc (Below.refl _ _) _) _⟩
  · exact bodyPost_ret (v := .agg #[.int .i64 3, .int .i64 (n + 1), .int .i64 b, .int .i64 0, .int .i64 0, .int .i64 0]) (by simp [results, Try.results17, go_sem]) rfl ⟨rfl, balloc (balloc (Below.refl _ _) _) _⟩
  · exact bodyPost_ret (v := .agg #[.int .i64 3, .int .i64 12, .int .i64 b, .int .i64 0, .int .i64 0, .int .i64 0]) (by simp [results, Try.results17, go_sem]) rfl ⟨rfl, balloc (balloc (Below.refl _ _) _) _⟩

set_option maxHeartbeats 4000000 in
theorem lmore_down (n b q V Q : Int) (w : World) (hn : 1 ≤ n ∧ n ≤ 12) (hq : 0 ≤ q ∧ q ≤ 3) (h : decide (1 < n) = true ∧ 0 < q ∧ n = V ∧ q - 1 = Q ∨ decide (1 < n) = true ∧ q = 0 ∧ n - 1 = V ∧ 3 = Q ∨ n = 1 ∧ decide (0 < q) = true ∧ 0 < q ∧ 1 = V ∧ q - 1 = Q ∨ n = 1 ∧ q = 0 ∧ 1 = V ∧ 0 = Q) :
    Calls Try.prog 17 #[.agg #[.int .i64 3, .int .i64 n, .int .i64 b, .int .i64 0, .int .i64 0, .int .i64 q], .int .i64 (-1)] w fun e w' => e = .returned (.agg #[.int .i64 3, .int .i64 V, .int .i64 b, .int .i64 0, .int .i64 0, .int .i64 Q]) ∧ Below w.heap.size w w' := by
  rcases h with ⟨h1, h2, rfl, rfl⟩ | ⟨h1, rfl, rfl, rfl⟩ | ⟨rfl, h1, h2, rfl, rfl⟩ | ⟨rfl, rfl, rfl, rfl⟩
  case' inl => have h3 : (q - 1 == 4) = false := by simp; omega
  case' inl => have h4 : decide (q - 1 < 0) = false := decide_eq_false (by omega)
  case' inr.inr.inl => have h3 : (q - 1 == 4) = false := by simp; omega
  case' inr.inr.inl => have h4 : decide (q - 1 < 0) = false := decide_eq_false (by omega)
  all_goals
    go_enter Try.func17, Try.ntmps17
    go_wp2
  · exact bodyPost_ret (v := .agg #[.int .i64 3, .int .i64 1, .int .i64 b, .int .i64 0, .int .i64 0, .int .i64 (q - 1)]) (by simp [results, Try.results17, go_sem]) rfl ⟨rfl, balloc (balloc (Below.refl _ _) _) _⟩
  · exact bodyPost_ret (v := .agg #[.int .i64 3, .int .i64 n, .int .i64 b, .int .i64 0, .int .i64 0, .int .i64 (q - 1)]) (by simp [results, Try.results17, go_sem]) rfl ⟨rfl, balloc (balloc (Below.refl _ _) _) _⟩
  · exact bodyPost_ret (v := .agg #[.int .i64 3, .int .i64 (n - 1), .int .i64 b, .int .i64 0, .int .i64 0, .int .i64 3]) (by simp [results, Try.results17, go_sem]) rfl ⟨rfl, balloc (balloc (Below.refl _ _) _) _⟩
  · exact bodyPost_ret (v := .agg #[.int .i64 3, .int .i64 1, .int .i64 b, .int .i64 0, .int .i64 0, .int .i64 0]) (by simp [results, Try.results17, go_sem]) rfl ⟨rfl, balloc (balloc (Below.refl _ _) _) _⟩

end Go.Proofs.Ytniecidkkhneeaa
