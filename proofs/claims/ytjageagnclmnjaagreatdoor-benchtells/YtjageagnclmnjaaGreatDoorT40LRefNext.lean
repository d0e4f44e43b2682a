/- PROVED: what the document's own way answers: clip, known, MRight, seen and lmore. what the document's own MNext answers. CONDITIONS: none beyond each theorem's own. -/
import Derived.Test.YtjageagnclmnjaaGreatDoorB21KRight
namespace Go.Proofs.YtjageagnclmnjaaGreatDoor.L
open Go.RowKit
set_option linter.unusedVariables false

theorem clip_any (n : Int) (w : World) :
    Calls Tryz.prog 159 #[.int .i64 n] w fun e w' => e = .returned (.int .i64 (clip n)) ∧ w' = w := by
  by_cases h1 : n < 1
  · rw [show clip n = 1 by unfold clip; omega]
    go_enter Tryz.func159, Tryz.ntmps159
    go_wp2
    go_ret
    exact ⟨rfl, rfl⟩
  · by_cases h2 : 12 < n
    · rw [show clip n = 12 by unfold clip; omega]
      go_enter Tryz.func159, Tryz.ntmps159
      go_wp2
      go_ret
      exact ⟨rfl, rfl⟩
    · rw [show clip n = n by unfold clip; omega]
      go_enter Tryz.func159, Tryz.ntmps159
      go_wp2
      go_ret
      exact ⟨rfl, rfl⟩

/-- what all of them have -/
def knownC (n b : Int) : Prop := (1 ≤ n ∧ n ≤ 12) ∧ -1 ≤ b ∧ b ≤ 1099511627776
instance (n b : Int) : Decidable (knownC n b) := by unfold knownC; infer_instance

set_option maxHeartbeats 1600000 in
theorem known_of (k n b a s q m : Int) (w : World) (c : ∀ v, Calls Tryz.prog 159 #[.int .i64 n] v fun e w' => e = .returned (.int .i64 m) ∧ w' = v) (t1 t2 t3 : Bool) (h1 : (n == m) = t1) (h2 : decide (-1 ≤ b) = t2) (h3 : decide (b ≤ 1099511627776) = t3) :
    Calls Tryz.prog 169 #[.agg #[.int .i64 k, .int .i64 n, .int .i64 b, .int .i64 a, .int .i64 s, .int .i64 q]] w fun e w' => e = .returned (.bool (t1 && (t2 && t3))) ∧ Below w.heap.size w w' := by
  have X := Ctl.new w _ rfl k n b a s q
  obtain ⟨c0, c1, c2, c3, c4, c5, f0, f1, f2, f3, f4, f5⟩ := X
  have bb : Below w.heap.size w (w.alloc (.cells #[.int .i64 k, .int .i64 n, .int .i64 b, .int .i64 a, .int .i64 s, .int .i64 q] 42)) := balloc (Below.refl _ _) _
  cases t1
  · go_enter Tryz.func169, Tryz.ntmps169
    go_wp2
    go_quiet ((go_at_call 159; refine (c _).mono ?_; rintro e w'' ⟨rfl, rfl⟩; exact ⟨rfl, _, rfl⟩))
    go_wp2
    go_ret
    exact ⟨rfl, below_drewN bb _⟩
  · cases t2
    · go_enter Tryz.func169, Tryz.ntmps169
      go_wp2
      go_quiet ((go_at_call 159; refine (c _).mono ?_; rintro e w'' ⟨rfl, rfl⟩; exact ⟨rfl, _, rfl⟩))
      go_wp2
      go_ret
      exact ⟨rfl, below_drewN bb _⟩
    · cases t3
      all_goals
        go_enter Tryz.func169, Tryz.ntmps169
        go_wp2
        go_quiet ((go_at_call 159; refine (c _).mono ?_; rintro e w'' ⟨rfl, rfl⟩; exact ⟨rfl, _, rfl⟩))
        go_wp2
        go_ret
        exact ⟨rfl, below_drewN bb _⟩

theorem known_any (k n b a s q : Int) (w : World) :
    Calls Tryz.prog 169 #[.agg #[.int .i64 k, .int .i64 n, .int .i64 b, .int .i64 a, .int .i64 s, .int .i64 q]] w fun e w' => e = .returned (.bool (decide (knownC n b))) ∧ Below w.heap.size w w' := by
  have := known_of k n b a s q (clip n) w (clip_any n) _ _ _ rfl rfl rfl
  rw [show (n == clip n && (decide (-1 ≤ b) && decide (b ≤ 1099511627776))) = decide (knownC n b) by
    rw [Bool.eq_iff_iff, Bool.and_eq_true, Bool.and_eq_true, decide_eq_true_iff, decide_eq_true_iff, decide_eq_true_iff, beq_iff_eq]
    unfold knownC clip
    omega] at this
  exact this

set_option maxHeartbeats 1600000 in
theorem seen_of (k n b a s q d B x : Int) (w : World) (hb0 : -1 ≤ b) (hb1 : b ≤ 1099511627776) (hd0 : 0 ≤ d) (hd1 : d ≤ 1099511627776) (hB : b = -1 ∧ d = B ∨ b ≠ -1 ∧ min b d = B) (hx : d - B = x) (hx0 : 0 ≤ x) (hx1 : x ≤ 1099511627776) :
    Calls Tryz.prog 158 #[.agg #[.int .i64 k, .int .i64 n, .int .i64 b, .int .i64 a, .int .i64 s, .int .i64 q], .int .i64 d] w fun e w' => e = .returned (.tuple #[.agg #[.int .i64 k, .int .i64 n, .int .i64 B, .int .i64 a, .int .i64 s, .int .i64 q], .int .i64 x]) ∧ Below w.heap.size w w' := by
  rcases hB with ⟨rfl, rfl⟩ | ⟨hb, hB⟩
  · obtain rfl : 0 = x := by omega
    clear hx
    go_enter Tryz.func158, Tryz.ntmps158
    go_wp2
    go_region
    all_goals go_wp2
    all_goals refine bodyPost_ret (v := .tuple #[.agg #[.int .i64 k, .int .i64 n, .int .i64 d, .int .i64 a, .int .i64 s, .int .i64 q], .int .i64 0]) (by simp [results, Tryz.results158, go_sem]) rfl ⟨rfl, ?_⟩
    all_goals (first | exact Below.drew (balloc (balloc (Below.refl _ _) _) _) | exact balloc (balloc (Below.refl _ _) _) _)
  · go_enter Tryz.func158, Tryz.ntmps158
    go_wp2
    go_region
    all_goals go_wp2
    all_goals refine bodyPost_ret (v := .tuple #[.agg #[.int .i64 k, .int .i64 n, .int .i64 B, .int .i64 a, .int .i64 s, .int .i64 q], .int .i64 x]) (by simp [results, Tryz.results158, go_sem]) rfl ⟨rfl, ?_⟩
    all_goals (first | exact Below.drew (balloc (balloc (Below.refl _ _) _) _) | exact balloc (balloc (Below.refl _ _) _) _)

set_option maxHeartbeats 4000000 in
theorem mright_no (k n b a s q : Int) (w : World) (t0 t1 t2 t3 t4 t5 : Bool) (kn : ∀ v, Calls Tryz.prog 169 #[.agg #[.int .i64 k, .int .i64 n, .int .i64 b, .int .i64 a, .int .i64 s, .int .i64 q]] v fun e w' => e = .returned (.bool t1) ∧ Below v.heap.size v w') (h0 : (k == 3) = t0) (h2 : (a == 0) = t2) (h3 : (s == 0) = t3) (h4 : decide (0 ≤ q) = t4) (h5 : decide (q < 4) = t5) (hf : (t0 && (t1 && (t2 && (t3 && (t4 && t5))))) = false) :
    Calls Tryz.prog 161 #[.agg #[.int .i64 k, .int .i64 n, .int .i64 b, .int .i64 a, .int .i64 s, .int .i64 q]] w fun e w' => e = .returned (.bool false) ∧ Below w.heap.size w w' := by
  obtain ⟨c0, c1, c2, c3, c4, c5, f0, f1, f2, f3, f4, f5⟩ := Ctl.new w _ rfl k n b a s q
  have bb : Below w.heap.size w (w.alloc (.cells #[.int .i64 k, .int .i64 n, .int .i64 b, .int .i64 a, .int .i64 s, .int .i64 q] 42)) := balloc (Below.refl _ _) _
  cases t0
  case' true => cases t1
  case' true.true => cases t2
  case' true.true.true => cases t3
  case' true.true.true.true => cases t4
  case' true.true.true.true.true => cases t5
  case' true.true.true.true.true.true => exact absurd hf (by decide)
  case' false =>
    clear hf
    go_enter Tryz.func161, Tryz.ntmps161
    go_wp2
    go_ret
    exact ⟨rfl, bb⟩
  all_goals
    clear hf
    go_enter Tryz.func161, Tryz.ntmps161
    go_wp2_with (go_at_call 169; refine (kn _).mono ?_; rintro e v1 ⟨rfl, b1⟩; clear kn; have X2 := (Ctl.kept ⟨c0, c1, c2, c3, c4, c5, f0, f1, f2, f3, f4, f5⟩ b1); clear c0 c1 c2 c3 c4 c5 f0 f1 f2 f3 f4 f5; obtain ⟨c0, c1, c2, c3, c4, c5, f0, f1, f2, f3, f4, f5⟩ := X2; replace bb := bthen bb b1)
    go_ret
    exact ⟨rfl, bb⟩

set_option maxHeartbeats 4000000 in
theorem mright_last (k n b a s q p m : Int) (w : World) (kn : ∀ v, Calls Tryz.prog 169 #[.agg #[.int .i64 k, .int .i64 n, .int .i64 b, .int .i64 a, .int .i64 s, .int .i64 q]] v fun e w' => e = .returned (.bool true) ∧ Below v.heap.size v w') (h0 : (k == 3) = true) (h2 : (a == 0) = true) (h3 : (s == 0) = true) (h4 : decide (0 ≤ q) = true) (h5 : decide (q < 4) = true) (hp : n.tdiv 12 = p) (hp0 : 0 ≤ p) (hp1 : p ≤ 1) (hm : q * p = m) (hm0 : 0 ≤ m) (hm1 : m ≤ 3) :
    Calls Tryz.prog 161 #[.agg #[.int .i64 k, .int .i64 n, .int .i64 b, .int .i64 a, .int .i64 s, .int .i64 q]] w fun e w' => e = .returned (.bool (m == 0)) ∧ Below w.heap.size w w' := by
  obtain ⟨c0, c1, c2, c3, c4, c5, f0, f1, f2, f3, f4, f5⟩ := Ctl.new w _ rfl k n b a s q
  have bb : Below w.heap.size w (w.alloc (.cells #[.int .i64 k, .int .i64 n, .int .i64 b, .int .i64 a, .int .i64 s, .int .i64 q] 42)) := balloc (Below.refl _ _) _
  go_enter Tryz.func161, Tryz.ntmps161
  go_wp2_with (go_at_call 169; refine (kn _).mono ?_; rintro e v1 ⟨rfl, b1⟩; clear kn; have X2 := (Ctl.kept ⟨c0, c1, c2, c3, c4, c5, f0, f1, f2, f3, f4, f5⟩ b1); clear c0 c1 c2 c3 c4 c5 f0 f1 f2 f3 f4 f5; obtain ⟨c0, c1, c2, c3, c4, c5, f0, f1, f2, f3, f4, f5⟩ := X2; replace bb := bthen bb b1)
  go_ret
  exact ⟨rfl, bb⟩

theorem mright_any (k n b a s q : Int) (w : World) :
    Calls Tryz.prog 161 #[.agg #[.int .i64 k, .int .i64 n, .int .i64 b, .int .i64 a, .int .i64 s, .int .i64 q]] w fun e w' => e = .returned (.bool (decide (mright k n b a s q))) ∧ Below w.heap.size w w' := by
  have kn := fun v => known_any k n b a s q v
  by_cases h : k = 3 ∧ knownC n b ∧ a = 0 ∧ s = 0 ∧ 0 ≤ q ∧ q < 4
  · obtain ⟨h0, h1, h2, h3, h4, h5⟩ := h
    rw [decide_eq_true h1] at kn
    unfold knownC at h1
    have tv : n.tdiv 12 = n / 12 := Int.tdiv_eq_ediv_of_nonneg (by omega)
    by_cases c : n = 12
    · have := mright_last k n b a s q 1 q w kn (by simp [h0]) (by simp [h2]) (by simp [h3]) (decide_eq_true h4) (decide_eq_true h5) (by omega) (by omega) (by omega) (by omega) h4 (by omega)
      rw [show decide (mright k n b a s q) = (q == 0) by
        rw [Bool.eq_iff_iff, decide_eq_true_iff, beq_iff_eq]; unfold mright; omega]
      exact this
    · have := mright_last k n b a s q 0 0 w kn (by simp [h0]) (by simp [h2]) (by simp [h3]) (decide_eq_true h4) (decide_eq_true h5) (by omega) (by omega) (by omega) (by omega) (by omega) (by omega)
      rw [show decide (mright k n b a s q) = ((0 : Int) == 0) by
        rw [Bool.eq_iff_iff, decide_eq_true_iff, beq_iff_eq]; unfold mright; omega]
      exact this
  · rw [show decide (mright k n b a s q) = false by
      rw [decide_eq_false_iff_not]
      unfold mright; unfold knownC at h; omega]
    refine mright_no k n b a s q w _ _ _ _ _ _ kn rfl rfl rfl rfl rfl ?_
    rw [← Bool.not_eq_true]
    simp only [Bool.and_eq_true, decide_eq_true_iff, beq_iff_eq]
    exact h

set_option maxHeartbeats 4000000 in
theorem lmore_up (n b q V Q : Int) (w : World) (hn : 1 ≤ n ∧ n ≤ 12) (hq : 0 ≤ q ∧ q ≤ 3) (h : n < 12 ∧ q < 3 ∧ n = V ∧ q + 1 = Q ∨ n < 12 ∧ q = 3 ∧ n + 1 = V ∧ 0 = Q ∨ n = 12 ∧ q = 0 ∧ 12 = V ∧ 0 = Q) :
    Calls Tryz.prog 162 #[.agg #[.int .i64 3, .int .i64 n, .int .i64 b, .int .i64 0, .int .i64 0, .int .i64 q], .int .i64 1] w fun e w' => e = .returned (.agg #[.int .i64 3, .int .i64 V, .int .i64 b, .int .i64 0, .int .i64 0, .int .i64 Q]) ∧ Below w.heap.size w w' := by
  rcases h with ⟨h1, h2, rfl, rfl⟩ | ⟨h1, rfl, rfl, rfl⟩ | ⟨rfl, rfl, rfl, rfl⟩
  case' inl => have h3 : (q + 1 == 4) = false := by simp; omega
  case' inl => have h4 : decide (q + 1 < 0) = false := decide_eq_false (by omega)
  all_goals
    go_enter Tryz.func162, Tryz.ntmps162
    go_wp2
  · exact bodyPost_ret (v := .agg #[.int .i64 3, .int .i64 n, .int .i64 b, .int .i64 0, .int .i64 0, .int .i64 (q + 1)]) (by simp [results, Tryz.results162, go_sem]) rfl ⟨rfl, balloc (balloc (Below.refl _ _) _) _⟩
  · exact bodyPost_ret (v := .agg #[.int .i64 3, .int .i64 (n + 1), .int .i64 b, .int .i64 0, .int .i64 0, .int .i64 0]) (by simp [results, Tryz.results162, go_sem]) rfl ⟨rfl, balloc (balloc (Below.refl _ _) _) _⟩
  · exact bodyPost_ret (v := .agg #[.int .i64 3, .int .i64 12, .int .i64 b, .int .i64 0, .int .i64 0, .int .i64 0]) (by simp [results, Tryz.results162, go_sem]) rfl ⟨rfl, balloc (balloc (Below.refl _ _) _) _⟩

set_option maxHeartbeats 4000000 in
theorem lmore_down (n b q V Q : Int) (w : World) (hn : 1 ≤ n ∧ n ≤ 12) (hq : 0 ≤ q ∧ q ≤ 3) (h : decide (1 < n) = true ∧ 0 < q ∧ n = V ∧ q - 1 = Q ∨ decide (1 < n) = true ∧ q = 0 ∧ n - 1 = V ∧ 3 = Q ∨ n = 1 ∧ decide (0 < q) = true ∧ 0 < q ∧ 1 = V ∧ q - 1 = Q ∨ n = 1 ∧ q = 0 ∧ 1 = V ∧ 0 = Q) :
    Calls Tryz.prog 162 #[.agg #[.int .i64 3, .int .i64 n, .int .i64 b, .int .i64 0, .int .i64 0, .int .i64 q], .int .i64 (-1)] w fun e w' => e = .returned (.agg #[.int .i64 3, .int .i64 V, .int .i64 b, .int .i64 0, .int .i64 0, .int .i64 Q]) ∧ Below w.heap.size w w' := by
  rcases h with ⟨h1, h2, rfl, rfl⟩ | ⟨h1, rfl, rfl, rfl⟩ | ⟨rfl, h1, h2, rfl, rfl⟩ | ⟨rfl, rfl, rfl, rfl⟩
  case' inl => have h3 : (q - 1 == 4) = false := by simp; omega
  case' inl => have h4 : decide (q - 1 < 0) = false := decide_eq_false (by omega)
  case' inr.inr.inl => have h3 : (q - 1 == 4) = false := by simp; omega
  case' inr.inr.inl => have h4 : decide (q - 1 < 0) = false := decide_eq_false (by omega)
  all_goals
    go_enter Tryz.func162, Tryz.ntmps162
    go_wp2
  · exact bodyPost_ret (v := .agg #[.int .i64 3, .int .i64 1, .int .i64 b, .int .i64 0, .int .i64 0, .int .i64 (q - 1)]) (by simp [results, Tryz.results162, go_sem]) rfl ⟨rfl, balloc (balloc (Below.refl _ _) _) _⟩
  · exact bodyPost_ret (v := .agg #[.int .i64 3, .int .i64 n, .int .i64 b, .int .i64 0, .int .i64 0, .int .i64 (q - 1)]) (by simp [results, Tryz.results162, go_sem]) rfl ⟨rfl, balloc (balloc (Below.refl _ _) _) _⟩
  · exact bodyPost_ret (v := .agg #[.int .i64 3, .int .i64 (n - 1), .int .i64 b, .int .i64 0, .int .i64 0, .int .i64 3]) (by simp [results, Tryz.results162, go_sem]) rfl ⟨rfl, balloc (balloc (Below.refl _ _) _) _⟩
  · exact bodyPost_ret (v := .agg #[.int .i64 3, .int .i64 1, .int .i64 b, .int .i64 0, .int .i64 0, .int .i64 0]) (by simp [results, Tryz.results162, go_sem]) rfl ⟨rfl, balloc (balloc (Below.refl _ _) _) _⟩

end Go.Proofs.YtjageagnclmnjaaGreatDoor.L

namespace Go.Proofs.YtjageagnclmnjaaGreatDoor.L
open Go.RowKit
set_option linter.unusedVariables false

/-- may such a window and part be? -/
def nq (n q : Int) : Prop := (1 ≤ n ∧ n ≤ 12) ∧ (0 ≤ q ∧ q ≤ 3) ∧ (n < 12 ∨ q = 0)
/-- a fourth more, up to the most -/
theorem up_of {n q : Int} (b : Int) (h : nq n q) : ∃ V Q, nq V Q ∧ 4 * V + Q = min (4 * n + q + 1) 48 ∧ ∀ w, Calls Tryz.prog 162 #[.agg #[.int .i64 3, .int .i64 n, .int .i64 b, .int .i64 0, .int .i64 0, .int .i64 q], .int .i64 1] w fun e w' => e = .returned (.agg #[.int .i64 3, .int .i64 V, .int .i64 b, .int .i64 0, .int .i64 0, .int .i64 Q]) ∧ Below w.heap.size w w' := by
  obtain ⟨hn, hq, hp⟩ := h
  by_cases c1 : n < 12
  · by_cases c2 : q < 3
    · exact ⟨n, q + 1, ⟨hn, by omega, .inl c1⟩, by omega, fun w => lmore_up n b q _ _ w hn hq (.inl ⟨c1, c2, rfl, rfl⟩)⟩
    · exact ⟨n + 1, 0, ⟨by omega, by omega, .inr rfl⟩, by omega, fun w => lmore_up n b q _ _ w hn hq (.inr (.inl ⟨c1, by omega, rfl, rfl⟩))⟩
  · exact ⟨12, 0, ⟨by omega, by omega, .inr rfl⟩, by omega, fun w => lmore_up n b q _ _ w hn hq (.inr (.inr ⟨by omega, by omega, rfl, rfl⟩))⟩
/-- a fourth less, down to the least -/
theorem down_of {n q : Int} (b : Int) (h : nq n q) : ∃ V Q, nq V Q ∧ 4 * V + Q = max (4 * n + q - 1) 4 ∧ ∀ w, Calls Tryz.prog 162 #[.agg #[.int .i64 3, .int .i64 n, .int .i64 b, .int .i64 0, .int .i64 0, .int .i64 q], .int .i64 (-1)] w fun e w' => e = .returned (.agg #[.int .i64 3, .int .i64 V, .int .i64 b, .int .i64 0, .int .i64 0, .int .i64 Q]) ∧ Below w.heap.size w w' := by
  obtain ⟨hn, hq, hp⟩ := h
  by_cases c1 : 1 < n
  · by_cases c2 : 0 < q
    · exact ⟨n, q - 1, ⟨hn, by omega, by omega⟩, by omega, fun w => lmore_down n b q _ _ w hn hq (.inl ⟨decide_eq_true c1, c2, rfl, rfl⟩)⟩
    · exact ⟨n - 1, 3, ⟨by omega, by omega, by omega⟩, by omega, fun w => lmore_down n b q _ _ w hn hq (.inr (.inl ⟨decide_eq_true c1, by omega, rfl, rfl⟩))⟩
  · by_cases c2 : 0 < q
    · exact ⟨1, q - 1, ⟨by omega, by omega, by omega⟩, by omega, fun w => lmore_down n b q _ _ w hn hq (.inr (.inr (.inl ⟨by omega, decide_eq_true c2, c2, rfl, rfl⟩)))⟩
    · exact ⟨1, 0, ⟨by omega, by omega, .inr rfl⟩, by omega, fun w => lmore_down n b q _ _ w hn hq (.inr (.inr (.inr ⟨by omega, by omega, rfl, rfl⟩)))⟩

set_option maxHeartbeats 4000000 in
theorem ref_of (n b q d B x c1 c2 : Int) (w : World) (hq : nq n q) (r : ∀ v, Calls Tryz.prog 161 #[.agg #[.int .i64 3, .int .i64 n, .int .i64 b, .int .i64 0, .int .i64 0, .int .i64 q]] v fun e w' => e = .returned (.bool true) ∧ Below v.heap.size v w')
    (sn : ∀ v, Calls Tryz.prog 158 #[.agg #[.int .i64 3, .int .i64 n, .int .i64 b, .int .i64 0, .int .i64 0, .int .i64 q], .int .i64 d] v fun e w' => e = .returned (.tuple #[.agg #[.int .i64 3, .int .i64 n, .int .i64 B, .int .i64 0, .int .i64 0, .int .i64 q], .int .i64 x]) ∧ Below v.heap.size v w')
    (h0 : 0 ≤ d) (h1 : d ≤ 1099511627776) (hx0 : 0 ≤ x) (hx1 : x ≤ 1099511627776) (hc1 : min (4 * n + q + max (2 - x) 0) 48 = c1) (hc2 : max (c1 - max (min (x - 2) 2) 0) 4 = c2) :
    Calls Tryz.prog 137 #[.agg #[.int .i64 3, .int .i64 n, .int .i64 b, .int .i64 0, .int .i64 0, .int .i64 q], .int .i64 d] w fun e w' => e = .returned (.tuple #[.agg #[.int .i64 3, .int .i64 (c2 / 4), .int .i64 B, .int .i64 0, .int .i64 0, .int .i64 (c2 % 4)], .int .i64 0]) ∧ Below w.heap.size w w' := by
  replace hq : Hid _ := hq
  replace hc1 : Hid _ := hc1
  replace hc2 : Hid _ := hc2
  go_enter Tryz.func137, Tryz.ntmps137
  go_wp2_with (first
    | (go_at_call 161; refine (r _).mono ?_; rintro e w1 ⟨rfl, HB⟩; obtain ⟨X, Y⟩ := two HB; clear r; replace HB := up2 HB; obtain ⟨c0, c1, c2, c3, c4, c5, f0, f1, f2, f3, f4, f5⟩ := X)
    | (go_at_call 158; refine (sn _).mono ?_; rintro e w2 ⟨rfl, b2⟩; clear sn; clear c0 c1 c2 c3 c4 c5 f0 f1 f2 f3 f4 f5; replace Y := Y.kept b2; replace HB := bthen HB b2; clear b2; have Z := Ctl.new w2 _ rfl 3 n B 0 0 q))
  have hz : w.heap.size ≤ w2.heap.size := HB.size
  have hRD : w.heap.size + 1 < w2.heap.size := block_lt Y.c0
  have hzR : w.heap.size ≤ w.heap.size + 1 := by omega
  replace Y := Y.alloc (.cells #[.int .i64 3, .int .i64 n, .int .i64 B, .int .i64 0, .int .i64 0, .int .i64 q] 42)
  replace HB := balloc HB (.cells #[.int .i64 3, .int .i64 n, .int .i64 B, .int .i64 0, .int .i64 0, .int .i64 q] 42)
  generalize w.heap.size + 1 = R at Y hRD hzR ⊢
  generalize w2.heap.size = D at Z hz hRD ⊢
  generalize w2.alloc (.cells #[.int .i64 3, .int .i64 n, .int .i64 B, .int .i64 0, .int .i64 0, .int .i64 q] 42) = w3 at Y Z HB ⊢
  go_loopw [8] (fun sl wr => ∃ (i n' q' : Int), sl = .int .i64 i ∧ (-1099511627776 ≤ i ∧ i ≤ 2) ∧ nq n' q' ∧ min (4 * n' + q' + max i 0) 48 = c1 ∧ Ctl wr D 3 n' B 0 0 q' ∧ Ctl wr R 0 0 0 0 0 0 ∧ Below w.heap.size w wr) (fun sl _ => (intOf sl).toNat)
  case atStart => exact ⟨2 - x, n, q, rfl, by omega, hq.out, hc1.out, Z, Y, HB⟩
  case round =>
    obtain ⟨i, n', q', rfl, hi, hq1, hc, Z1, Y1, HB1⟩ := hrel
    clear Z Y HB hq hc1
    by_cases hlt : 0 < i
    · obtain ⟨V, Q, hVQ, hs, up⟩ := up_of B hq1
      replace hc : min (4 * V + Q + max (i - 1) 0) 48 = c1 := by unfold nq at hVQ hq1; omega
      replace hc : Hid _ := hc
      replace hVQ : Hid _ := hVQ
      clear hs hq1
      obtain ⟨c0, c1, c2, c3, c4, c5, f0, f1, f2, f3, f4, f5⟩ := Z1
      go_wp2_with (go_at_call 162; refine (up _).mono ?_; rintro e v5 ⟨rfl, b5⟩; clear up; have Z2 := (Ctl.mk c0 c1 c2 c3 c4 c5 f0 f1 f2 f3 f4 f5).kept b5; replace Y1 := Y1.kept b5; clear c0 c1 c2 c3 c4 c5 f0 f1 f2 f3 f4 f5; replace HB1 := bthen HB1 b5; clear b5; obtain ⟨c0, c1, c2, c3, c4, c5, f0, f1, f2, f3, f4, f5⟩ := Z2)
      go_roundw
      case rel => exact ⟨i - 1, V, Q, rfl, by omega, hVQ.out, hc.out, Ctl.put (Ctl.mk c0 c1 c2 c3 c4 c5 f0 f1 f2 f3 f4 f5) 3 V B 0 0 Q, ((((((Y1.far (by omega) _).far (by omega) _).far (by omega) _).far (by omega) _).far (by omega) _).far (by omega) _), ((((((HB1.setCell (p := ⟨D, 0, none⟩) hz _).setCell (p := ⟨D, 1, none⟩) hz _).setCell (p := ⟨D, 2, none⟩) hz _).setCell (p := ⟨D, 3, none⟩) hz _).setCell (p := ⟨D, 4, none⟩) hz _).setCell (p := ⟨D, 5, none⟩) hz _)⟩
      case measure => simp [intOf]; omega
    · replace hc : max (4 * n' + q' - max (min (x - 2) 2) 0) 4 = c2 := by
        have := hc2.out; unfold nq at hq1; omega
      replace hc : Hid _ := hc
      replace hq1 : Hid _ := hq1
      clear hc2
      go_wp2
      go_loopw [9] (fun sl wr => ∃ (j n' q' : Int), sl = .int .i64 j ∧ (-2 ≤ j ∧ j ≤ 2) ∧ nq n' q' ∧ max (4 * n' + q' - max j 0) 4 = c2 ∧ Ctl wr D 3 n' B 0 0 q' ∧ Ctl wr R 0 0 0 0 0 0 ∧ Below w.heap.size w wr) (fun sl _ => (intOf sl).toNat)
      case atStart => exact ⟨min (x - 2) 2, n', q', rfl, by omega, hq1.out, hc.out, Z1, Y1, HB1⟩
      case round =>
        obtain ⟨j, n2, q2, rfl, hj, hq2, hd, Z2, Y2, HB2⟩ := hrel
        clear Z1 Y1 HB1 hq1 hc
        by_cases hlt2 : 0 < j
        · obtain ⟨V, Q, hVQ, hs, dn⟩ := down_of B hq2
          replace hd : max (4 * V + Q - max (j - 1) 0) 4 = c2 := by unfold nq at hVQ hq2; omega
          replace hd : Hid _ := hd
          replace hVQ : Hid _ := hVQ
          clear hs hq2
          obtain ⟨c0, c1, c2, c3, c4, c5, f0, f1, f2, f3, f4, f5⟩ := Z2
          go_wp2_with (go_at_call 162; refine (dn _).mono ?_; rintro e v5 ⟨rfl, b5⟩; clear dn; have Z2 := (Ctl.mk c0 c1 c2 c3 c4 c5 f0 f1 f2 f3 f4 f5).kept b5; replace Y2 := Y2.kept b5; clear c0 c1 c2 c3 c4 c5 f0 f1 f2 f3 f4 f5; replace HB2 := bthen HB2 b5; clear b5; obtain ⟨c0, c1, c2, c3, c4, c5, f0, f1, f2, f3, f4, f5⟩ := Z2)
          go_roundw
          case rel => exact ⟨j - 1, V, Q, rfl, by omega, hVQ.out, hd.out, Ctl.put (Ctl.mk c0 c1 c2 c3 c4 c5 f0 f1 f2 f3 f4 f5) 3 V B 0 0 Q, ((((((Y2.far (by omega) _).far (by omega) _).far (by omega) _).far (by omega) _).far (by omega) _).far (by omega) _), ((((((HB2.setCell (p := ⟨D, 0, none⟩) hz _).setCell (p := ⟨D, 1, none⟩) hz _).setCell (p := ⟨D, 2, none⟩) hz _).setCell (p := ⟨D, 3, none⟩) hz _).setCell (p := ⟨D, 4, none⟩) hz _).setCell (p := ⟨D, 5, none⟩) hz _)⟩
          case measure => simp [intOf]; omega
        · obtain ⟨e1, e2⟩ : n2 = c2 / 4 ∧ q2 = c2 % 4 := by unfold nq at hq2; omega
          replace e1 : Hid _ := e1
          replace e2 : Hid _ := e2
          clear hd hq2
          obtain ⟨c0, c1, c2, c3, c4, c5, f0, f1, f2, f3, f4, f5⟩ := Z2
          obtain ⟨d0, d1, d2, d3, d4, d5, g0, g1, g2, g3, g4, g5⟩ := Y2
          go_wp2
          refine bodyPost_ret (v := .tuple #[.agg #[.int .i64 3, .int .i64 n2, .int .i64 B, .int .i64 0, .int .i64 0, .int .i64 q2], .int .i64 0]) (by simp [results, Tryz.results137, go_sem, d0, d1, d2, d3, d4, d5]) rfl ⟨by rw [e1.out, e2.out], ?_⟩
          exact ((((((HB2.setCell (p := ⟨R, 0, none⟩) hzR _).setCell (p := ⟨R, 1, none⟩) hzR _).setCell (p := ⟨R, 2, none⟩) hzR _).setCell (p := ⟨R, 3, none⟩) hzR _).setCell (p := ⟨R, 4, none⟩) hzR _).setCell (p := ⟨R, 5, none⟩) hzR _)

theorem ref_yes (k n b a s q d : Int) (w : World) (h : mright k n b a s q) (hd : inr d) :
    Calls Tryz.prog 137 #[.agg #[.int .i64 k, .int .i64 n, .int .i64 b, .int .i64 a, .int .i64 s, .int .i64 q], .int .i64 d] w fun e w' => e = .returned (.tuple #[.agg #[.int .i64 3, .int .i64 (ct n q (d - nb b d) / 4), .int .i64 (nb b d), .int .i64 0, .int .i64 0, .int .i64 (ct n q (d - nb b d) % 4)], .int .i64 0]) ∧ Below w.heap.size w w' := by
  have r := fun v => mright_any k n b a s q v
  rw [decide_eq_true h] at r
  obtain ⟨hB0, hB1, hB2, hx0, hx1⟩ := nb_in (b := b) hd
  obtain ⟨rfl, hn, ⟨hb0, hb1⟩, rfl, rfl, hq, hp⟩ := h
  obtain ⟨h0, h1⟩ := hd
  have sn := fun v => seen_of 3 n b 0 0 q d (nb b d) (d - nb b d) v hb0 hb1 h0 h1 (by unfold nb; split <;> omega) rfl hx0 hx1
  refine ref_of n b q d _ (d - nb b d) _ _ w ⟨hn, hq, hp⟩ r sn h0 h1 hx0 hx1 rfl ?_
  unfold ct bd gr
  omega

end Go.Proofs.YtjageagnclmnjaaGreatDoor.L
