/- PROVED: what the document's own way answers: clip, known, KRight, seen and KNext. CONDITIONS: none beyond each theorem's own. -/
import Derived.Test.YtfnpnfcpganbbaaAlive
namespace Go.Proofs.Ytfnpnfcpganbbaa
open Go.RowKit
set_option linter.unusedVariables false

theorem clip_any (n : Int) (w : World) :
    Calls Try.prog 15 #[.int .i64 n] w fun e w' => e = .returned (.int .i64 (clip n)) ∧ w' = w := by
  by_cases h1 : n < 1
  · rw [show clip n = 1 by unfold clip; omega]
    go_enter Try.func15, Try.ntmps15
    go_wp2
    go_ret
    exact ⟨rfl, rfl⟩
  · by_cases h2 : 12 < n
    · rw [show clip n = 12 by unfold clip; omega]
      go_enter Try.func15, Try.ntmps15
      go_wp2
      go_ret
      exact ⟨rfl, rfl⟩
    · rw [show clip n = n by unfold clip; omega]
      go_enter Try.func15, Try.ntmps15
      go_wp2
      go_ret
      exact ⟨rfl, rfl⟩

/-- what all of them have -/
def knownC (n b : Int) : Prop := (1 ≤ n ∧ n ≤ 12) ∧ -1 ≤ b ∧ b ≤ 1099511627776
instance (n b : Int) : Decidable (knownC n b) := by unfold knownC; infer_instance

set_option maxHeartbeats 1600000 in
theorem known_of (k n b a s q m : Int) (w : World) (c : ∀ v, Calls Try.prog 15 #[.int .i64 n] v fun e w' => e = .returned (.int .i64 m) ∧ w' = v) (t1 t2 t3 : Bool) (h1 : (n == m) = t1) (h2 : decide (-1 ≤ b) = t2) (h3 : decide (b ≤ 1099511627776) = t3) :
    Calls Try.prog 16 #[.agg #[.int .i64 k, .int .i64 n, .int .i64 b, .int .i64 a, .int .i64 s, .int .i64 q]] w fun e w' => e = .returned (.bool (t1 && (t2 && t3))) ∧ Below w.heap.size w w' := by
  have X := Ctl.new w _ rfl k n b a s q
  obtain ⟨c0, c1, c2, c3, c4, c5, f0, f1, f2, f3, f4, f5⟩ := X
  have bb : Below w.heap.size w (w.alloc (.cells #[.int .i64 k, .int .i64 n, .int .i64 b, .int .i64 a, .int .i64 s, .int .i64 q] 23)) := balloc (Below.refl _ _) _
  cases t1
  · go_enter Try.func16, Try.ntmps16
    go_wp2
    go_quiet ((go_at_call 15; refine (c _).mono ?_; rintro e w'' ⟨rfl, rfl⟩; exact ⟨rfl, _, rfl⟩))
    go_wp2
    go_ret
    exact ⟨rfl, below_drewN bb _⟩
  · cases t2
    · go_enter Try.func16, Try.ntmps16
      go_wp2
      go_quiet ((go_at_call 15; refine (c _).mono ?_; rintro e w'' ⟨rfl, rfl⟩; exact ⟨rfl, _, rfl⟩))
      go_wp2
      go_ret
      exact ⟨rfl, below_drewN bb _⟩
    · cases t3
      all_goals
        go_enter Try.func16, Try.ntmps16
        go_wp2
        go_quiet ((go_at_call 15; refine (c _).mono ?_; rintro e w'' ⟨rfl, rfl⟩; exact ⟨rfl, _, rfl⟩))
        go_wp2
        go_ret
        exact ⟨rfl, below_drewN bb _⟩

theorem known_any (k n b a s q : Int) (w : World) :
    Calls Try.prog 16 #[.agg #[.int .i64 k, .int .i64 n, .int .i64 b, .int .i64 a, .int .i64 s, .int .i64 q]] w fun e w' => e = .returned (.bool (decide (knownC n b))) ∧ Below w.heap.size w w' := by
  have := known_of k n b a s q (clip n) w (clip_any n) _ _ _ rfl rfl rfl
  rw [show (n == clip n && (decide (-1 ≤ b) && decide (b ≤ 1099511627776))) = decide (knownC n b) by
    rw [Bool.eq_iff_iff, Bool.and_eq_true, Bool.and_eq_true, decide_eq_true_iff, decide_eq_true_iff, decide_eq_true_iff, beq_iff_eq]
    unfold knownC clip
    omega] at this
  exact this

set_option maxHeartbeats 1600000 in
theorem kright_of (k n b a s q : Int) (w : World) (t0 t1 t2 t3 t4 : Bool) (kn : ∀ v, Calls Try.prog 16 #[.agg #[.int .i64 k, .int .i64 n, .int .i64 b, .int .i64 a, .int .i64 s, .int .i64 q]] v fun e w' => e = .returned (.bool t1) ∧ Below v.heap.size v w') (h0 : (k == 1) = t0) (h2 : (a == 0) = t2) (h3 : (s == 0) = t3) (h4 : (q == 0) = t4) :
    Calls Try.prog 11 #[.agg #[.int .i64 k, .int .i64 n, .int .i64 b, .int .i64 a, .int .i64 s, .int .i64 q]] w fun e w' => e = .returned (.bool (t0 && (t1 && (t2 && (t3 && t4))))) ∧ Below w.heap.size w w' := by
  have X := Ctl.new w _ rfl k n b a s q
  obtain ⟨c0, c1, c2, c3, c4, c5, f0, f1, f2, f3, f4, f5⟩ := X
  have bb : Below w.heap.size w (w.alloc (.cells #[.int .i64 k, .int .i64 n, .int .i64 b, .int .i64 a, .int .i64 s, .int .i64 q] 23)) := balloc (Below.refl _ _) _
  cases t0
  · go_enter Try.func11, Try.ntmps11
    go_wp2
    go_ret
    exact ⟨rfl, bb⟩
  · cases t1
    · go_enter Try.func11, Try.ntmps11
      go_wp2_with (go_at_call 16; refine (kn _).mono ?_; rintro e v1 ⟨rfl, b1⟩; clear kn; have X2 := (Ctl.kept ⟨c0, c1, c2, c3, c4, c5, f0, f1, f2, f3, f4, f5⟩ b1); clear c0 c1 c2 c3 c4 c5 f0 f1 f2 f3 f4 f5; obtain ⟨c0, c1, c2, c3, c4, c5, f0, f1, f2, f3, f4, f5⟩ := X2; replace bb := bthen bb b1)
      go_ret
      exact ⟨rfl, bb⟩
    · cases t2
      · go_enter Try.func11, Try.ntmps11
        go_wp2_with (go_at_call 16; refine (kn _).mono ?_; rintro e v1 ⟨rfl, b1⟩; clear kn; have X2 := (Ctl.kept ⟨c0, c1, c2, c3, c4, c5, f0, f1, f2, f3, f4, f5⟩ b1); clear c0 c1 c2 c3 c4 c5 f0 f1 f2 f3 f4 f5; obtain ⟨c0, c1, c2, c3, c4, c5, f0, f1, f2, f3, f4, f5⟩ := X2; replace bb := bthen bb b1)
        go_ret
        exact ⟨rfl, bb⟩
      · cases t3
        · go_enter Try.func11, Try.ntmps11
          go_wp2_with (go_at_call 16; refine (kn _).mono ?_; rintro e v1 ⟨rfl, b1⟩; clear kn; have X2 := (Ctl.kept ⟨c0, c1, c2, c3, c4, c5, f0, f1, f2, f3, f4, f5⟩ b1); clear c0 c1 c2 c3 c4 c5 f0 f1 f2 f3 f4 f5; obtain ⟨c0, c1, c2, c3, c4, c5, f0, f1, f2, f3, f4, f5⟩ := X2; replace bb := bthen bb b1)
          go_ret
          exact ⟨rfl, bb⟩
        · cases t4
          all_goals
            go_enter Try.func11, Try.ntmps11
            go_wp2_with (go_at_call 16; refine (kn _).mono ?_; rintro e v1 ⟨rfl, b1⟩; clear kn; have X2 := (Ctl.kept ⟨c0, c1, c2, c3, c4, c5, f0, f1, f2, f3, f4, f5⟩ b1); clear c0 c1 c2 c3 c4 c5 f0 f1 f2 f3 f4 f5; obtain ⟨c0, c1, c2, c3, c4, c5, f0, f1, f2, f3, f4, f5⟩ := X2; replace bb := bthen bb b1)
            go_ret
            exact ⟨rfl, bb⟩

theorem kright_any (k n b a s q : Int) (w : World) :
    Calls Try.prog 11 #[.agg #[.int .i64 k, .int .i64 n, .int .i64 b, .int .i64 a, .int .i64 s, .int .i64 q]] w fun e w' => e = .returned (.bool (decide (kright k n b a s q))) ∧ Below w.heap.size w w' := by
  have := kright_of k n b a s q w _ _ _ _ _ (known_any k n b a s q) rfl rfl rfl rfl
  rw [show (k == 1 && (decide (knownC n b) && (a == 0 && (s == 0 && q == 0)))) = decide (kright k n b a s q) by
    rw [Bool.eq_iff_iff, Bool.and_eq_true, Bool.and_eq_true, Bool.and_eq_true, Bool.and_eq_true, decide_eq_true_iff, decide_eq_true_iff, beq_iff_eq, beq_iff_eq, beq_iff_eq, beq_iff_eq]
    unfold knownC kright
    omega] at this
  exact this

set_option maxHeartbeats 1600000 in
theorem seen_of (k n b a s q d B x : Int) (w : World) (hb0 : -1 ≤ b) (hb1 : b ≤ 1099511627776) (hd0 : 0 ≤ d) (hd1 : d ≤ 1099511627776) (hB : b = -1 ∧ d = B ∨ b ≠ -1 ∧ min b d = B) (hx : d - B = x) (hx0 : 0 ≤ x) (hx1 : x ≤ 1099511627776) :
    Calls Try.prog 14 #[.agg #[.int .i64 k, .int .i64 n, .int .i64 b, .int .i64 a, .int .i64 s, .int .i64 q], .int .i64 d] w fun e w' => e = .returned (.tuple #[.agg #[.int .i64 k, .int .i64 n, .int .i64 B, .int .i64 a, .int .i64 s, .int .i64 q], .int .i64 x]) ∧ Below w.heap.size w w' := by
  rcases hB with ⟨rfl, rfl⟩ | ⟨hb, hB⟩
  · obtain rfl : 0 = x := by omega
    clear hx
    go_enter Try.func14, Try.ntmps14
    go_wp2
    go_region
    all_goals go_wp2
    all_goals refine bodyPost_ret (v := .tuple #[.agg #[.int .i64 k, .int .i64 n, .int .i64 d, .int .i64 a, .int .i64 s, .int .i64 q], .int .i64 0]) (by simp [results, Try.results14, go_sem]) rfl ⟨rfl, ?_⟩
    all_goals (first | exact Below.drew (balloc (balloc (Below.refl _ _) _) _) | exact balloc (balloc (Below.refl _ _) _) _)
  · go_enter Try.func14, Try.ntmps14
    go_wp2
    go_region
    all_goals go_wp2
    all_goals refine bodyPost_ret (v := .tuple #[.agg #[.int .i64 k, .int .i64 n, .int .i64 B, .int .i64 a, .int .i64 s, .int .i64 q], .int .i64 x]) (by simp [results, Try.results14, go_sem]) rfl ⟨rfl, ?_⟩
    all_goals (first | exact Below.drew (balloc (balloc (Below.refl _ _) _) _) | exact balloc (balloc (Below.refl _ _) _) _)

end Go.Proofs.Ytfnpnfcpganbbaa
