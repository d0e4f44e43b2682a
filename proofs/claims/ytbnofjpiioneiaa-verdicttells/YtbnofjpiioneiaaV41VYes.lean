/- PROVED: what the document's own way answers: clip, known, KRight, seen and KNext. what the document's own KNext answers. what the verifier's KNext answers where all is right. CONDITIONS: none beyond each theorem's own. -/
import Derived.Test.YtbnofjpiioneiaaB18VNext
namespace Go.Proofs.Ytbnofjpiioneiaa.V
open Go.RowKit
set_option linter.unusedVariables false

theorem clip_any (n : Int) (w : World) :
    Calls Try.prog 75 #[.int .i64 n] w fun e w' => e = .returned (.int .i64 (clip n)) ∧ w' = w := by
  by_cases h1 : n < 1
  · rw [show clip n = 1 by unfold clip; omega]
    go_enter Try.func75, Try.ntmps75
    go_wp2
    go_ret
    exact ⟨rfl, rfl⟩
  · by_cases h2 : 12 < n
    · rw [show clip n = 12 by unfold clip; omega]
      go_enter Try.func75, Try.ntmps75
      go_wp2
      go_ret
      exact ⟨rfl, rfl⟩
    · rw [show clip n = n by unfold clip; omega]
      go_enter Try.func75, Try.ntmps75
      go_wp2
      go_ret
      exact ⟨rfl, rfl⟩

/-- what all of them have -/
def knownC (n b : Int) : Prop := (1 ≤ n ∧ n ≤ 12) ∧ -1 ≤ b ∧ b ≤ 1099511627776
instance (n b : Int) : Decidable (knownC n b) := by unfold knownC; infer_instance

set_option maxHeartbeats 1600000 in
theorem known_of (k n b a s q m : Int) (w : World) (c : ∀ v, Calls Try.prog 75 #[.int .i64 n] v fun e w' => e = .returned (.int .i64 m) ∧ w' = v) (t1 t2 t3 : Bool) (h1 : (n == m) = t1) (h2 : decide (-1 ≤ b) = t2) (h3 : decide (b ≤ 1099511627776) = t3) :
    Calls Try.prog 91 #[.agg #[.int .i64 k, .int .i64 n, .int .i64 b, .int .i64 a, .int .i64 s, .int .i64 q]] w fun e w' => e = .returned (.bool (t1 && (t2 && t3))) ∧ Below w.heap.size w w' := by
  have X := Ctl.new w _ rfl k n b a s q
  obtain ⟨c0, c1, c2, c3, c4, c5, f0, f1, f2, f3, f4, f5⟩ := X
  have bb : Below w.heap.size w (w.alloc (.cells #[.int .i64 k, .int .i64 n, .int .i64 b, .int .i64 a, .int .i64 s, .int .i64 q] 35)) := balloc (Below.refl _ _) _
  cases t1
  · go_enter Try.func91, Try.ntmps91
    go_wp2
    go_quiet ((go_at_call 75; refine (c _).mono ?_; rintro e w'' ⟨rfl, rfl⟩; exact ⟨rfl, _, rfl⟩))
    go_wp2
    go_ret
    exact ⟨rfl, below_drewN bb _⟩
  · cases t2
    · go_enter Try.func91, Try.ntmps91
      go_wp2
      go_quiet ((go_at_call 75; refine (c _).mono ?_; rintro e w'' ⟨rfl, rfl⟩; exact ⟨rfl, _, rfl⟩))
      go_wp2
      go_ret
      exact ⟨rfl, below_drewN bb _⟩
    · cases t3
      all_goals
        go_enter Try.func91, Try.ntmps91
        go_wp2
        go_quiet ((go_at_call 75; refine (c _).mono ?_; rintro e w'' ⟨rfl, rfl⟩; exact ⟨rfl, _, rfl⟩))
        go_wp2
        go_ret
        exact ⟨rfl, below_drewN bb _⟩

theorem known_any (k n b a s q : Int) (w : World) :
    Calls Try.prog 91 #[.agg #[.int .i64 k, .int .i64 n, .int .i64 b, .int .i64 a, .int .i64 s, .int .i64 q]] w fun e w' => e = .returned (.bool (decide (knownC n b))) ∧ Below w.heap.size w w' := by
  have := known_of k n b a s q (clip n) w (clip_any n) _ _ _ rfl rfl rfl
  rw [show (n == clip n && (decide (-1 ≤ b) && decide (b ≤ 1099511627776))) = decide (knownC n b) by
    rw [Bool.eq_iff_iff, Bool.and_eq_true, Bool.and_eq_true, decide_eq_true_iff, decide_eq_true_iff, decide_eq_true_iff, beq_iff_eq]
    unfold knownC clip
    omega] at this
  exact this

set_option maxHeartbeats 1600000 in
theorem kright_of (k n b a s q : Int) (w : World) (t0 t1 t2 t3 t4 : Bool) (kn : ∀ v, Calls Try.prog 91 #[.agg #[.int .i64 k, .int .i64 n, .int .i64 b, .int .i64 a, .int .i64 s, .int .i64 q]] v fun e w' => e = .returned (.bool t1) ∧ Below v.heap.size v w') (h0 : (k == 1) = t0) (h2 : (a == 0) = t2) (h3 : (s == 0) = t3) (h4 : (q == 0) = t4) :
    Calls Try.prog 73 #[.agg #[.int .i64 k, .int .i64 n, .int .i64 b, .int .i64 a, .int .i64 s, .int .i64 q]] w fun e w' => e = .returned (.bool (t0 && (t1 && (t2 && (t3 && t4))))) ∧ Below w.heap.size w w' := by
  have X := Ctl.new w _ rfl k n b a s q
  obtain ⟨c0, c1, c2, c3, c4, c5, f0, f1, f2, f3, f4, f5⟩ := X
  have bb : Below w.heap.size w (w.alloc (.cells #[.int .i64 k, .int .i64 n, .int .i64 b, .int .i64 a, .int .i64 s, .int .i64 q] 35)) := balloc (Below.refl _ _) _
  cases t0
  · go_enter Try.func73, Try.ntmps73
    go_wp2
    go_ret
    exact ⟨rfl, bb⟩
  · cases t1
    · go_enter Try.func73, Try.ntmps73
      go_wp2_with (go_at_call 91; refine (kn _).mono ?_; rintro e v1 ⟨rfl, b1⟩; clear kn; have X2 := (Ctl.kept ⟨c0, c1, c2, c3, c4, c5, f0, f1, f2, f3, f4, f5⟩ b1); clear c0 c1 c2 c3 c4 c5 f0 f1 f2 f3 f4 f5; obtain ⟨c0, c1, c2, c3, c4, c5, f0, f1, f2, f3, f4, f5⟩ := X2; replace bb := bthen bb b1)
      go_ret
      exact ⟨rfl, bb⟩
    · cases t2
      · go_enter Try.func73, Try.ntmps73
        go_wp2_with (go_at_call 91; refine (kn _).mono ?_; rintro e v1 ⟨rfl, b1⟩; clear kn; have X2 := (Ctl.kept ⟨c0, c1, c2, c3, c4, c5, f0, f1, f2, f3, f4, f5⟩ b1); clear c0 c1 c2 c3 c4 c5 f0 f1 f2 f3 f4 f5; obtain ⟨c0, c1, c2, c3, c4, c5, f0, f1, f2, f3, f4, f5⟩ := X2; replace bb := bthen bb b1)
        go_ret
        exact ⟨rfl, bb⟩
      · cases t3
        · go_enter Try.func73, Try.ntmps73
          go_wp2_with (go_at_call 91; refine (kn _).mono ?_; rintro e v1 ⟨rfl, b1⟩; clear kn; have X2 := (Ctl.kept ⟨c0, c1, c2, c3, c4, c5, f0, f1, f2, f3, f4, f5⟩ b1); clear c0 c1 c2 c3 c4 c5 f0 f1 f2 f3 f4 f5; obtain ⟨c0, c1, c2, c3, c4, c5, f0, f1, f2, f3, f4, f5⟩ := X2; replace bb := bthen bb b1)
          go_ret
          exact ⟨rfl, bb⟩
        · cases t4
          all_goals
            go_enter Try.func73, Try.ntmps73
            go_wp2_with (go_at_call 91; refine (kn _).mono ?_; rintro e v1 ⟨rfl, b1⟩; clear kn; have X2 := (Ctl.kept ⟨c0, c1, c2, c3, c4, c5, f0, f1, f2, f3, f4, f5⟩ b1); clear c0 c1 c2 c3 c4 c5 f0 f1 f2 f3 f4 f5; obtain ⟨c0, c1, c2, c3, c4, c5, f0, f1, f2, f3, f4, f5⟩ := X2; replace bb := bthen bb b1)
            go_ret
            exact ⟨rfl, bb⟩

theorem kright_any (k n b a s q : Int) (w : World) :
    Calls Try.prog 73 #[.agg #[.int .i64 k, .int .i64 n, .int .i64 b, .int .i64 a, .int .i64 s, .int .i64 q]] w fun e w' => e = .returned (.bool (decide (kright k n b a s q))) ∧ Below w.heap.size w w' := by
  have := kright_of k n b a s q w _ _ _ _ _ (known_any k n b a s q) rfl rfl rfl rfl
  rw [show (k == 1 && (decide (knownC n b) && (a == 0 && (s == 0 && q == 0)))) = decide (kright k n b a s q) by
    rw [Bool.eq_iff_iff, Bool.and_eq_true, Bool.and_eq_true, Bool.and_eq_true, Bool.and_eq_true, decide_eq_true_iff, decide_eq_true_iff, beq_iff_eq, beq_iff_eq, beq_iff_eq, beq_iff_eq]
    unfold knownC kright
    omega] at this
  exact this

set_option maxHeartbeats 1600000 in
theorem seen_of (k n b a s q d B x : Int) (w : World) (hb0 : -1 ≤ b) (hb1 : b ≤ 1099511627776) (hd0 : 0 ≤ d) (hd1 : d ≤ 1099511627776) (hB : b = -1 ∧ d = B ∨ b ≠ -1 ∧ min b d = B) (hx : d - B = x) (hx0 : 0 ≤ x) (hx1 : x ≤ 1099511627776) :
    Calls Try.prog 74 #[.agg #[.int .i64 k, .int .i64 n, .int .i64 b, .int .i64 a, .int .i64 s, .int .i64 q], .int .i64 d] w fun e w' => e = .returned (.tuple #[.agg #[.int .i64 k, .int .i64 n, .int .i64 B, .int .i64 a, .int .i64 s, .int .i64 q], .int .i64 x]) ∧ Below w.heap.size w w' := by
  rcases hB with ⟨rfl, rfl⟩ | ⟨hb, hB⟩
  · obtain rfl : 0 = x := by omega
    clear hx
    go_enter Try.func74, Try.ntmps74
    go_wp2
    go_region
    all_goals go_wp2
    all_goals refine bodyPost_ret (v := .tuple #[.agg #[.int .i64 k, .int .i64 n, .int .i64 d, .int .i64 a, .int .i64 s, .int .i64 q], .int .i64 0]) (by simp [results, Try.results74, go_sem]) rfl ⟨rfl, ?_⟩
    all_goals (first | exact Below.drew (balloc (balloc (Below.refl _ _) _) _) | exact balloc (balloc (Below.refl _ _) _) _)
  · go_enter Try.func74, Try.ntmps74
    go_wp2
    go_region
    all_goals go_wp2
    all_goals refine bodyPost_ret (v := .tuple #[.agg #[.int .i64 k, .int .i64 n, .int .i64 B, .int .i64 a, .int .i64 s, .int .i64 q], .int .i64 x]) (by simp [results, Try.results74, go_sem]) rfl ⟨rfl, ?_⟩
    all_goals (first | exact Below.drew (balloc (balloc (Below.refl _ _) _) _) | exact balloc (balloc (Below.refl _ _) _) _)

end Go.Proofs.Ytbnofjpiioneiaa.V

namespace Go.Proofs.Ytbnofjpiioneiaa.V
open Go.RowKit
set_option linter.unusedVariables false

set_option maxHeartbeats 1600000 in
theorem ref_form (k n b a s q d : Int) (w : World) (h : ¬ kright k n b a s q) :
    Calls Try.prog 53 #[.agg #[.int .i64 k, .int .i64 n, .int .i64 b, .int .i64 a, .int .i64 s, .int .i64 q], .int .i64 d] w fun e w' => e = .returned (.tuple #[.agg #[.int .i64 0, .int .i64 0, .int .i64 0, .int .i64 0, .int .i64 0, .int .i64 0], .int .i64 1]) ∧ Below w.heap.size w w' := by
  have r := fun v => kright_any k n b a s q v
  rw [decide_eq_false h] at r
  clear h
  go_enter Try.func53, Try.ntmps53
  go_wp2_with (go_at_call 73; refine (r _).mono ?_; rintro e w1 ⟨rfl, hb⟩; obtain ⟨d0, d1, d2, d3, d4, d5, g0, g1, g2, g3, g4, g5⟩ := (two hb).2)
  refine bodyPost_ret (v := .tuple #[.agg #[.int .i64 0, .int .i64 0, .int .i64 0, .int .i64 0, .int .i64 0, .int .i64 0], .int .i64 1]) (by simp [results, Try.results53, go_sem, d0, d1, d2, d3, d4, d5]) rfl ⟨rfl, ?_⟩
  repeat (refine Below.setCell ?_ (by simp) _)
  exact up2 hb

set_option maxHeartbeats 1600000 in
theorem ref_range (k n b a s q d : Int) (w : World) (h : kright k n b a s q) (hd : ¬ inr d) :
    Calls Try.prog 53 #[.agg #[.int .i64 k, .int .i64 n, .int .i64 b, .int .i64 a, .int .i64 s, .int .i64 q], .int .i64 d] w fun e w' => e = .returned (.tuple #[.agg #[.int .i64 0, .int .i64 0, .int .i64 0, .int .i64 0, .int .i64 0, .int .i64 0], .int .i64 2]) ∧ Below w.heap.size w w' := by
  have r := fun v => kright_any k n b a s q v
  rw [decide_eq_true h] at r
  clear h
  unfold inr at hd
  by_cases h0 : d < 0
  · clear hd
    go_enter Try.func53, Try.ntmps53
    go_wp2_with (go_at_call 73; refine (r _).mono ?_; rintro e w1 ⟨rfl, hb⟩; obtain ⟨d0, d1, d2, d3, d4, d5, g0, g1, g2, g3, g4, g5⟩ := (two hb).2)
    refine bodyPost_ret (v := .tuple #[.agg #[.int .i64 0, .int .i64 0, .int .i64 0, .int .i64 0, .int .i64 0, .int .i64 0], .int .i64 2]) (by simp [results, Try.results53, go_sem, d0, d1, d2, d3, d4, d5]) rfl ⟨rfl, ?_⟩
    repeat (refine Below.setCell ?_ (by simp) _)
    exact up2 hb
  · have h1 : 1099511627776 < d := by omega
    clear hd
    go_enter Try.func53, Try.ntmps53
    go_wp2_with (go_at_call 73; refine (r _).mono ?_; rintro e w1 ⟨rfl, hb⟩; obtain ⟨d0, d1, d2, d3, d4, d5, g0, g1, g2, g3, g4, g5⟩ := (two hb).2)
    refine bodyPost_ret (v := .tuple #[.agg #[.int .i64 0, .int .i64 0, .int .i64 0, .int .i64 0, .int .i64 0, .int .i64 0], .int .i64 2]) (by simp [results, Try.results53, go_sem, d0, d1, d2, d3, d4, d5]) rfl ⟨rfl, ?_⟩
    repeat (refine Below.setCell ?_ (by simp) _)
    exact up2 hb

set_option maxHeartbeats 1600000 in
theorem ref_more (n b d V B x p : Int) (w : World) (hn : 1 ≤ n ∧ n ≤ 12) (r : ∀ v, Calls Try.prog 73 #[.agg #[.int .i64 1, .int .i64 n, .int .i64 b, .int .i64 0, .int .i64 0, .int .i64 0]] v fun e w' => e = .returned (.bool true) ∧ Below v.heap.size v w')
    (sn : ∀ v, Calls Try.prog 74 #[.agg #[.int .i64 1, .int .i64 n, .int .i64 b, .int .i64 0, .int .i64 0, .int .i64 0], .int .i64 d] v fun e w' => e = .returned (.tuple #[.agg #[.int .i64 1, .int .i64 n, .int .i64 B, .int .i64 0, .int .i64 0, .int .i64 0], .int .i64 x]) ∧ Below v.heap.size v w')
    (c : ∀ v, Calls Try.prog 75 #[.int .i64 (n + 1)] v fun e w' => e = .returned (.int .i64 V) ∧ w' = v) (h0 : 0 ≤ d) (h1 : d ≤ 1099511627776) (hp : n * x = p) (hp0 : 0 ≤ p) (hp1 : p ≤ 13194139533312)
    (h2 : decide (p < 1 + d) = true) :
    Calls Try.prog 53 #[.agg #[.int .i64 1, .int .i64 n, .int .i64 b, .int .i64 0, .int .i64 0, .int .i64 0], .int .i64 d] w fun e w' => e = .returned (.tuple #[.agg #[.int .i64 1, .int .i64 V, .int .i64 B, .int .i64 0, .int .i64 0, .int .i64 0], .int .i64 0]) ∧ Below w.heap.size w w' := by
  go_enter Try.func53, Try.ntmps53
  go_wp2_with (first
    | (go_at_call 73; refine (r _).mono ?_; rintro e w1 ⟨rfl, HB⟩; obtain ⟨X, Y⟩ := two HB; clear r; replace HB := up2 HB; obtain ⟨c0, c1, c2, c3, c4, c5, f0, f1, f2, f3, f4, f5⟩ := X)
    | (go_at_call 74; refine (sn _).mono ?_; rintro e w2 ⟨rfl, b2⟩; clear sn; have X2 := (Ctl.kept ⟨c0, c1, c2, c3, c4, c5, f0, f1, f2, f3, f4, f5⟩ b2); clear c0 c1 c2 c3 c4 c5 f0 f1 f2 f3 f4 f5; replace Y := Y.kept b2; replace HB := bthen HB b2; clear b2; obtain ⟨c0, c1, c2, c3, c4, c5, f0, f1, f2, f3, f4, f5⟩ := X2; obtain ⟨d0, d1, d2, d3, d4, d5, g0, g1, g2, g3, g4, g5⟩ := Y; have z1 : w.heap.size < w2.heap.size := block_lt c0; have z2 : w.heap.size + 1 < w2.heap.size := block_lt d0)
    | (go_at_call 75; refine (c _).mono ?_; rintro e w' ⟨rfl, rfl⟩; clear c))
  refine bodyPost_ret (v := .tuple #[.agg #[.int .i64 1, .int .i64 V, .int .i64 B, .int .i64 0, .int .i64 0, .int .i64 0], .int .i64 0]) (by simp [results, Try.results53, go_sem, d0, d1, d2, d3, d4, d5, z2]) rfl ⟨rfl, ?_⟩
  refine balloc ?_ _
  repeat (refine Below.setCell ?_ (by simp) _)
  exact HB

set_option maxHeartbeats 1600000 in
theorem ref_less (n b d V B x p : Int) (w : World) (hn : 1 ≤ n ∧ n ≤ 12) (r : ∀ v, Calls Try.prog 73 #[.agg #[.int .i64 1, .int .i64 n, .int .i64 b, .int .i64 0, .int .i64 0, .int .i64 0]] v fun e w' => e = .returned (.bool true) ∧ Below v.heap.size v w')
    (sn : ∀ v, Calls Try.prog 74 #[.agg #[.int .i64 1, .int .i64 n, .int .i64 b, .int .i64 0, .int .i64 0, .int .i64 0], .int .i64 d] v fun e w' => e = .returned (.tuple #[.agg #[.int .i64 1, .int .i64 n, .int .i64 B, .int .i64 0, .int .i64 0, .int .i64 0], .int .i64 x]) ∧ Below v.heap.size v w')
    (c : ∀ v, Calls Try.prog 75 #[.int .i64 (n - 1)] v fun e w' => e = .returned (.int .i64 V) ∧ w' = v) (h0 : 0 ≤ d) (h1 : d ≤ 1099511627776) (hp : n * x = p) (hp0 : 0 ≤ p) (hp1 : p ≤ 13194139533312)
    (h2 : decide (p < 1 + d) = false) (h3 : decide (3 * (1 + d) ≤ p) = true) :
    Calls Try.prog 53 #[.agg #[.int .i64 1, .int .i64 n, .int .i64 b, .int .i64 0, .int .i64 0, .int .i64 0], .int .i64 d] w fun e w' => e = .returned (.tuple #[.agg #[.int .i64 1, .int .i64 V, .int .i64 B, .int .i64 0, .int .i64 0, .int .i64 0], .int .i64 0]) ∧ Below w.heap.size w w' := by
  go_enter Try.func53, Try.ntmps53
  go_wp2_with (first
    | (go_at_call 73; refine (r _).mono ?_; rintro e w1 ⟨rfl, HB⟩; obtain ⟨X, Y⟩ := two HB; clear r; replace HB := up2 HB; obtain ⟨c0, c1, c2, c3, c4, c5, f0, f1, f2, f3, f4, f5⟩ := X)
    | (go_at_call 74; refine (sn _).mono ?_; rintro e w2 ⟨rfl, b2⟩; clear sn; have X2 := (Ctl.kept ⟨c0, c1, c2, c3, c4, c5, f0, f1, f2, f3, f4, f5⟩ b2); clear c0 c1 c2 c3 c4 c5 f0 f1 f2 f3 f4 f5; replace Y := Y.kept b2; replace HB := bthen HB b2; clear b2; obtain ⟨c0, c1, c2, c3, c4, c5, f0, f1, f2, f3, f4, f5⟩ := X2; obtain ⟨d0, d1, d2, d3, d4, d5, g0, g1, g2, g3, g4, g5⟩ := Y; have z1 : w.heap.size < w2.heap.size := block_lt c0; have z2 : w.heap.size + 1 < w2.heap.size := block_lt d0)
    | (go_at_call 75; refine (c _).mono ?_; rintro e w' ⟨rfl, rfl⟩; clear c))
  refine bodyPost_ret (v := .tuple #[.agg #[.int .i64 1, .int .i64 V, .int .i64 B, .int .i64 0, .int .i64 0, .int .i64 0], .int .i64 0]) (by simp [results, Try.results53, go_sem, d0, d1, d2, d3, d4, d5, z2]) rfl ⟨rfl, ?_⟩
  refine balloc ?_ _
  repeat (refine Below.setCell ?_ (by simp) _)
  exact HB

set_option maxHeartbeats 1600000 in
theorem ref_stay (n b d V B x p : Int) (w : World) (hn : 1 ≤ n ∧ n ≤ 12) (r : ∀ v, Calls Try.prog 73 #[.agg #[.int .i64 1, .int .i64 n, .int .i64 b, .int .i64 0, .int .i64 0, .int .i64 0]] v fun e w' => e = .returned (.bool true) ∧ Below v.heap.size v w')
    (sn : ∀ v, Calls Try.prog 74 #[.agg #[.int .i64 1, .int .i64 n, .int .i64 b, .int .i64 0, .int .i64 0, .int .i64 0], .int .i64 d] v fun e w' => e = .returned (.tuple #[.agg #[.int .i64 1, .int .i64 n, .int .i64 B, .int .i64 0, .int .i64 0, .int .i64 0], .int .i64 x]) ∧ Below v.heap.size v w')
    (c : ∀ v, Calls Try.prog 75 #[.int .i64 n] v fun e w' => e = .returned (.int .i64 V) ∧ w' = v) (h0 : 0 ≤ d) (h1 : d ≤ 1099511627776) (hp : n * x = p) (hp0 : 0 ≤ p) (hp1 : p ≤ 13194139533312)
    (h2 : decide (p < 1 + d) = false) (h3 : decide (3 * (1 + d) ≤ p) = false) :
    Calls Try.prog 53 #[.agg #[.int .i64 1, .int .i64 n, .int .i64 b, .int .i64 0, .int .i64 0, .int .i64 0], .int .i64 d] w fun e w' => e = .returned (.tuple #[.agg #[.int .i64 1, .int .i64 V, .int .i64 B, .int .i64 0, .int .i64 0, .int .i64 0], .int .i64 0]) ∧ Below w.heap.size w w' := by
  go_enter Try.func53, Try.ntmps53
  go_wp2_with (first
    | (go_at_call 73; refine (r _).mono ?_; rintro e w1 ⟨rfl, HB⟩; obtain ⟨X, Y⟩ := two HB; clear r; replace HB := up2 HB; obtain ⟨c0, c1, c2, c3, c4, c5, f0, f1, f2, f3, f4, f5⟩ := X)
    | (go_at_call 74; refine (sn _).mono ?_; rintro e w2 ⟨rfl, b2⟩; clear sn; have X2 := (Ctl.kept ⟨c0, c1, c2, c3, c4, c5, f0, f1, f2, f3, f4, f5⟩ b2); clear c0 c1 c2 c3 c4 c5 f0 f1 f2 f3 f4 f5; replace Y := Y.kept b2; replace HB := bthen HB b2; clear b2; obtain ⟨c0, c1, c2, c3, c4, c5, f0, f1, f2, f3, f4, f5⟩ := X2; obtain ⟨d0, d1, d2, d3, d4, d5, g0, g1, g2, g3, g4, g5⟩ := Y; have z1 : w.heap.size < w2.heap.size := block_lt c0; have z2 : w.heap.size + 1 < w2.heap.size := block_lt d0)
    | (go_at_call 75; refine (c _).mono ?_; rintro e w' ⟨rfl, rfl⟩; clear c))
  refine bodyPost_ret (v := .tuple #[.agg #[.int .i64 1, .int .i64 V, .int .i64 B, .int .i64 0, .int .i64 0, .int .i64 0], .int .i64 0]) (by simp [results, Try.results53, go_sem, d0, d1, d2, d3, d4, d5, z2]) rfl ⟨rfl, ?_⟩
  refine balloc ?_ _
  repeat (refine Below.setCell ?_ (by simp) _)
  exact HB

end Go.Proofs.Ytbnofjpiioneiaa.V

namespace Go.Proofs.Ytbnofjpiioneiaa.V
open Go.RowKit

theorem ref_yes (k n b a s q d : Int) (w : World) (h : kright k n b a s q) (hd : inr d) :
    Calls Try.prog 53 #[.agg #[.int .i64 k, .int .i64 n, .int .i64 b, .int .i64 a, .int .i64 s, .int .i64 q], .int .i64 d] w fun e w' => e = .returned (.tuple #[.agg #[.int .i64 1, .int .i64 (nw n (d - nb b d) d), .int .i64 (nb b d), .int .i64 0, .int .i64 0, .int .i64 0], .int .i64 0]) ∧ Below w.heap.size w w' := by
  have r := fun v => kright_any k n b a s q v
  rw [decide_eq_true h] at r
  obtain ⟨hB0, hB1, hB2, hx0, hx1⟩ := nb_in (b := b) hd
  obtain ⟨rfl, hn, ⟨hb0, hb1⟩, rfl, rfl, rfl⟩ := h
  obtain ⟨h0, h1⟩ := hd
  have sn := fun v => seen_of 1 n b 0 0 0 d (nb b d) (d - nb b d) v hb0 hb1 h0 h1 (by unfold nb; split <;> omega) rfl hx0 hx1
  obtain ⟨p0, p1⟩ := mul_in (n := n) (x := d - nb b d) hn hx0 hx1
  generalize nb b d = B at *
  generalize d - B = x at *
  unfold nw
  by_cases c1 : n * x < 1 + d
  · rw [if_pos c1]
    exact ref_more n b d _ B x _ w hn r sn (clip_any _) h0 h1 rfl p0 p1 (decide_eq_true c1)
  · rw [if_neg c1]
    by_cases c2 : 3 * (1 + d) ≤ n * x
    · rw [if_pos c2]
      exact ref_less n b d _ B x _ w hn r sn (clip_any _) h0 h1 rfl p0 p1 (decide_eq_false c1) (decide_eq_true c2)
    · rw [if_neg c2]
      refine ref_stay n b d n B x _ w hn r sn (fun v => ?_) h0 h1 rfl p0 p1 (decide_eq_false c1) (decide_eq_false c2)
      have := clip_any n v
      rw [clip_is hn.1 hn.2] at this
      exact this

end Go.Proofs.Ytbnofjpiioneiaa.V
