/- PROVED: what ledbat.Right answers. CONDITIONS: none beyond each theorem's own. -/
import Derived.Test.YtobgjnjndkfjoaaLSmall
namespace Go.Proofs.Ytobgjnjndkfjoaa.L
open Go.RowKit

set_option maxHeartbeats 4000000 in
theorem right_no (k n b a s q m : Int) (w : World) (c : ∀ v, Calls Try.prog 54 #[.int .i64 n] v fun e w' => e = .returned (.int .i64 m) ∧ w' = v) (t0 t1 t2 t3 t4 t5 : Bool) (h0 : (k == 3) = t0) (h1 : (n == m) = t1) (h2 : decide (-1 ≤ b) = t2) (h3 : decide (b ≤ 1099511627776) = t3) (h4 : (a == 0) = t4) (h5 : (s == 0) = t5) (hf : (t0 && (t1 && (t2 && (t3 && (t4 && t5))))) = false) :
    Calls Try.prog 41 #[.agg #[.int .i64 k, .int .i64 n, .int .i64 b, .int .i64 a, .int .i64 s, .int .i64 q]] w fun e w' => e = .returned (.bool false) ∧ Below w.heap.size w w' := by
  obtain ⟨c0, c1, c2, c3, c4, c5, f0, f1, f2, f3, f4, f5⟩ := Ctl.new w _ rfl k n b a s q
  have bb : Below w.heap.size w (w.alloc (.cells #[.int .i64 k, .int .i64 n, .int .i64 b, .int .i64 a, .int .i64 s, .int .i64 q] 26)) := balloc (Below.refl _ _) _
  cases t0
  case' true => cases t1
  case' true.true => cases t2
  case' true.true.true => cases t3
  case' true.true.true.true => cases t4
  case' true.true.true.true.true => cases t5
  case' true.true.true.true.true.true => exact absurd hf (by decide)
  all_goals
    clear hf
    go_enter Try.func41, Try.ntmps41
    go_wp2
    go_quiet ((go_at_call 54; refine (c _).mono ?_; rintro e w'' ⟨rfl, rfl⟩; exact ⟨rfl, _, rfl⟩))
    go_wp2
    go_ret
    exact ⟨rfl, below_drewN bb _⟩

set_option maxHeartbeats 4000000 in
theorem right_part (k n b a s q m : Int) (t : Bool) (w : World) (c : ∀ v, Calls Try.prog 54 #[.int .i64 n] v fun e w' => e = .returned (.int .i64 m) ∧ w' = v) (p : ∀ v, Calls Try.prog 55 #[.agg #[.int .i64 k, .int .i64 n, .int .i64 b, .int .i64 a, .int .i64 s, .int .i64 q]] v fun e w' => e = .returned (.bool t) ∧ Below v.heap.size v w') (h0 : (k == 3) = true) (h1 : (n == m) = true) (h2 : decide (-1 ≤ b) = true) (h3 : decide (b ≤ 1099511627776) = true) (h4 : (a == 0) = true) (h5 : (s == 0) = true) :
    Calls Try.prog 41 #[.agg #[.int .i64 k, .int .i64 n, .int .i64 b, .int .i64 a, .int .i64 s, .int .i64 q]] w fun e w' => e = .returned (.bool t) ∧ Below w.heap.size w w' := by
  have X := Ctl.new w _ rfl k n b a s q
  have bb : Below w.heap.size w (w.alloc (.cells #[.int .i64 k, .int .i64 n, .int .i64 b, .int .i64 a, .int .i64 s, .int .i64 q] 26)) := balloc (Below.refl _ _) _
  go_enter Try.func41, Try.ntmps41
  go_wp2
  generalize w.alloc (.cells #[.int .i64 k, .int .i64 n, .int .i64 b, .int .i64 a, .int .i64 s, .int .i64 q] 26) = v0 at X bb ⊢
  go_region_held3 (fun w' => w'.cell? ⟨w.heap.size, 0, none⟩ = some (.int .i64 k) ∧ w'.cell? ⟨w.heap.size, 1, none⟩ = some (.int .i64 n) ∧ w'.cell? ⟨w.heap.size, 2, none⟩ = some (.int .i64 b) ∧ w'.cell? ⟨w.heap.size, 3, none⟩ = some (.int .i64 a) ∧ w'.cell? ⟨w.heap.size, 4, none⟩ = some (.int .i64 s) ∧ w'.cell? ⟨w.heap.size, 5, none⟩ = some (.int .i64 q)) (exact ⟨X.c0, X.c1, X.c2, X.c3, X.c4, X.c5⟩) (first
    | (go_at_call 54; refine (c _).mono ?_; rintro e v4 ⟨rfl, rfl⟩; clear c; replace bb := Below.drew bb; replace X := X.drew)
    | (go_at_call 55; refine (p _).mono ?_; rintro e v5 ⟨rfl, b5⟩; clear p; replace bb := bthen bb b5; replace X := X.kept b5; clear b5))
  all_goals go_wp2
  all_goals go_ret
  all_goals exact ⟨rfl, bb⟩

theorem right_any (k n b a s q : Int) (w : World) :
    Calls Try.prog 41 #[.agg #[.int .i64 k, .int .i64 n, .int .i64 b, .int .i64 a, .int .i64 s, .int .i64 q]] w fun e w' => e = .returned (.bool (decide (mright k n b a s q))) ∧ Below w.heap.size w w' := by
  by_cases h : k = 3 ∧ n = clip n ∧ -1 ≤ b ∧ b ≤ 1099511627776 ∧ a = 0 ∧ s = 0
  · have := right_part k n b a s q (clip n) _ w (within_any n) (part_any k n b a s q) (by simp [h.1]) (by simp [← h.2.1]) (decide_eq_true h.2.2.1) (decide_eq_true h.2.2.2.1) (by simp [h.2.2.2.2.1]) (by simp [h.2.2.2.2.2])
    rw [show decide (mright k n b a s q) = decide (rpart n q) by
      rw [Bool.eq_iff_iff, decide_eq_true_iff, decide_eq_true_iff]
      unfold mright rpart; unfold clip at h; omega]
    exact this
  · rw [show decide (mright k n b a s q) = false by
      rw [decide_eq_false_iff_not]
      unfold mright; unfold clip at h; omega]
    refine right_no k n b a s q (clip n) w (within_any n) _ _ _ _ _ _ rfl rfl rfl rfl rfl rfl ?_
    rw [← Bool.not_eq_true]
    simp only [Bool.and_eq_true, decide_eq_true_iff, beq_iff_eq]
    exact h

end Go.Proofs.Ytobgjnjndkfjoaa.L
