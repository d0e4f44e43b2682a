/- PROVED: what is asked ahead of each promise. CONDITIONS: none beyond each theorem's own. -/
import Derived.Test.YtniecidkkhneeaaNext
namespace Go.Proofs.Ytniecidkkhneeaa
open Go.RowKit

theorem new_is (n m : Int) (h : clip n = m) (w : World) :
    Calls Try.prog 10 #[.int .i64 n] w fun e w' => e = .returned (.agg #[.int .i64 3, .int .i64 m, .int .i64 (-1), .int .i64 0, .int .i64 0, .int .i64 0]) ∧ Below w.heap.size w w' := by
  subst h; exact new_any n w
theorem right_yes (k n b a s q : Int) (h : mright k n b a s q) (w : World) :
    Calls Try.prog 11 #[.agg #[.int .i64 k, .int .i64 n, .int .i64 b, .int .i64 a, .int .i64 s, .int .i64 q]] w fun e w' => e = .returned (.bool true) ∧ Below w.heap.size w w' := by
  have := right_any k n b a s q w
  rw [decide_eq_true h] at this
  exact this

set_option maxHeartbeats 1600000 in
theorem alive_any (w : World) : Calls Try.prog 13 #[] w fun e w' => e = .returned (.bool true) ∧ Below w.heap.size w w' := by
  have T1 := tok
  have T2 := tok
  have T3 := tok
  go_enter Try.func13, Try.ntmps13
  go_wp2_with (first
    | (clear T1; go_at_call 10; refine (new_is 4 4 (by decide +kernel) _).mono ?_; rintro e v1 ⟨rfl, b1⟩)
    | (clear T2; go_at_call 8; refine (next_any 3 4 (-1) 0 0 0 3 3 4 3 2 0 (by decide +kernel) _).mono ?_; rintro e v2 ⟨rfl, b2⟩; replace b1 := bthen b1 b2; clear b2; have X := Ctl.new v2 _ rfl 3 4 3 0 0 2)
    | (clear T3; go_at_call 8; refine (next_any 3 4 3 0 0 2 9 3 4 3 0 0 (by decide +kernel) _).mono ?_; rintro e v3 ⟨rfl, b3⟩; replace X := X.kept b3; obtain ⟨c0, c1, c2, c3, c4, c5, f0, f1, f2, f3, f4, f5⟩ := X; replace b1 := bthen b1 (up1 b3); have hs : v2.heap.size < v3.heap.size := (by have := b3.size; simp at this; omega)))
  go_ret
  exact ⟨rfl, balloc b1 _⟩

end Go.Proofs.Ytniecidkkhneeaa
