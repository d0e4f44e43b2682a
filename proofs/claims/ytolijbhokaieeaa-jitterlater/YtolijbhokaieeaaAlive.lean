/- PROVED: alive9 answers true. CONDITIONS: none. -/
import Derived.Test.YtolijbhokaieeaaTold
namespace Go.Proofs.Ytolijbhokaieeaa
open Go.RowKit

set_option maxHeartbeats 1600000 in
theorem alive_any (w : World) : Calls Try.prog 13 #[] w fun e w' => e = .returned (.bool true) ∧ Below w.heap.size w w' := by
  have B := balloc (balloc (Below.refl w.heap.size w) (.cells #[.int .i64 1, .int .i64 2, .int .i64 9] 3)) (.cells #[.int .i64 5, .int .i64 0, .int .i64 1] 3)
  obtain ⟨l, m⟩ := lit2 w #[.int .i64 1, .int .i64 2, .int .i64 9] #[.int .i64 5, .int .i64 0, .int .i64 1] [1, 2, 9] [5, 0, 1] rfl rfl
  have T1 := tok
  have T2 := tok
  have T3 := tok
  have T4 := tok
  have T5 := tok
  go_enter Try.func13, Try.ntmps13
  go_wp2_with (first
    | (clear T1; go_at_call 10; refine (pass_n _ _ _ _ 3 3 _ _ _ 3 _ l m rfl rfl (by omega) (by omega) al_pass rfl).mono ?_; rintro e v1 ⟨a1, c1, rfl, _, p, b1⟩; replace B := balloc (bthen B b1) (.cells #[.int .i64 6, .int .i64 6, .int .i64 10] 3); clear l m b1; replace p := p.alloc (.cells #[.int .i64 6, .int .i64 6, .int .i64 10] 3); have l := lit1 v1 #[.int .i64 6, .int .i64 6, .int .i64 10] [6, 6, 10] rfl)
    | (clear T2; go_at_call 9; refine (equal_n _ _ _ _ 3 3 _ _ _ p l rfl rfl (by omega) (by omega) true (eqRow _)).mono ?_; rintro e v2 ⟨rfl, b2⟩; replace B := balloc (bthen B b2) (.cells #[.int .i64 1, .int .i64 2, .int .i64 9] 3); replace p := (p.kept b2).alloc (.cells #[.int .i64 1, .int .i64 2, .int .i64 9] 3); clear l b2; have l := lit1 v2 #[.int .i64 1, .int .i64 2, .int .i64 9] [1, 2, 9] rfl)
    | (clear T3; go_at_call 12; refine (delays_n _ _ _ _ 3 3 _ _ _ 3 _ l p rfl rfl (by omega) (by omega) al_dl rfl).mono ?_; rintro e v3 ⟨a3, c3, rfl, _, d, b3⟩; replace B := balloc (bthen B b3) (.cells #[.int .i64 5, .int .i64 4, .int .i64 1] 3); clear l p b3; replace d := d.alloc (.cells #[.int .i64 5, .int .i64 4, .int .i64 1] 3); have l := lit1 v3 #[.int .i64 5, .int .i64 4, .int .i64 1] [5, 4, 1] rfl)
    | (clear T4; go_at_call 9; refine (equal_n _ _ _ _ 3 3 _ _ _ d l rfl rfl (by omega) (by omega) true (eqRow _)).mono ?_; rintro e v4 ⟨rfl, b4⟩; replace B := balloc (balloc (bthen B b4) (.cells #[.int .i64 2, .int .i64 1] 3)) (.cells #[.int .i64 0, .int .i64 0] 3); clear l d b4; obtain ⟨l, m⟩ := lit2 v4 #[.int .i64 2, .int .i64 1] #[.int .i64 0, .int .i64 0] [2, 1] [0, 0] rfl rfl)
    | (clear T5; go_at_call 7; refine (right_n _ _ _ _ 2 2 _ _ _ l m rfl rfl (by omega) (by omega) false al_right).mono ?_; rintro e v5 ⟨rfl, b5⟩; replace B := bthen B b5; clear l m b5))
  go_ret
  exact ⟨rfl, B⟩

end Go.Proofs.Ytolijbhokaieeaa
