/- PROVED: alive7 answers true. CONDITIONS: none. -/
import Derived.Test.YtmhdodlgbbaonabQDelay
namespace Go.Proofs.Ytmhdodlgbbaonab
open Go.RowKit

theorem row3 (w : World) (a b c : Int) : Row (w.alloc (.cells #[.int .i64 a, .int .i64 b, .int .i64 c] 3)) (some ⟨w.heap.size, 0, none⟩) [a, b, c] := by
  refine .inr ⟨w.heap.size, 0, rfl, fun j hj => ?_⟩
  rw [Nat.zero_add, World.cell?_alloc_at _ _ _ _ rfl]
  simp only [List.length_cons, List.length_nil] at hj
  match j, hj with
  | 0, _ => rfl
  | 1, _ => rfl
  | 2, _ => rfl

theorem al_right : bright 2 3 [7, 0, 1] := by decide +kernel
theorem al_went : pw 2 3 [7, 0, 1] = [2, 2, 2] := by decide +kernel
theorem al_lost : pl 2 3 [7, 0, 1] = [2, 0, 0] := by decide +kernel
theorem al_waits : pq 2 3 [7, 0, 1] = [3, 1, 0] := by decide +kernel
theorem al_bright : bright 2 1099511627776 [3, 0, 5] := by decide +kernel
theorem al_delays : dels 2 [3, 0, 5] = [1, 0, -1] := by decide +kernel
theorem eq3 (x : List Int) : decide (x = x) = true := decide_eq_true rfl

set_option maxHeartbeats 1600000 in
theorem alive_any (w : World) : Calls Try.prog 4 #[] w fun e w' => e = .returned (.bool true) ∧ Below w.heap.size w w' := by
  have B := balloc (Below.refl w.heap.size w) (.cells #[.int .i64 7, .int .i64 0, .int .i64 1] 3)
  have l := row3 w 7 0 1
  have T1 := tok
  have T2 := tok
  have T3 := tok
  have T4 := tok
  have T5 := tok
  have T6 := tok
  go_enter Try.func4, Try.ntmps4
  go_wp2_with (first
    | (clear T1; go_at_call 5; refine (play_r 2 3 _ _ 3 _ _ _ _ _ l rfl al_right al_went al_lost al_waits).mono ?_; rintro e v1 ⟨a1, c1, a2, c2, a3, c3, rfl, _, r1, r2, r3, b1⟩; replace B := balloc (bthen B b1) (.cells #[.int .i64 2, .int .i64 2, .int .i64 2] 3); replace r1 := r1.alloc (.cells #[.int .i64 2, .int .i64 2, .int .i64 2] 3); replace r2 := r2.alloc (.cells #[.int .i64 2, .int .i64 2, .int .i64 2] 3); replace r3 := r3.alloc (.cells #[.int .i64 2, .int .i64 2, .int .i64 2] 3); have m := row3 v1 2 2 2; clear b1 l)
    | (clear T2; go_at_call 8; refine (equal_n _ _ _ _ 3 3 _ _ _ r1 m rfl rfl (by omega) (by omega) true (eq3 _)).mono ?_; rintro e v2 ⟨rfl, b2⟩; replace B := balloc (bthen B b2) (.cells #[.int .i64 2, .int .i64 0, .int .i64 0] 3); replace r2 := (r2.kept b2).alloc (.cells #[.int .i64 2, .int .i64 0, .int .i64 0] 3); replace r3 := (r3.kept b2).alloc (.cells #[.int .i64 2, .int .i64 0, .int .i64 0] 3); replace m := row3 v2 2 0 0; clear b2 r1)
    | (clear T3; go_at_call 8; refine (equal_n _ _ _ _ 3 3 _ _ _ r2 m rfl rfl (by omega) (by omega) true (eq3 _)).mono ?_; rintro e v3 ⟨rfl, b3⟩; replace B := balloc (bthen B b3) (.cells #[.int .i64 3, .int .i64 1, .int .i64 0] 3); replace r3 := (r3.kept b3).alloc (.cells #[.int .i64 3, .int .i64 1, .int .i64 0] 3); replace m := row3 v3 3 1 0; clear b3 r2)
    | (clear T4; go_at_call 8; refine (equal_n _ _ _ _ 3 3 _ _ _ r3 m rfl rfl (by omega) (by omega) true (eq3 _)).mono ?_; rintro e v4 ⟨rfl, b4⟩; replace B := balloc (bthen B b4) (.cells #[.int .i64 3, .int .i64 0, .int .i64 5] 3); replace m := row3 v4 3 0 5; clear b4 r3)
    | (clear T5; go_at_call 6; refine (delays_any 2 _ _ 3 _ _ m rfl al_bright _ al_delays).mono ?_; rintro e v5 ⟨a5, c5, rfl, _, r5, b5⟩; replace B := balloc (bthen B b5) (.cells #[.int .i64 1, .int .i64 0, .int .i64 (-1)] 3); replace r5 := r5.alloc (.cells #[.int .i64 1, .int .i64 0, .int .i64 (-1)] 3); replace m := row3 v5 1 0 (-1); clear b5)
    | (clear T6; go_at_call 8; refine (equal_n _ _ _ _ 3 3 _ _ _ r5 m rfl rfl (by omega) (by omega) true (eq3 _)).mono ?_; rintro e v6 ⟨rfl, b6⟩; replace B := bthen B b6; clear b6 r5 m))
  go_ret
  exact ⟨rfl, B⟩

end Go.Proofs.Ytmhdodlgbbaonab
