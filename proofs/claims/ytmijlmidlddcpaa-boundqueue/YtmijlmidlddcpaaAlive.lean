/- PROVED: alive8 answers true. CONDITIONS: none. -/
import Derived.Test.YtmijlmidlddcpaaHeld
namespace Go.Proofs.Ytmijlmidlddcpaa
open Go.RowKit

set_option maxHeartbeats 1600000 in
theorem alive_any (w : World) : Calls Try.prog 17 #[] w fun e w' => e = .returned (.bool true) ∧ Below w.heap.size w w' := by
  have B := balloc (balloc (Below.refl w.heap.size w) (.cells #[.int .i64 0, .int .i64 3, .int .i64 4] 3)) (.cells #[.int .i64 0, .int .i64 0, .int .i64 3, .int .i64 5] 3)
  obtain ⟨l, m⟩ := lit2 w #[.int .i64 0, .int .i64 3, .int .i64 4] #[.int .i64 0, .int .i64 0, .int .i64 3, .int .i64 5] [0, 3, 4] [0, 0, 3, 5] rfl rfl
  have T1 := tok
  have T2 := tok
  have T3 := tok
  have T4 := tok
  have T5 := tok
  have T6 := tok
  have T7 := tok
  go_enter Try.func17, Try.ntmps17
  go_wp2_with (first
    | (clear T1; go_at_call 8; refine (far_n _ _ _ _ 3 4 _ _ _ l m rfl rfl (by omega) (by omega) 1 al_far true al_reach).mono ?_; rintro e v1 ⟨rfl, b1⟩; replace B := balloc (balloc (bthen B b1) (.cells #[.int .i64 9] 3)) (.cells #[.int .i64 3] 3); clear l m b1; obtain ⟨l, m⟩ := lit2 v1 #[.int .i64 9] #[.int .i64 3] [9] [3] rfl rfl)
    | (clear T2; go_at_call 8; refine (far_n _ _ _ _ 1 1 _ _ _ l m rfl rfl (by omega) (by omega) 0 al_far2 false al_reach2).mono ?_; rintro e v2 ⟨rfl, b2⟩; replace B := balloc (balloc (bthen B b2) (.cells #[.int .i64 0, .int .i64 3, .int .i64 4] 3)) (.cells #[.int .i64 0, .int .i64 0, .int .i64 3] 3); clear l m b2; obtain ⟨l, m⟩ := lit2 v2 #[.int .i64 0, .int .i64 3, .int .i64 4] #[.int .i64 0, .int .i64 0, .int .i64 3] [0, 3, 4] [0, 0, 3] rfl rfl)
    | (clear T3; go_at_call 10; refine (high_n _ _ _ _ 3 3 _ _ _ l m rfl rfl (by omega) (by omega) 3 al_high).mono ?_; rintro e v3 ⟨rfl, b3⟩; replace B := bthen B b3; clear l m b3)
    | (clear T4; go_at_call 13; refine (serves_n 2 1 4 (by omega) (by omega) (by omega) _ 4 al_serves rfl _).mono ?_; rintro e v4 ⟨a4, c4, rfl, _, r4, b4⟩; replace B := balloc (bthen B b4) (.cells #[.int .i64 0, .int .i64 0, .int .i64 2, .int .i64 4] 3); replace r4 := r4.alloc (.cells #[.int .i64 0, .int .i64 0, .int .i64 2, .int .i64 4] 3); have m := lit1 v4 #[.int .i64 0, .int .i64 0, .int .i64 2, .int .i64 4] [0, 0, 2, 4] rfl; clear b4)
    | (clear T5; go_at_call 12; refine (equal_n _ _ _ _ 4 4 _ _ _ r4 m rfl rfl (by omega) (by omega) true (eqRow _)).mono ?_; rintro e v5 ⟨rfl, b5⟩; replace B := balloc (balloc (bthen B b5) (.cells #[.int .i64 0, .int .i64 3, .int .i64 5] 3)) (.cells #[.int .i64 0, .int .i64 3, .int .i64 5] 3); clear r4 m b5; obtain ⟨l, m⟩ := lit2 v5 #[.int .i64 0, .int .i64 3, .int .i64 5] #[.int .i64 0, .int .i64 3, .int .i64 5] [0, 3, 5] [0, 3, 5] rfl rfl)
    | (clear T6; go_at_call 15; refine (holds_n _ _ _ _ 3 3 _ _ _ l m rfl rfl (by omega) (by omega) (by omega) true al_holds).mono ?_; rintro e v6 ⟨rfl, b6⟩; replace B := balloc (balloc (bthen B b6) (.cells #[.int .i64 0, .int .i64 3, .int .i64 9] 3)) (.cells #[.int .i64 0, .int .i64 3, .int .i64 5] 3); clear l m b6; obtain ⟨l, m⟩ := lit2 v6 #[.int .i64 0, .int .i64 3, .int .i64 9] #[.int .i64 0, .int .i64 3, .int .i64 5] [0, 3, 9] [0, 3, 5] rfl rfl)
    | (clear T7; go_at_call 15; refine (holds_n _ _ _ _ 3 3 _ _ _ l m rfl rfl (by omega) (by omega) (by omega) false al_holds2).mono ?_; rintro e v7 ⟨rfl, b7⟩; replace B := bthen B b7; clear l m b7))
  go_ret
  exact ⟨rfl, B⟩

end Go.Proofs.Ytmijlmidlddcpaa
