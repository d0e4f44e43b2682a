/- PROVED: alive4 answers true. CONDITIONS: none. -/
import Derived.Test.YtedcbchelliljaaSteps
import Derived.Test.YtedcbchelliljaaWithin
import Derived.Test.YtedcbchelliljaaRight
namespace Go.Proofs.Ytedcbchelliljaa
open Go.RowKit

theorem row4 (w : World) (a b c d : Int) : Row (w.alloc (.cells #[.int .i64 a, .int .i64 b, .int .i64 c, .int .i64 d] 3)) (some ⟨w.heap.size, 0, none⟩) [a, b, c, d] := by
  refine .inr ⟨w.heap.size, 0, rfl, fun j hj => ?_⟩
  rw [Nat.zero_add, World.cell?_alloc_at _ _ _ _ rfl]
  simp only [List.length_cons, List.length_nil] at hj
  match j, hj with
  | 0, _ => rfl
  | 1, _ => rfl
  | 2, _ => rfl
  | 3, _ => rfl
theorem row3 (w : World) (a b c : Int) : Row (w.alloc (.cells #[.int .i64 a, .int .i64 b, .int .i64 c] 3)) (some ⟨w.heap.size, 0, none⟩) [a, b, c] := by
  refine .inr ⟨w.heap.size, 0, rfl, fun j hj => ?_⟩
  rw [Nat.zero_add, World.cell?_alloc_at _ _ _ _ rfl]
  simp only [List.length_cons, List.length_nil] at hj
  match j, hj with
  | 0, _ => rfl
  | 1, _ => rfl
  | 2, _ => rfl
theorem row2 (w : World) (a b : Int) : Row (w.alloc (.cells #[.int .i64 a, .int .i64 b] 3)) (some ⟨w.heap.size, 0, none⟩) [a, b] := by
  refine .inr ⟨w.heap.size, 0, rfl, fun j hj => ?_⟩
  rw [Nat.zero_add, World.cell?_alloc_at _ _ _ _ rfl]
  simp only [List.length_cons, List.length_nil] at hj
  match j, hj with
  | 0, _ => rfl
  | 1, _ => rfl
/-- behind another new block -/
theorem row2s (w : World) (o : Obj) (a b : Int) : Row ((w.alloc o).alloc (.cells #[.int .i64 a, .int .i64 b] 3)) (some ⟨w.heap.size + 1, 0, none⟩) [a, b] := by
  have := row2 (w.alloc o) a b
  simpa using this

/-- what a call answers: n numbers -/
def AnsN (w : World) (n : Nat) (R : List Int) (e : Ending) (w' : World) : Prop :=
  ∃ ao cap, e = .returned (.slice ao n cap) ∧ n ≤ cap ∧ Row w' ao R ∧ Below w.heap.size w w'

theorem al_of : of [2, 0, 3] = [0, 2, 2, 5] := by decide +kernel
theorem al_steps : stepsOf [0, 2, 2, 5] = [2, 0, 3] := by decide +kernel
theorem al_right : decide (right [0, 2, 2, 5]) = true := by decide +kernel
theorem al_at : att [0, 2, 2, 5] 9 = 5 := by decide +kernel
theorem al_within : decide (below [0, 2, 2, 5] [0, 1]) = false := by decide +kernel
theorem al_sum : both plus [0, 2, 2, 5] [0, 2, 2, 5] = [0, 4, 4, 10] := by decide +kernel
theorem al_lower : both lowr [0, 2, 2, 5] [] = [] := by decide +kernel

theorem of3 (ao : Option Addr) (cap : Nat) (w : World) (h : Row w ao [2, 0, 3]) : Calls Try.prog 9 #[.slice ao 3 cap] w (AnsN w 4 [0, 2, 2, 5]) :=
  (of_any ao cap [2, 0, 3] w h (by simp)).mono fun e w' q => by rw [al_of] at q; exact q
theorem right4 (ao : Option Addr) (cap : Nat) (w : World) (h : Row w ao [0, 2, 2, 5]) : Calls Try.prog 11 #[.slice ao 4 cap] w fun e w' => e = .returned (.bool true) ∧ ∃ q, w' = w.drewN q :=
  (right_any ao cap [0, 2, 2, 5] w h (by simp)).mono fun e w' q => by rw [al_right] at q; exact q
theorem steps4 (ao : Option Addr) (cap : Nat) (w : World) (h : Row w ao [0, 2, 2, 5]) (hc : 4 ≤ cap) : Calls Try.prog 13 #[.slice ao 4 cap] w (AnsN w 3 [2, 0, 3]) :=
  (steps_any ao cap [0, 2, 2, 5] (by simp) hc w h).mono fun e w' q => by rw [al_steps] at q; exact q
theorem at4 (ao : Option Addr) (cap : Nat) (w : World) (h : Row w ao [0, 2, 2, 5]) : Calls Try.prog 15 #[.slice ao 4 cap, .int .i64 9] w fun e w' => e = .returned (.int .i64 5) ∧ w' = w :=
  (at_any ao cap [0, 2, 2, 5] 9 w h (by simp)).mono fun e w' q => by rw [al_at] at q; exact q
theorem within4 (ao a2 : Option Addr) (cap c2 : Nat) (w : World) (h : Row w ao [0, 2, 2, 5]) (h2 : Row w a2 [0, 1]) : Calls Try.prog 17 #[.slice ao 4 cap, .slice a2 2 c2] w fun e w' => e = .returned (.bool false) ∧ Below w.heap.size w w' :=
  (within_any ao a2 cap c2 [0, 2, 2, 5] [0, 1] (by simp) (by simp) w h h2).mono fun e w' q => by rw [al_within] at q; exact q
theorem sum4 (ao : Option Addr) (cap : Nat) (w : World) (h : Row w ao [0, 2, 2, 5]) : Calls Try.prog 22 #[.slice ao 4 cap, .slice ao 4 cap] w (AnsN w 4 [0, 4, 4, 10]) :=
  (sum_any ao ao cap cap [0, 2, 2, 5] [0, 2, 2, 5] (by simp) (by simp) w h h).mono fun e w' q => by rw [al_sum] at q; exact q
theorem lower4 (ao : Option Addr) (cap : Nat) (w : World) (h : Row w ao [0, 2, 2, 5]) : Calls Try.prog 19 #[.slice ao 4 cap, .slice none 0 0] w (AnsN w 0 []) :=
  (lower_any ao none cap 0 [0, 2, 2, 5] [] (by simp) (by simp) w h (.inl rfl)).mono fun e w' q => by rw [al_lower] at q; exact q

set_option maxHeartbeats 1600000 in
theorem alive_any (w : World) : Calls Try.prog 24 #[] w fun e w' => e = .returned (.bool true) ∧ Below w.heap.size w w' := by
  have hl0 := row3 w 2 0 3
  have B0 : Below w.heap.size w (w.alloc (.cells #[.int .i64 2, .int .i64 0, .int .i64 3] 3)) := balloc (Below.refl _ _) _
  go_enter Try.func24, Try.ntmps24
  go_wp2_with (first
    | (go_at_call 9; refine (of3 _ _ _ hl0).mono ?_; rintro e v1 ⟨a1, c1, rfl, hc1, r1, b1⟩; have B1 := bthen B0 b1; have L1 := row4 v1 0 2 2 5; have q1 := r1.alloc (.cells #[.int .i64 0, .int .i64 2, .int .i64 2, .int .i64 5] 3); clear hl0 B0 b1 r1)
    | (go_at_call 8; refine (equal_at _ _ _ _ 4 [0, 2, 2, 5] _ q1 L1 rfl (by omega)).mono ?_; rintro e v2 ⟨rfl, d2, rfl⟩; clear L1)
    | (go_at_call 11; refine (right4 _ _ _ (q1.drewN _)).mono ?_; rintro e v3 ⟨rfl, d3, rfl⟩)
    | (go_at_call 13; refine (steps4 _ _ _ (q1.drewN _) hc1).mono ?_; rintro e v4 ⟨a4, c4, rfl, hc4, r4, b4⟩; have B4 := bthen (below_drewN (balloc B1 _) _) b4; have q4 := (q1.drewN _).kept b4; clear q1 b4 B1; have L4 := row3 v4 2 0 3; have s4 := r4.alloc (.cells #[.int .i64 2, .int .i64 0, .int .i64 3] 3); clear r4; have t4 := q4.alloc (.cells #[.int .i64 2, .int .i64 0, .int .i64 3] 3); clear q4)
    | (go_at_call 8; refine (equal_at _ _ _ _ 3 [2, 0, 3] _ s4 L4 rfl (by omega)).mono ?_; rintro e v5 ⟨rfl, d5, rfl⟩; clear L4 s4)
    | (go_at_call 15; refine (at4 _ _ _ (t4.drewN _)).mono ?_; rintro e v6 ⟨rfl, rfl⟩)
    | (go_at_call 17; refine (within4 _ _ _ _ _ (Row.drewN (t4.alloc _) _) (Row.drewN (row2s v4 (.cells #[.int .i64 2, .int .i64 0, .int .i64 3] 3) 0 1) d5)).mono ?_; rintro e v7 ⟨rfl, b7⟩; have B7 := bthen (below_drewN (balloc (balloc B4 _) _) _) b7; have q7 := (Row.drewN (t4.alloc _) _).kept b7; clear B4 t4 b7)
    | (go_at_call 22; refine (sum4 _ _ _ q7).mono ?_; rintro e v8 ⟨a8, c8, rfl, hc8, r8, b8⟩; have B8 := bthen B7 b8; have q8 := q7.kept b8; have L8 := row4 v8 0 4 4 10; have s8 := r8.alloc (.cells #[.int .i64 0, .int .i64 4, .int .i64 4, .int .i64 10] 3); have t8 := q8.alloc (.cells #[.int .i64 0, .int .i64 4, .int .i64 4, .int .i64 10] 3); clear B7 q7 b8 r8 q8)
    | (go_at_call 8; refine (equal_at _ _ _ _ 4 [0, 4, 4, 10] _ s8 L8 rfl (by omega)).mono ?_; rintro e v9 ⟨rfl, d9, rfl⟩; clear L8 s8)
    | (go_at_call 19; refine (lower4 _ _ _ (t8.drewN _)).mono ?_; rintro e v10 ⟨a10, c10, rfl, hc10, r10, b10⟩; have B10 := bthen (below_drewN (balloc B8 _) _) b10; clear B8 t8 b10))
  go_ret
  exact ⟨rfl, B10⟩

end Go.Proofs.Ytedcbchelliljaa
