/- PROVED: alive6 answers true. CONDITIONS: none. -/
import Derived.Test.YtohfgaipalpncabTold
import Derived.Test.YtohfgaipalpncabAgg
import Derived.Deep.RegionHeld3
namespace Go.Proofs.Ytohfgaipalpncab
open Go.RowKit

theorem row5 (w : World) (a b c d e : Int) : Row (w.alloc (.cells #[.int .i64 a, .int .i64 b, .int .i64 c, .int .i64 d, .int .i64 e] 3)) (some ⟨w.heap.size, 0, none⟩) [a, b, c, d, e] := by
  refine .inr ⟨w.heap.size, 0, rfl, fun j hj => ?_⟩
  rw [Nat.zero_add, World.cell?_alloc_at _ _ _ _ rfl]
  simp only [List.length_cons, List.length_nil] at hj
  match j, hj with
  | 0, _ => rfl
  | 1, _ => rfl
  | 2, _ => rfl
  | 3, _ => rfl
  | 4, _ => rfl
theorem row4 (w : World) (a b c d : Int) : Row (w.alloc (.cells #[.int .i64 a, .int .i64 b, .int .i64 c, .int .i64 d] 3)) (some ⟨w.heap.size, 0, none⟩) [a, b, c, d] := by
  refine .inr ⟨w.heap.size, 0, rfl, fun j hj => ?_⟩
  rw [Nat.zero_add, World.cell?_alloc_at _ _ _ _ rfl]
  simp only [List.length_cons, List.length_nil] at hj
  match j, hj with
  | 0, _ => rfl
  | 1, _ => rfl
  | 2, _ => rfl
  | 3, _ => rfl
theorem row3 (w : World) (a b c : Int) : Row (w.alloc (.cells #[.int .i64 a, .int .i64 b, .int .i64 c] 3)) (some ⟨w.heap.size, 0, none⟩) [a, b, c] := by
  refine .inr ⟨w.heap.size, 0, rfl, fun j hj => ?_⟩
  rw [Nat.zero_add, World.cell?_alloc_at _ _ _ _ rfl]
  simp only [List.length_cons, List.length_nil] at hj
  match j, hj with
  | 0, _ => rfl
  | 1, _ => rfl
  | 2, _ => rfl
theorem row2 (w : World) (a b : Int) : Row (w.alloc (.cells #[.int .i64 a, .int .i64 b] 3)) (some ⟨w.heap.size, 0, none⟩) [a, b] := by
  refine .inr ⟨w.heap.size, 0, rfl, fun j hj => ?_⟩
  rw [Nat.zero_add, World.cell?_alloc_at _ _ _ _ rfl]
  simp only [List.length_cons, List.length_nil] at hj
  match j, hj with
  | 0, _ => rfl
  | 1, _ => rfl

theorem al_line : line 2 3 4 = [0, 3, 5, 7] := by decide +kernel
theorem al_right : bright 2 3 [9, 0, 0, 0, 0] := by decide +kernel
theorem al_pass : pass 2 3 [9, 0, 0, 0, 0] = [3, 2, 2, 2, 0] := by decide +kernel
theorem al_keeps : decide (keeps 2 3 [3, 2, 2]) = true := by decide +kernel
theorem al_not : decide (keeps 2 3 [3, 3]) = false := by decide +kernel
theorem al_nil : decide (bright 2 3 []) = true := by decide +kernel
theorem al_eq4 : decide (([0, 3, 5, 7] : List Int) = [0, 3, 5, 7]) = true := by decide +kernel
theorem al_eq5 : decide (([3, 2, 2, 2, 0] : List Int) = [3, 2, 2, 2, 0]) = true := by decide +kernel

theorem Row.drew {w : World} {ao : Option Addr} {zs : List Int} (h : Row w ao zs) : Row w.drew ao zs := h
theorem Bk.drew {w : World} {O : Nat} {R B : Int} (h : Bk w O R B) : Bk w.drew O R B := ⟨h.r, h.b⟩

theorem in2 : inr 2 := by decide
theorem in3 : inr 3 := by decide
theorem line4 (w : World) : Calls Try.prog 5 #[.agg #[.int .i64 2, .int .i64 3], .int .i64 4] w (AnsN w 4 [0, 3, 5, 7]) := line_r 2 3 in2 in3 4 (by omega) _ al_line w

set_option maxHeartbeats 800000 in
theorem alive_any (w : World) : Calls Try.prog 4 #[] w fun e w' => e = .returned (.bool true) ∧ Below w.heap.size w w' := by
  obtain ⟨w0, hw0⟩ : ∃ w0, w.alloc (.cells #[.int .i64 2, .int .i64 3] 23) = w0 := ⟨_, rfl⟩
  have B0 : Below w.heap.size w w0 := by rw [← hw0]; exact balloc (Below.refl _ _) _
  have K0 : Bk w0 w.heap.size 2 3 := by rw [← hw0]; exact Bk.new w 2 3
  have cr := K0.r
  have cb := K0.b
  have T1 := tok
  have T2 := tok
  have T3 := tok
  have T4 := tok
  have T5 := tok
  have T6 := tok
  have T7 := tok
  go_enter Try.func4, Try.ntmps4
  go_wp2_with (first
    | (clear T1; go_at_call 5; refine (line4 _).mono ?_; rintro e v1 ⟨a1, c1, rfl, _, r1, b1⟩; clear cr cb; have B1 := balloc (bthen B0 b1) (.cells #[.int .i64 0, .int .i64 3, .int .i64 5, .int .i64 7] 3); have K1 := (K0.kept b1).alloc (.cells #[.int .i64 0, .int .i64 3, .int .i64 5, .int .i64 7] 3); have l1 := r1.alloc (.cells #[.int .i64 0, .int .i64 3, .int .i64 5, .int .i64 7] 3); have m1 := row4 v1 0 3 5 7; clear B0 K0 b1 r1)
    | (clear T2; go_at_call 8; refine (equal_n _ _ _ _ 4 4 _ _ _ l1 m1 rfl rfl (by omega) (by omega) true al_eq4).mono ?_; rintro e v2 ⟨rfl, b2⟩; have K2 := K1.kept b2; have cr := K2.r; have cb := K2.b; have B2 := balloc (bthen B1 b2) (.cells #[.int .i64 9, .int .i64 0, .int .i64 0, .int .i64 0, .int .i64 0] 3); have l2 := row5 v2 9 0 0 0 0; clear B1 K1 b2 l1 m1)
    | (clear T3; go_at_call 10; refine (pass_r 2 3 _ _ 5 _ _ al_right al_pass _ l2 rfl).mono ?_; rintro e v3 ⟨a3, c3, rfl, _, r3, b3⟩; clear cr cb; have K3 := ((K2.alloc _).kept b3).alloc (.cells #[.int .i64 3, .int .i64 2, .int .i64 2, .int .i64 2, .int .i64 0] 3); have B3 := balloc (bthen B2 b3) (.cells #[.int .i64 3, .int .i64 2, .int .i64 2, .int .i64 2, .int .i64 0] 3); have l3 := r3.alloc (.cells #[.int .i64 3, .int .i64 2, .int .i64 2, .int .i64 2, .int .i64 0] 3); have m3 := row5 v3 3 2 2 2 0; clear B2 K2 b3 r3 l2)
    | (clear T4; go_at_call 8; refine (equal_n _ _ _ _ 5 5 _ _ _ l3 m3 rfl rfl (by omega) (by omega) true al_eq5).mono ?_; rintro e v4 ⟨rfl, b4⟩; have K4 := K3.kept b4; have cr := K4.r; have cb := K4.b; have B4 := balloc (bthen B3 b4) (.cells #[.int .i64 3, .int .i64 2, .int .i64 2] 3); have l4 := row3 v4 3 2 2; clear B3 K3 b4 l3 m3)
    | (clear T5; go_at_call 11; refine (keeps_n 2 3 _ _ 3 _ _ l4 rfl true al_keeps).mono ?_; rintro e v5 ⟨rfl, b5⟩; clear cr cb; have K5 := (K4.alloc _).kept b5; have cr := K5.r; have cb := K5.b; have B5 := balloc (bthen B4 b5) (.cells #[.int .i64 3, .int .i64 3] 3); have l5 := row2 v5 3 3; clear B4 K4 b5 l4)
    | (clear T6; go_at_call 11; refine (keeps_n 2 3 _ _ 2 _ _ l5 rfl false al_not).mono ?_; rintro e v6 ⟨rfl, b6⟩; clear cr cb; have K6 := (K5.alloc _).kept b6; have cr := K6.r; have cb := K6.b; have B6 := bthen B5 b6; clear B5 K5 b6 l5)
    | (clear T7; go_at_call 12; refine (bright_n 2 3 none 0 0 [] _ (.inl rfl) rfl true al_nil).mono ?_; rintro e v7 ⟨rfl, b7⟩; clear cr cb; have B7 := bthen B6 b7; clear B6))
  go_ret
  exact ⟨rfl, B7⟩

end Go.Proofs.Ytohfgaipalpncab
