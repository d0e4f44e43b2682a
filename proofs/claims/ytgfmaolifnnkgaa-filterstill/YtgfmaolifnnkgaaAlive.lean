/- PROVED: alive3 answers true. CONDITIONS: none. -/
import Derived.Test.YtgfmaolifnnkgaaSpread
namespace Go.Proofs.Ytgfmaolifnnkgaa
open Go.RowKit

theorem row4 (w : World) (a b c d : Int) : Row (w.alloc (.cells #[.int .i64 a, .int .i64 b, .int .i64 c, .int .i64 d] 3)) (some ⟨w.heap.size, 0, none⟩) [a, b, c, d] := by
  refine .inr ⟨w.heap.size, 0, rfl, fun j hj => ?_⟩
  rw [Nat.zero_add, World.cell?_alloc_at _ _ _ _ rfl]
  simp only [List.length_cons, List.length_nil] at hj
  match j, hj with
  | 0, _ => rfl
  | 1, _ => rfl
  | 2, _ => rfl
  | 3, _ => rfl
theorem row2 (w : World) (a b : Int) : Row (w.alloc (.cells #[.int .i64 a, .int .i64 b] 3)) (some ⟨w.heap.size, 0, none⟩) [a, b] := by
  refine .inr ⟨w.heap.size, 0, rfl, fun j hj => ?_⟩
  rw [Nat.zero_add, World.cell?_alloc_at _ _ _ _ rfl]
  simp only [List.length_cons, List.length_nil] at hj
  match j, hj with
  | 0, _ => rfl
  | 1, _ => rfl
theorem row1 (w : World) (a : Int) : Row (w.alloc (.cells #[.int .i64 a] 3)) (some ⟨w.heap.size, 0, none⟩) [a] := by
  refine .inr ⟨w.heap.size, 0, rfl, fun j hj => ?_⟩
  rw [Nat.zero_add, World.cell?_alloc_at _ _ _ _ rfl]
  simp only [List.length_cons, List.length_nil] at hj
  match j, hj with
  | 0, _ => rfl

/-- behind another new block -/
theorem row2s (w : World) (o : Obj) (a b : Int) : Row ((w.alloc o).alloc (.cells #[.int .i64 a, .int .i64 b] 3)) (some ⟨w.heap.size + 1, 0, none⟩) [a, b] := by
  have := row2 (w.alloc o) a b
  simpa using this

theorem alive_a : smooth [8, 0, 0, 8] 1 = [8, 4, 2, 5] := by decide +kernel
theorem alive_b : spread [8, 0] 0 = [0, 8] := by decide +kernel

/-- what a call answers: n numbers -/
def AnsN (w : World) (n : Nat) (R : List Int) (e : Ending) (w' : World) : Prop :=
  ∃ ao cap, e = .returned (.slice ao n cap) ∧ Row w' ao R ∧ Below w.heap.size w w'

theorem smooth4 (ao : Option Addr) (cap : Nat) (w : World) (h : Row w ao [8, 0, 0, 8]) : Calls Try.prog 8 #[.slice ao 4 cap, .int .i64 1] w (AnsN w 4 [8, 4, 2, 5]) :=
  (smooth_any ao cap [8, 0, 0, 8] 1 w h (by simp)).mono fun e w' q => by rw [alive_a] at q; exact q
theorem spread2 (ao : Option Addr) (cap : Nat) (w : World) (h : Row w ao [8, 0]) : Calls Try.prog 10 #[.slice ao 2 cap, .int .i64 0] w (AnsN w 2 [0, 8]) :=
  (spread_any ao cap [8, 0] 0 w h (by simp)).mono fun e w' q => by rw [alive_b] at q; exact q

set_option maxHeartbeats 1600000 in
theorem alive_any (w : World) : Calls Try.prog 12 #[] w fun e w' => e = .returned (.bool true) ∧ Below w.heap.size w w' := by
  have hl0 := row4 w 8 0 0 8
  have B0 : Below w.heap.size w (w.alloc (.cells #[.int .i64 8, .int .i64 0, .int .i64 0, .int .i64 8] 3)) := balloc (Below.refl _ _) _
  go_enter Try.func12, Try.ntmps12
  go_wp2_with (first
    | (go_at_call 8; refine (smooth4 _ _ _ hl0).mono ?_; rintro e w1 ⟨ao1, cap1, rfl, hR1, b1⟩; have B1 := bthen B0 b1; clear hl0 B0 b1)
    | (go_at_call 7; refine (equal_at _ _ _ _ 4 [8, 4, 2, 5] _ (hR1.alloc _) (row4 w1 8 4 2 5) rfl (by omega)).mono ?_; rintro e w2 ⟨rfl, q2, rfl⟩; clear hR1)
    | (go_at_call 10; refine (spread2 _ _ _ (Row.drewN (row2s w1 (.cells #[.int .i64 8, .int .i64 4, .int .i64 2, .int .i64 5] 3) 8 0) q2)).mono ?_; rintro e w3 ⟨ao3, cap3, rfl, hR3, b3⟩; have B3 := bthen (below_drewN (balloc (balloc B1 _) _) _) b3; clear B1 b3)
    | (go_at_call 7; refine (equal_at _ _ _ _ 2 [0, 8] _ (hR3.alloc _) (row2 w3 0 8) rfl (by omega)).mono ?_; rintro e w4 ⟨rfl, q4, rfl⟩; clear hR3)
    | (go_at_call 8; refine (smooth_high _ _ _ _ _ (by omega)).mono ?_; rintro e w' ⟨rfl, rfl⟩))
  go_ret
  exact ⟨rfl, below_drewN (balloc (balloc B3 _) _) _⟩

end Go.Proofs.Ytgfmaolifnnkgaa
