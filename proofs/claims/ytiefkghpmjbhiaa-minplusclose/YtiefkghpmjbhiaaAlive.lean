/- PROVED: alive5 answers true. CONDITIONS: none. -/
import Derived.Test.YtiefkghpmjbhiaaParts
import Derived.Test.YtiefkghpmjbhiaaClose
import Derived.Test.YtiefkghpmjbhiaaRepeat
namespace Go.Proofs.Ytiefkghpmjbhiaa
open Go.RowKit

theorem row3 (w : World) (a b c : Int) : Row (w.alloc (.cells #[.int .i64 a, .int .i64 b, .int .i64 c] 3)) (some ⟨w.heap.size, 0, none⟩) [a, b, c] := by
  refine .inr ⟨w.heap.size, 0, rfl, fun j hj => ?_⟩
  rw [Nat.zero_add, World.cell?_alloc_at _ _ _ _ rfl]
  simp only [List.length_cons, List.length_nil] at hj
  match j, hj with
  | 0, _ => rfl
  | 1, _ => rfl
  | 2, _ => rfl
theorem row2 (w : World) (a b : Int) : Row (w.alloc (.cells #[.int .i64 a, .int .i64 b] 3)) (some ⟨w.heap.size, 0, none⟩) [a, b] := by
  refine .inr ⟨w.heap.size, 0, rfl, fun j hj => ?_⟩
  rw [Nat.zero_add, World.cell?_alloc_at _ _ _ _ rfl]
  simp only [List.length_cons, List.length_nil] at hj
  match j, hj with
  | 0, _ => rfl
  | 1, _ => rfl
/-- behind another new block -/
theorem row2s (w : World) (o : Obj) (a b : Int) : Row ((w.alloc o).alloc (.cells #[.int .i64 a, .int .i64 b] 3)) (some ⟨w.heap.size + 1, 0, none⟩) [a, b] := by
  have := row2 (w.alloc o) a b
  simpa using this
theorem row3s (w : World) (o : Obj) (a b c : Int) : Row ((w.alloc o).alloc (.cells #[.int .i64 a, .int .i64 b, .int .i64 c] 3)) (some ⟨w.heap.size + 1, 0, none⟩) [a, b, c] := by
  have := row3 (w.alloc o) a b c
  simpa using this

/-- what a call answers: n numbers -/
def AnsN (w : World) (n : Nat) (R : List Int) (e : Ending) (w' : World) : Prop :=
  ∃ ao cap, e = .returned (.slice ao n cap) ∧ n ≤ cap ∧ Row w' ao R ∧ Below w.heap.size w w'

theorem al_conv : conv [0, 3, 3] [0, 1, 9] = [0, 1, 3] := by decide +kernel
theorem al_over : over [0, 3, 7] [0, 2] = [1, 5, 7] := by decide +kernel
theorem al_unit : unit (min (max (2 : Int) 0) 300).toNat = [0, 1152921504606846976] := by decide +kernel
theorem al_close : close [4, 2, 9] = [0, 2, 4] := by decide +kernel
theorem al_parts : decide (parts [0, 2, 4]) = true := by decide +kernel
theorem al_not : decide (parts [0, 2, 5]) = false := by decide +kernel

theorem conv3 (a b : Option Addr) (c d : Nat) (w : World) (h : Row w a [0, 3, 3]) (k : Row w b [0, 1, 9]) : Calls Try.prog 12 #[.slice a 3 c, .slice b 3 d] w (AnsN w 3 [0, 1, 3]) :=
  (conv_any a b c d [0, 3, 3] [0, 1, 9] w h k (by simp) (by simp)).mono fun e w' q => by rw [al_conv] at q; exact q
theorem over3 (a b : Option Addr) (d : Nat) (w : World) (h : Row w a [0, 3, 7]) (k : Row w b [0, 2]) : Calls Try.prog 14 #[.slice a 3 3, .slice b 2 d] w (AnsN w 3 [1, 5, 7]) :=
  (over_any a b 3 d [0, 3, 7] [0, 2] w h k (by simp) (by simp) (by simp)).mono fun e w' q => by rw [al_over] at q; exact q
theorem unit2 (w : World) : Calls Try.prog 10 #[.int .i64 2] w (AnsN w 2 [0, 1152921504606846976]) :=
  (unit_any 2 w).mono fun e w' q => by rw [al_unit] at q; exact q
theorem close3 (a : Option Addr) (c : Nat) (w : World) (h : Row w a [4, 2, 9]) : Calls Try.prog 16 #[.slice a 3 c] w (AnsN w 3 [0, 2, 4]) :=
  (close_any a c [4, 2, 9] w h (by simp)).mono fun e w' q => by rw [al_close] at q; exact q
theorem parts3 (a : Option Addr) (c : Nat) (w : World) (h : Row w a [0, 2, 4]) : Calls Try.prog 18 #[.slice a 3 c] w fun e w' => e = .returned (.bool true) ∧ Below w.heap.size w w' :=
  (parts_any a c [0, 2, 4] w h (by simp)).mono fun e w' q => by rw [al_parts] at q; exact q
theorem not3 (a : Option Addr) (c : Nat) (w : World) (h : Row w a [0, 2, 5]) : Calls Try.prog 18 #[.slice a 3 c] w fun e w' => e = .returned (.bool false) ∧ Below w.heap.size w w' :=
  (parts_any a c [0, 2, 5] w h (by simp)).mono fun e w' q => by rw [al_not] at q; exact q
/-- the world behind it left open -/
theorem equal_open (a1 a2 : Option Addr) (c1 c2 n : Nat) (xs : List Int) (w : World) (h1 : Row w a1 xs) (h2 : Row w a2 xs) (hn : xs.length = n) (b1 : n ≤ 35184372088832) :
    Calls Try.prog 9 #[.slice a1 n c1, .slice a2 n c2] w fun e w' => e = .returned (.bool true) ∧ Below w.heap.size w w' :=
  (equal_at a1 a2 c1 c2 n xs w h1 h2 hn b1).mono fun _ _ ⟨he, q, hw⟩ => ⟨he, hw ▸ below_drewN (Below.refl _ _) q⟩

set_option maxHeartbeats 1600000 in
theorem alive_any (w : World) : Calls Try.prog 20 #[] w fun e w' => e = .returned (.bool true) ∧ Below w.heap.size w w' := by
  have l0 := (row3 w 0 3 3).alloc (.cells #[.int .i64 0, .int .i64 1, .int .i64 9] 3)
  have m0 := row3s w (.cells #[.int .i64 0, .int .i64 3, .int .i64 3] 3) 0 1 9
  have B0 : Below w.heap.size w ((w.alloc (.cells #[.int .i64 0, .int .i64 3, .int .i64 3] 3)).alloc (.cells #[.int .i64 0, .int .i64 1, .int .i64 9] 3)) := balloc (balloc (Below.refl _ _) _) _
  go_enter Try.func20, Try.ntmps20
  go_wp2_with (first
    | (go_at_call 12; refine (conv3 _ _ _ _ _ l0 m0).mono ?_; rintro e v1 ⟨a1, c1, rfl, hc1, r1, b1⟩; have B1 := balloc (bthen B0 b1) (.cells #[.int .i64 0, .int .i64 1, .int .i64 3] 3); have l1 := r1.alloc (.cells #[.int .i64 0, .int .i64 1, .int .i64 3] 3); have m1 := row3 v1 0 1 3; clear l0 m0 B0 b1 r1)
    | (go_at_call 9; refine (equal_open _ _ _ _ 3 [0, 1, 3] _ l1 m1 rfl (by omega)).mono ?_; rintro e v2 ⟨rfl, b2⟩; have B2 := balloc (balloc (bthen B1 b2) (.cells #[.int .i64 0, .int .i64 3, .int .i64 7] 3)) (.cells #[.int .i64 0, .int .i64 2] 3); have l2 := (row3 v2 0 3 7).alloc (.cells #[.int .i64 0, .int .i64 2] 3); have m2 := row2s v2 (.cells #[.int .i64 0, .int .i64 3, .int .i64 7] 3) 0 2; clear l1 m1 B1 b2)
    | (go_at_call 14; refine (over3 _ _ _ _ l2 m2).mono ?_; rintro e v3 ⟨a3, c3, rfl, hc3, r3, b3⟩; have B3 := balloc (bthen B2 b3) (.cells #[.int .i64 1, .int .i64 5, .int .i64 7] 3); have l3 := r3.alloc (.cells #[.int .i64 1, .int .i64 5, .int .i64 7] 3); have m3 := row3 v3 1 5 7; clear l2 m2 B2 b3 r3)
    | (go_at_call 9; refine (equal_open _ _ _ _ 3 [1, 5, 7] _ l3 m3 rfl (by omega)).mono ?_; rintro e v4 ⟨rfl, b4⟩; have B4 := bthen B3 b4; clear l3 m3 B3 b4)
    | (go_at_call 10; refine (unit2 _).mono ?_; rintro e v5 ⟨a5, c5, rfl, hc5, r5, b5⟩; have B5 := balloc (bthen B4 b5) (.cells #[.int .i64 0, .int .i64 1152921504606846976] 3); have l5 := r5.alloc (.cells #[.int .i64 0, .int .i64 1152921504606846976] 3); have m5 := row2 v5 0 1152921504606846976; clear B4 b5 r5)
    | (go_at_call 9; refine (equal_open _ _ _ _ 2 [0, 1152921504606846976] _ l5 m5 rfl (by omega)).mono ?_; rintro e v6 ⟨rfl, b6⟩; have B6 := balloc (bthen B5 b6) (.cells #[.int .i64 4, .int .i64 2, .int .i64 9] 3); have l6 := row3 v6 4 2 9; clear l5 m5 B5 b6)
    | (go_at_call 16; refine (close3 _ _ _ l6).mono ?_; rintro e v7 ⟨a7, c7, rfl, hc7, r7, b7⟩; have B7 := balloc (bthen B6 b7) (.cells #[.int .i64 0, .int .i64 2, .int .i64 4] 3); have l7 := r7.alloc (.cells #[.int .i64 0, .int .i64 2, .int .i64 4] 3); have m7 := row3 v7 0 2 4; clear l6 B6 b7 r7)
    | (go_at_call 9; refine (equal_open _ _ _ _ 3 [0, 2, 4] _ l7 m7 rfl (by omega)).mono ?_; rintro e v8 ⟨rfl, b8⟩; have B8 := balloc (bthen B7 b8) (.cells #[.int .i64 0, .int .i64 2, .int .i64 4] 3); have l8 := row3 v8 0 2 4; clear l7 m7 B7 b8)
    | (go_at_call 18; refine (parts3 _ _ _ l8).mono ?_; rintro e v9 ⟨rfl, b9⟩; have B9 := balloc (bthen B8 b9) (.cells #[.int .i64 0, .int .i64 2, .int .i64 5] 3); have l9 := row3 v9 0 2 5; clear l8 B8 b9)
    | (go_at_call 18; refine (not3 _ _ _ l9).mono ?_; rintro e v10 ⟨rfl, b10⟩; have B10 := bthen B9 b10; clear l9 B9 b10))
  go_ret
  exact ⟨rfl, B10⟩

end Go.Proofs.Ytiefkghpmjbhiaa
