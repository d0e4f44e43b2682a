/- PROVED: BoundQueue, at every size. CONDITIONS: none. -/
import Derived.BigRegion
import Derived.Test.YtmijlmidlddcpaaAlive
import Derived.Test.YtmijlmidlddcpaaGets
import Derived.Test.YtmijlmidlddcpaaAgg
namespace Go.Proofs.Ytmijlmidlddcpaa
open Go.RowKit
set_option linter.unusedVariables false

theorem qright_nil (Q : Int) (b : Bool) (hb : decide (inr Q) = b) (w : World) :
    Calls Try.prog 29 #[.int .i64 Q, .int .i64 0, .slice none 0 0] w fun e w' => e = .returned (.bool b) ∧ Below w.heap.size w w' := by
  have e : decide (bright Q 0 []) = b := by
    rw [← hb, Bool.eq_iff_iff]; simp only [decide_eq_true_eq]
    exact ⟨fun h => h.1, fun h => ⟨h, by decide, by decide, fun j hj => by simp at hj⟩⟩
  rw [← e]
  exact qright_any Q 0 none 0 [] w (.inl rfl)
theorem below_self (S : List Int) : decide (below S S) = true := decide_eq_true fun t _ => Int.le_refl _
theorem serves_m (Q : Int) (N : Nat) (hQ : inr Q) (hN : N ≤ 300) (y : Int) (hy : y = (N : Int)) (I : List Int) (hI : serves Q 0 (N : Int) = I) (w : World) :
    Calls Try.prog 13 #[.int .i64 Q, .int .i64 0, .int .i64 y] w (AnsN w N I) := by
  subst hy
  refine serves_n Q 0 N (by unfold inr at hQ; omega) (by omega) (by omega) I N hI ?_ w
  rw [← hI, serves_line hQ N hN, line_len hQ hQ]

set_option maxHeartbeats 3200000 in
theorem queue_not (R C Q : Int) (x : Option Addr) (cap n : Nat) (z : List Int) (w : World) (r : Row w x z) (en : Hid (z.length = n)) (hbt : Hid (decide (bright R C z) = false)) :
    Calls Try.prog 7 #[.agg #[.int .i64 R, .int .i64 C], .int .i64 Q, .slice x n cap] w fun e w' => e = .returned (.bool true) ∧ Below w.heap.size w w' := by
  obtain ⟨w0, hw0⟩ : ∃ w0, w.alloc (.cells #[.int .i64 R, .int .i64 C] 30) = w0 := ⟨_, rfl⟩
  have B : Below w.heap.size w w0 := by rw [← hw0]; exact balloc (Below.refl _ _) _
  have K : Bk w0 w.heap.size R C := by rw [← hw0]; exact Bk.new w R C
  have cr := K.r
  have cb := K.b
  replace r := r.kept B
  have T1 := tok
  have T2 := tok
  go_enter Try.func7, Try.ntmps7
  go_wp2_with (first
    | (clear T1; go_at_call 17; refine (alive_any _).mono ?_; rintro e v1 ⟨rfl, b1⟩; replace B := bthen B b1; replace K := K.kept b1; replace cr := K.r; replace cb := K.b; replace r := r.kept b1; clear b1)
    | (clear T2; go_at_call 18; refine (bright_n R C x _ n z _ r en.out false hbt.out).mono ?_; rintro e v2 ⟨rfl, b2⟩; replace B := bthen B b2; replace K := K.kept b2; replace cr := K.r; replace cb := K.b; replace r := r.kept b2; clear b2))
  go_ret
  exact ⟨rfl, B⟩

set_option maxHeartbeats 3200000 in
theorem queue_rate (R C Q : Int) (x : Option Addr) (cap n : Nat) (z : List Int) (w : World) (r : Row w x z) (en : Hid (z.length = n)) (hbt : Hid (decide (bright R C z) = true)) (hQt : Hid (decide (inr Q) = false)) :
    Calls Try.prog 7 #[.agg #[.int .i64 R, .int .i64 C], .int .i64 Q, .slice x n cap] w fun e w' => e = .returned (.bool true) ∧ Below w.heap.size w w' := by
  obtain ⟨w0, hw0⟩ : ∃ w0, w.alloc (.cells #[.int .i64 R, .int .i64 C] 30) = w0 := ⟨_, rfl⟩
  have B : Below w.heap.size w w0 := by rw [← hw0]; exact balloc (Below.refl _ _) _
  have K : Bk w0 w.heap.size R C := by rw [← hw0]; exact Bk.new w R C
  have cr := K.r
  have cb := K.b
  replace r := r.kept B
  have T1 := tok
  have T2 := tok
  have T3 := tok
  go_enter Try.func7, Try.ntmps7
  go_wp2_with (first
    | (clear T1; go_at_call 17; refine (alive_any _).mono ?_; rintro e v1 ⟨rfl, b1⟩; replace B := bthen B b1; replace K := K.kept b1; replace cr := K.r; replace cb := K.b; replace r := r.kept b1; clear b1)
    | (clear T2; go_at_call 18; refine (bright_n R C x _ n z _ r en.out true hbt.out).mono ?_; rintro e v2 ⟨rfl, b2⟩; replace B := bthen B b2; replace K := K.kept b2; replace cr := K.r; replace cb := K.b; replace r := r.kept b2; clear b2)
    | (clear T3; go_at_call 29; refine (qright_nil Q false hQt.out _).mono ?_; rintro e v3 ⟨rfl, b3⟩; replace B := bthen B b3; replace K := K.kept b3; replace cr := K.r; replace cb := K.b; replace r := r.kept b3; clear b3))
  go_ret
  exact ⟨rfl, B⟩

set_option maxHeartbeats 3200000 in
theorem queue_none (R C Q : Int) (x : Option Addr) (cap n : Nat) (z : List Int) (w : World) (r : Row w x z) (en : Hid (z.length = n)) (h0 : n = 0) (hbt : Hid (decide (bright R C z) = true)) (hQt : Hid (decide (inr Q) = true)) :
    Calls Try.prog 7 #[.agg #[.int .i64 R, .int .i64 C], .int .i64 Q, .slice x n cap] w fun e w' => e = .returned (.bool true) ∧ Below w.heap.size w w' := by
  obtain ⟨w0, hw0⟩ : ∃ w0, w.alloc (.cells #[.int .i64 R, .int .i64 C] 30) = w0 := ⟨_, rfl⟩
  have B : Below w.heap.size w w0 := by rw [← hw0]; exact balloc (Below.refl _ _) _
  have K : Bk w0 w.heap.size R C := by rw [← hw0]; exact Bk.new w R C
  have cr := K.r
  have cb := K.b
  replace r := r.kept B
  have hn0 : ((n : Int) == 0) = true := by rw [h0]; rfl
  clear h0
  have T1 := tok
  have T2 := tok
  have T3 := tok
  go_enter Try.func7, Try.ntmps7
  go_wp2_with (first
    | (clear T1; go_at_call 17; refine (alive_any _).mono ?_; rintro e v1 ⟨rfl, b1⟩; replace B := bthen B b1; replace K := K.kept b1; replace cr := K.r; replace cb := K.b; replace r := r.kept b1; clear b1)
    | (clear T2; go_at_call 18; refine (bright_n R C x _ n z _ r en.out true hbt.out).mono ?_; rintro e v2 ⟨rfl, b2⟩; replace B := bthen B b2; replace K := K.kept b2; replace cr := K.r; replace cb := K.b; replace r := r.kept b2; clear b2)
    | (clear T3; go_at_call 29; refine (qright_nil Q true hQt.out _).mono ?_; rintro e v3 ⟨rfl, b3⟩; replace B := bthen B b3; replace K := K.kept b3; replace cr := K.r; replace cb := K.b; replace r := r.kept b3; clear b3))
  go_ret
  exact ⟨rfl, B⟩

set_option maxHeartbeats 3200000 in
theorem queue_lost (R C Q : Int) (x : Option Addr) (cap n : Nat) (z : List Int) (P L W : List Int) (w : World) (r : Row w x z) (en : Hid (z.length = n)) (hp : 0 < n) (hn : n < 300) (hbt : Hid (decide (bright R C z) = true)) (hQt : Hid (decide (inr Q) = true)) (hb : Hid (bright Q 1099511627776 z)) (hP : Hid (pw Q 1099511627776 z = P)) (hL : Hid (pl Q 1099511627776 z = L)) (hW : Hid (pq Q 1099511627776 z = W)) (lP : Hid (P.length = n)) (lL : Hid (L.length = n)) (lW : Hid (W.length = n)) (iL : Hid (allIn L)) (h0 : Hid (¬ ∀ j, j < n → L.getD j 0 = 0)) :
    Calls Try.prog 7 #[.agg #[.int .i64 R, .int .i64 C], .int .i64 Q, .slice x n cap] w fun e w' => e = .returned (.bool true) ∧ Below w.heap.size w w' := by
  obtain ⟨w0, hw0⟩ : ∃ w0, w.alloc (.cells #[.int .i64 R, .int .i64 C] 30) = w0 := ⟨_, rfl⟩
  have B : Below w.heap.size w w0 := by rw [← hw0]; exact balloc (Below.refl _ _) _
  have K : Bk w0 w.heap.size R C := by rw [← hw0]; exact Bk.new w R C
  have cr := K.r
  have cb := K.b
  replace r := r.kept B
  have hn0 : ((n : Int) == 0) = false := beq_eq_false_iff_ne.2 (by omega)
  have T1 := tok
  have T2 := tok
  have T3 := tok
  have T4 := tok
  have T5 := tok
  go_enter Try.func7, Try.ntmps7
  go_wp2_with (first
    | (clear T1; go_at_call 17; refine (alive_any _).mono ?_; rintro e v1 ⟨rfl, b1⟩; replace B := bthen B b1; replace K := K.kept b1; replace cr := K.r; replace cb := K.b; replace r := r.kept b1; clear b1)
    | (clear T2; go_at_call 18; refine (bright_n R C x _ n z _ r en.out true hbt.out).mono ?_; rintro e v2 ⟨rfl, b2⟩; replace B := bthen B b2; replace K := K.kept b2; replace cr := K.r; replace cb := K.b; replace r := r.kept b2; clear b2)
    | (clear T3; go_at_call 29; refine (qright_nil Q true hQt.out _).mono ?_; rintro e v3 ⟨rfl, b3⟩; replace B := bthen B b3; replace K := K.kept b3; replace cr := K.r; replace cb := K.b; replace r := r.kept b3; clear b3)
    | (clear T4; go_at_call 30; refine (play_r Q 1099511627776 x _ n z P L W _ r en.out hb.out hP.out hL.out hW.out).mono ?_; rintro e v4 ⟨a1, c1, a2, c2, a3, c3, rfl, _, r1, r2, r3, b4⟩; replace B := bthen B b4; replace K := K.kept b4; replace cr := K.r; replace cb := K.b; replace r := r.kept b4; obtain ⟨m, im, hm, cm⟩ := max_n a2 c2 n L v4 r2 lL.out hp (by omega) iL.out; have hme : 0 < m := (by (have q1 : m ≠ 0 := fun q => h0.out (hm.1 q)); unfold inr at im; omega); have cm2 := cm v4 r2; clear cm hm im; clear b4)
    | (clear T5; go_at_call 31; refine cm2.mono ?_; rintro e w'' ⟨rfl, hw⟩; obtain rfl : v4 = w'' := hw.symm; clear cm2 hw r2))
  go_ret
  exact ⟨rfl, B⟩

set_option maxHeartbeats 3200000 in
theorem queue_over (R C Q : Int) (x : Option Addr) (cap n : Nat) (z : List Int) (P L W I A S : List Int) (w : World) (r : Row w x z) (en : Hid (z.length = n)) (hp : 0 < n) (hn : n < 300) (hbt : Hid (decide (bright R C z) = true)) (hQt : Hid (decide (inr Q) = true)) (hb : Hid (bright Q 1099511627776 z)) (hP : Hid (pw Q 1099511627776 z = P)) (hL : Hid (pl Q 1099511627776 z = L)) (hW : Hid (pq Q 1099511627776 z = W)) (lP : Hid (P.length = n)) (lL : Hid (L.length = n)) (lW : Hid (W.length = n)) (iL : Hid (allIn L)) (hQ : Hid (inr Q)) (h0 : Hid (∀ j, j < n → L.getD j 0 = 0)) (hI : Hid (serves Q 0 ((n + 1 : Nat) : Int) = I)) (lI : Hid (I.length = n + 1)) (hA : Hid (of z = A)) (lA : Hid (A.length = n + 1)) (hS : Hid (of P = S)) (lS : Hid (S.length = n + 1)) (hV : Hid (conv A I = S)) (hk : Hid (decide (keeps R C z) = false)) :
    Calls Try.prog 7 #[.agg #[.int .i64 R, .int .i64 C], .int .i64 Q, .slice x n cap] w fun e w' => e = .returned (.bool true) ∧ Below w.heap.size w w' := by
  obtain ⟨w0, hw0⟩ : ∃ w0, w.alloc (.cells #[.int .i64 R, .int .i64 C] 30) = w0 := ⟨_, rfl⟩
  have B : Below w.heap.size w w0 := by rw [← hw0]; exact balloc (Below.refl _ _) _
  have K : Bk w0 w.heap.size R C := by rw [← hw0]; exact Bk.new w R C
  have cr := K.r
  have cb := K.b
  replace r := r.kept B
  have hn0 : ((n : Int) == 0) = false := beq_eq_false_iff_ne.2 (by omega)
  have hwr : IntKind.i64.wrap ((n : Int) + 1) = (n : Int) + 1 := wrapIn (by omega)
  have T1 := tok
  have T2 := tok
  have T3 := tok
  have T4 := tok
  have T5 := tok
  have T6 := tok
  have T7 := tok
  have T8 := tok
  have T9 := tok
  have T10 := tok
  have T11 := tok
  go_enter Try.func7, Try.ntmps7
  go_wp2_with (first
    | (clear T1; go_at_call 17; refine (alive_any _).mono ?_; rintro e v1 ⟨rfl, b1⟩; replace B := bthen B b1; replace K := K.kept b1; replace cr := K.r; replace cb := K.b; replace r := r.kept b1; clear b1)
    | (clear T2; go_at_call 18; refine (bright_n R C x _ n z _ r en.out true hbt.out).mono ?_; rintro e v2 ⟨rfl, b2⟩; replace B := bthen B b2; replace K := K.kept b2; replace cr := K.r; replace cb := K.b; replace r := r.kept b2; clear b2)
    | (clear T3; go_at_call 29; refine (qright_nil Q true hQt.out _).mono ?_; rintro e v3 ⟨rfl, b3⟩; replace B := bthen B b3; replace K := K.kept b3; replace cr := K.r; replace cb := K.b; replace r := r.kept b3; clear b3)
    | (clear T4; go_at_call 30; refine (play_r Q 1099511627776 x _ n z P L W _ r en.out hb.out hP.out hL.out hW.out).mono ?_; rintro e v4 ⟨a1, c1, a2, c2, a3, c3, rfl, _, r1, r2, r3, b4⟩; replace B := bthen B b4; replace K := K.kept b4; replace cr := K.r; replace cb := K.b; replace r := r.kept b4; obtain ⟨m, im, hm, cm⟩ := max_n a2 c2 n L v4 r2 lL.out hp (by omega) iL.out; obtain rfl : m = 0 := hm.2 h0.out; have cm2 := cm v4 r2; clear cm hm im; clear b4)
    | (clear T5; go_at_call 31; refine cm2.mono ?_; rintro e w'' ⟨rfl, hw⟩; obtain rfl : v4 = w'' := hw.symm; clear cm2 hw r2)
    | (clear T6; go_at_call 13; refine (serves_m Q (n + 1) hQ.out (by omega) _ (by omega) I hI.out _).mono ?_; rintro e v6 ⟨a6, c6, rfl, _, r6, b6⟩; replace B := bthen B b6; replace K := K.kept b6; replace cr := K.r; replace cb := K.b; replace r := r.kept b6; replace r1 := r1.kept b6; replace r3 := r3.kept b6; clear b6)
    | (clear T7; go_at_call 19; refine (of_r x _ n z A hA.out _ r en.out (by omega)).mono ?_; rintro e v7 ⟨a7, c7, rfl, _, r7, b7⟩; replace B := bthen B b7; replace K := K.kept b7; replace cr := K.r; replace cb := K.b; replace r := r.kept b7; replace r1 := r1.kept b7; replace r3 := r3.kept b7; replace r6 := r6.kept b7; clear b7)
    | (clear T8; go_at_call 26; refine (conv_r a7 a6 _ _ (n + 1) A I S hV.out _ r7 r6 lA.out lI.out (by omega)).mono ?_; rintro e v8 ⟨a8, c8, rfl, _, r8, b8⟩; replace B := bthen B b8; replace K := K.kept b8; replace cr := K.r; replace cb := K.b; replace r := r.kept b8; replace r1 := r1.kept b8; replace r3 := r3.kept b8; clear b8)
    | (clear T9; go_at_call 19; refine (of_r a1 _ n P S hS.out _ r1 lP.out (by omega)).mono ?_; rintro e v9 ⟨a9, c9, rfl, _, r9, b9⟩; replace B := bthen B b9; replace K := K.kept b9; replace cr := K.r; replace cb := K.b; replace r := r.kept b9; replace r1 := r1.kept b9; replace r3 := r3.kept b9; replace r8 := r8.kept b9; clear b9)
    | (clear T10; go_at_call 25; refine (within_n a8 a9 _ _ (n + 1) (n + 1) S S _ r8 r9 lS.out lS.out (by omega) (by omega) true (below_self S)).mono ?_; rintro e v10 ⟨rfl, b10⟩; replace B := bthen B b10; replace K := K.kept b10; replace cr := K.r; replace cb := K.b; replace r := r.kept b10; replace r3 := r3.kept b10; clear b10)
    | (clear T11; go_at_call 21; refine (keeps_n R C x _ n z _ r en.out false hk.out).mono ?_; rintro e v11 ⟨rfl, b11⟩; replace B := bthen B b11; replace K := K.kept b11; replace cr := K.r; replace cb := K.b; replace r := r.kept b11; replace r3 := r3.kept b11; clear b11))
  go_ret
  exact ⟨rfl, B⟩

set_option maxHeartbeats 3200000 in
theorem queue_fast (R C Q : Int) (x : Option Addr) (cap n : Nat) (z : List Int) (P L W I A S : List Int) (w : World) (r : Row w x z) (en : Hid (z.length = n)) (hp : 0 < n) (hn : n < 300) (hbt : Hid (decide (bright R C z) = true)) (hQt : Hid (decide (inr Q) = true)) (hb : Hid (bright Q 1099511627776 z)) (hP : Hid (pw Q 1099511627776 z = P)) (hL : Hid (pl Q 1099511627776 z = L)) (hW : Hid (pq Q 1099511627776 z = W)) (lP : Hid (P.length = n)) (lL : Hid (L.length = n)) (lW : Hid (W.length = n)) (iL : Hid (allIn L)) (hQ : Hid (inr Q)) (h0 : Hid (∀ j, j < n → L.getD j 0 = 0)) (hI : Hid (serves Q 0 ((n + 1 : Nat) : Int) = I)) (lI : Hid (I.length = n + 1)) (hA : Hid (of z = A)) (lA : Hid (A.length = n + 1)) (hS : Hid (of P = S)) (lS : Hid (S.length = n + 1)) (hV : Hid (conv A I = S)) (hk : Hid (decide (keeps R C z) = true)) (hf : Q < R) :
    Calls Try.prog 7 #[.agg #[.int .i64 R, .int .i64 C], .int .i64 Q, .slice x n cap] w fun e w' => e = .returned (.bool true) ∧ Below w.heap.size w w' := by
  obtain ⟨w0, hw0⟩ : ∃ w0, w.alloc (.cells #[.int .i64 R, .int .i64 C] 30) = w0 := ⟨_, rfl⟩
  have B : Below w.heap.size w w0 := by rw [← hw0]; exact balloc (Below.refl _ _) _
  have K : Bk w0 w.heap.size R C := by rw [← hw0]; exact Bk.new w R C
  have cr := K.r
  have cb := K.b
  replace r := r.kept B
  have hn0 : ((n : Int) == 0) = false := beq_eq_false_iff_ne.2 (by omega)
  have hwr : IntKind.i64.wrap ((n : Int) + 1) = (n : Int) + 1 := wrapIn (by omega)
  have T1 := tok
  have T2 := tok
  have T3 := tok
  have T4 := tok
  have T5 := tok
  have T6 := tok
  have T7 := tok
  have T8 := tok
  have T9 := tok
  have T10 := tok
  have T11 := tok
  go_enter Try.func7, Try.ntmps7
  go_wp2_with (first
    | (clear T1; go_at_call 17; refine (alive_any _).mono ?_; rintro e v1 ⟨rfl, b1⟩; replace B := bthen B b1; replace K := K.kept b1; replace cr := K.r; replace cb := K.b; replace r := r.kept b1; clear b1)
    | (clear T2; go_at_call 18; refine (bright_n R C x _ n z _ r en.out true hbt.out).mono ?_; rintro e v2 ⟨rfl, b2⟩; replace B := bthen B b2; replace K := K.kept b2; replace cr := K.r; replace cb := K.b; replace r := r.kept b2; clear b2)
    | (clear T3; go_at_call 29; refine (qright_nil Q true hQt.out _).mono ?_; rintro e v3 ⟨rfl, b3⟩; replace B := bthen B b3; replace K := K.kept b3; replace cr := K.r; replace cb := K.b; replace r := r.kept b3; clear b3)
    | (clear T4; go_at_call 30; refine (play_r Q 1099511627776 x _ n z P L W _ r en.out hb.out hP.out hL.out hW.out).mono ?_; rintro e v4 ⟨a1, c1, a2, c2, a3, c3, rfl, _, r1, r2, r3, b4⟩; replace B := bthen B b4; replace K := K.kept b4; replace cr := K.r; replace cb := K.b; replace r := r.kept b4; obtain ⟨m, im, hm, cm⟩ := max_n a2 c2 n L v4 r2 lL.out hp (by omega) iL.out; obtain rfl : m = 0 := hm.2 h0.out; have cm2 := cm v4 r2; clear cm hm im; clear b4)
    | (clear T5; go_at_call 31; refine cm2.mono ?_; rintro e w'' ⟨rfl, hw⟩; obtain rfl : v4 = w'' := hw.symm; clear cm2 hw r2)
    | (clear T6; go_at_call 13; refine (serves_m Q (n + 1) hQ.out (by omega) _ (by omega) I hI.out _).mono ?_; rintro e v6 ⟨a6, c6, rfl, _, r6, b6⟩; replace B := bthen B b6; replace K := K.kept b6; replace cr := K.r; replace cb := K.b; replace r := r.kept b6; replace r1 := r1.kept b6; replace r3 := r3.kept b6; clear b6)
    | (clear T7; go_at_call 19; refine (of_r x _ n z A hA.out _ r en.out (by omega)).mono ?_; rintro e v7 ⟨a7, c7, rfl, _, r7, b7⟩; replace B := bthen B b7; replace K := K.kept b7; replace cr := K.r; replace cb := K.b; replace r := r.kept b7; replace r1 := r1.kept b7; replace r3 := r3.kept b7; replace r6 := r6.kept b7; clear b7)
    | (clear T8; go_at_call 26; refine (conv_r a7 a6 _ _ (n + 1) A I S hV.out _ r7 r6 lA.out lI.out (by omega)).mono ?_; rintro e v8 ⟨a8, c8, rfl, _, r8, b8⟩; replace B := bthen B b8; replace K := K.kept b8; replace cr := K.r; replace cb := K.b; replace r := r.kept b8; replace r1 := r1.kept b8; replace r3 := r3.kept b8; clear b8)
    | (clear T9; go_at_call 19; refine (of_r a1 _ n P S hS.out _ r1 lP.out (by omega)).mono ?_; rintro e v9 ⟨a9, c9, rfl, _, r9, b9⟩; replace B := bthen B b9; replace K := K.kept b9; replace cr := K.r; replace cb := K.b; replace r := r.kept b9; replace r1 := r1.kept b9; replace r3 := r3.kept b9; replace r8 := r8.kept b9; clear b9)
    | (clear T10; go_at_call 25; refine (within_n a8 a9 _ _ (n + 1) (n + 1) S S _ r8 r9 lS.out lS.out (by omega) (by omega) true (below_self S)).mono ?_; rintro e v10 ⟨rfl, b10⟩; replace B := bthen B b10; replace K := K.kept b10; replace cr := K.r; replace cb := K.b; replace r := r.kept b10; replace r3 := r3.kept b10; clear b10)
    | (clear T11; go_at_call 21; refine (keeps_n R C x _ n z _ r en.out true hk.out).mono ?_; rintro e v11 ⟨rfl, b11⟩; replace B := bthen B b11; replace K := K.kept b11; replace cr := K.r; replace cb := K.b; replace r := r.kept b11; replace r3 := r3.kept b11; clear b11))
  go_ret
  exact ⟨rfl, B⟩

set_option maxHeartbeats 3200000 in
theorem queue_zero (R C Q : Int) (x : Option Addr) (cap n : Nat) (z : List Int) (P L W I A S : List Int) (w : World) (r : Row w x z) (en : Hid (z.length = n)) (hp : 0 < n) (hn : n < 300) (hbt : Hid (decide (bright R C z) = true)) (hQt : Hid (decide (inr Q) = true)) (hb : Hid (bright Q 1099511627776 z)) (hP : Hid (pw Q 1099511627776 z = P)) (hL : Hid (pl Q 1099511627776 z = L)) (hW : Hid (pq Q 1099511627776 z = W)) (lP : Hid (P.length = n)) (lL : Hid (L.length = n)) (lW : Hid (W.length = n)) (iL : Hid (allIn L)) (hQ : Hid (inr Q)) (h0 : Hid (∀ j, j < n → L.getD j 0 = 0)) (hI : Hid (serves Q 0 ((n + 1 : Nat) : Int) = I)) (lI : Hid (I.length = n + 1)) (hA : Hid (of z = A)) (lA : Hid (A.length = n + 1)) (hS : Hid (of P = S)) (lS : Hid (S.length = n + 1)) (hV : Hid (conv A I = S)) (hk : Hid (decide (keeps R C z) = true)) (hf : R ≤ Q) (hz : Q = 0) :
    Calls Try.prog 7 #[.agg #[.int .i64 R, .int .i64 C], .int .i64 Q, .slice x n cap] w fun e w' => e = .returned (.bool true) ∧ Below w.heap.size w w' := by
  obtain ⟨w0, hw0⟩ : ∃ w0, w.alloc (.cells #[.int .i64 R, .int .i64 C] 30) = w0 := ⟨_, rfl⟩
  have B : Below w.heap.size w w0 := by rw [← hw0]; exact balloc (Below.refl _ _) _
  have K : Bk w0 w.heap.size R C := by rw [← hw0]; exact Bk.new w R C
  have cr := K.r
  have cb := K.b
  replace r := r.kept B
  have hn0 : ((n : Int) == 0) = false := beq_eq_false_iff_ne.2 (by omega)
  have hwr : IntKind.i64.wrap ((n : Int) + 1) = (n : Int) + 1 := wrapIn (by omega)
  have hz0 : (Q == 0) = true := by rw [hz]; rfl
  have hf0 : ¬ Q < R := by omega
  clear hz hf
  have T1 := tok
  have T2 := tok
  have T3 := tok
  have T4 := tok
  have T5 := tok
  have T6 := tok
  have T7 := tok
  have T8 := tok
  have T9 := tok
  have T10 := tok
  have T11 := tok
  go_enter Try.func7, Try.ntmps7
  go_wp2_with (first
    | (clear T1; go_at_call 17; refine (alive_any _).mono ?_; rintro e v1 ⟨rfl, b1⟩; replace B := bthen B b1; replace K := K.kept b1; replace cr := K.r; replace cb := K.b; replace r := r.kept b1; clear b1)
    | (clear T2; go_at_call 18; refine (bright_n R C x _ n z _ r en.out true hbt.out).mono ?_; rintro e v2 ⟨rfl, b2⟩; replace B := bthen B b2; replace K := K.kept b2; replace cr := K.r; replace cb := K.b; replace r := r.kept b2; clear b2)
    | (clear T3; go_at_call 29; refine (qright_nil Q true hQt.out _).mono ?_; rintro e v3 ⟨rfl, b3⟩; replace B := bthen B b3; replace K := K.kept b3; replace cr := K.r; replace cb := K.b; replace r := r.kept b3; clear b3)
    | (clear T4; go_at_call 30; refine (play_r Q 1099511627776 x _ n z P L W _ r en.out hb.out hP.out hL.out hW.out).mono ?_; rintro e v4 ⟨a1, c1, a2, c2, a3, c3, rfl, _, r1, r2, r3, b4⟩; replace B := bthen B b4; replace K := K.kept b4; replace cr := K.r; replace cb := K.b; replace r := r.kept b4; obtain ⟨m, im, hm, cm⟩ := max_n a2 c2 n L v4 r2 lL.out hp (by omega) iL.out; obtain rfl : m = 0 := hm.2 h0.out; have cm2 := cm v4 r2; clear cm hm im; clear b4)
    | (clear T5; go_at_call 31; refine cm2.mono ?_; rintro e w'' ⟨rfl, hw⟩; obtain rfl : v4 = w'' := hw.symm; clear cm2 hw r2)
    | (clear T6; go_at_call 13; refine (serves_m Q (n + 1) hQ.out (by omega) _ (by omega) I hI.out _).mono ?_; rintro e v6 ⟨a6, c6, rfl, _, r6, b6⟩; replace B := bthen B b6; replace K := K.kept b6; replace cr := K.r; replace cb := K.b; replace r := r.kept b6; replace r1 := r1.kept b6; replace r3 := r3.kept b6; clear b6)
    | (clear T7; go_at_call 19; refine (of_r x _ n z A hA.out _ r en.out (by omega)).mono ?_; rintro e v7 ⟨a7, c7, rfl, _, r7, b7⟩; replace B := bthen B b7; replace K := K.kept b7; replace cr := K.r; replace cb := K.b; replace r := r.kept b7; replace r1 := r1.kept b7; replace r3 := r3.kept b7; replace r6 := r6.kept b7; clear b7)
    | (clear T8; go_at_call 26; refine (conv_r a7 a6 _ _ (n + 1) A I S hV.out _ r7 r6 lA.out lI.out (by omega)).mono ?_; rintro e v8 ⟨a8, c8, rfl, _, r8, b8⟩; replace B := bthen B b8; replace K := K.kept b8; replace cr := K.r; replace cb := K.b; replace r := r.kept b8; replace r1 := r1.kept b8; replace r3 := r3.kept b8; clear b8)
    | (clear T9; go_at_call 19; refine (of_r a1 _ n P S hS.out _ r1 lP.out (by omega)).mono ?_; rintro e v9 ⟨a9, c9, rfl, _, r9, b9⟩; replace B := bthen B b9; replace K := K.kept b9; replace cr := K.r; replace cb := K.b; replace r := r.kept b9; replace r1 := r1.kept b9; replace r3 := r3.kept b9; replace r8 := r8.kept b9; clear b9)
    | (clear T10; go_at_call 25; refine (within_n a8 a9 _ _ (n + 1) (n + 1) S S _ r8 r9 lS.out lS.out (by omega) (by omega) true (below_self S)).mono ?_; rintro e v10 ⟨rfl, b10⟩; replace B := bthen B b10; replace K := K.kept b10; replace cr := K.r; replace cb := K.b; replace r := r.kept b10; replace r3 := r3.kept b10; clear b10)
    | (clear T11; go_at_call 21; refine (keeps_n R C x _ n z _ r en.out true hk.out).mono ?_; rintro e v11 ⟨rfl, b11⟩; replace B := bthen B b11; replace K := K.kept b11; replace cr := K.r; replace cb := K.b; replace r := r.kept b11; replace r3 := r3.kept b11; clear b11))
  go_ret
  exact ⟨rfl, B⟩

set_option maxHeartbeats 3200000 in
theorem queue_all (R C Q : Int) (x : Option Addr) (cap n : Nat) (z : List Int) (P L W I A S : List Int) (D : List Int) (Z : Int) (w : World) (r : Row w x z) (en : Hid (z.length = n)) (hp : 0 < n) (hn : n < 300) (hbt : Hid (decide (bright R C z) = true)) (hQt : Hid (decide (inr Q) = true)) (hb : Hid (bright Q 1099511627776 z)) (hP : Hid (pw Q 1099511627776 z = P)) (hL : Hid (pl Q 1099511627776 z = L)) (hW : Hid (pq Q 1099511627776 z = W)) (lP : Hid (P.length = n)) (lL : Hid (L.length = n)) (lW : Hid (W.length = n)) (iL : Hid (allIn L)) (hQ : Hid (inr Q)) (h0 : Hid (∀ j, j < n → L.getD j 0 = 0)) (hI : Hid (serves Q 0 ((n + 1 : Nat) : Int) = I)) (lI : Hid (I.length = n + 1)) (hA : Hid (of z = A)) (lA : Hid (A.length = n + 1)) (hS : Hid (of P = S)) (lS : Hid (S.length = n + 1)) (hV : Hid (conv A I = S)) (hk : Hid (decide (keeps R C z) = true)) (hf : R ≤ Q) (hz : 0 < Q) (hQm : Q ≤ 1099511627776) (hC0 : 0 ≤ C) (hCm : C ≤ 1099511627776) (hD : Hid (dels Q z = D)) (lD : Hid (D.length = n)) (hdiv : (C + Q - 1).tdiv Q = Z) (hZ0 : 0 ≤ Z) (hZ1 : Z ≤ 2199023255552) (hwait : Hid (∀ j, j < n → W.getD j 0 ≤ max (C - Q) 0)) (hdel : Hid (∀ j, j < n → D.getD j 0 ≤ Z)) :
    Calls Try.prog 7 #[.agg #[.int .i64 R, .int .i64 C], .int .i64 Q, .slice x n cap] w fun e w' => e = .returned (.bool true) ∧ Below w.heap.size w w' := by
  obtain ⟨w0, hw0⟩ : ∃ w0, w.alloc (.cells #[.int .i64 R, .int .i64 C] 30) = w0 := ⟨_, rfl⟩
  have B : Below w.heap.size w w0 := by rw [← hw0]; exact balloc (Below.refl _ _) _
  have K : Bk w0 w.heap.size R C := by rw [← hw0]; exact Bk.new w R C
  have cr := K.r
  have cb := K.b
  replace r := r.kept B
  have hn0 : ((n : Int) == 0) = false := beq_eq_false_iff_ne.2 (by omega)
  have hwr : IntKind.i64.wrap ((n : Int) + 1) = (n : Int) + 1 := wrapIn (by omega)
  have hz0 : (Q == 0) = false := beq_eq_false_iff_ne.2 (by omega)
  have hf0 : ¬ Q < R := by omega
  clear hf
  have T1 := tok
  have T2 := tok
  have T3 := tok
  have T4 := tok
  have T5 := tok
  have T6 := tok
  have T7 := tok
  have T8 := tok
  have T9 := tok
  have T10 := tok
  have T11 := tok
  have T12 := tok
  go_enter Try.func7, Try.ntmps7
  go_wp2_with (first
    | (clear T1; go_at_call 17; refine (alive_any _).mono ?_; rintro e v1 ⟨rfl, b1⟩; replace B := bthen B b1; replace K := K.kept b1; replace cr := K.r; replace cb := K.b; replace r := r.kept b1; clear b1)
    | (clear T2; go_at_call 18; refine (bright_n R C x _ n z _ r en.out true hbt.out).mono ?_; rintro e v2 ⟨rfl, b2⟩; replace B := bthen B b2; replace K := K.kept b2; replace cr := K.r; replace cb := K.b; replace r := r.kept b2; clear b2)
    | (clear T3; go_at_call 29; refine (qright_nil Q true hQt.out _).mono ?_; rintro e v3 ⟨rfl, b3⟩; replace B := bthen B b3; replace K := K.kept b3; replace cr := K.r; replace cb := K.b; replace r := r.kept b3; clear b3)
    | (clear T4; go_at_call 30; refine (play_r Q 1099511627776 x _ n z P L W _ r en.out hb.out hP.out hL.out hW.out).mono ?_; rintro e v4 ⟨a1, c1, a2, c2, a3, c3, rfl, _, r1, r2, r3, b4⟩; replace B := bthen B b4; replace K := K.kept b4; replace cr := K.r; replace cb := K.b; replace r := r.kept b4; obtain ⟨m, im, hm, cm⟩ := max_n a2 c2 n L v4 r2 lL.out hp (by omega) iL.out; obtain rfl : m = 0 := hm.2 h0.out; have cm2 := cm v4 r2; clear cm hm im; clear b4)
    | (clear T5; go_at_call 31; refine cm2.mono ?_; rintro e w'' ⟨rfl, hw⟩; obtain rfl : v4 = w'' := hw.symm; clear cm2 hw r2)
    | (clear T6; go_at_call 13; refine (serves_m Q (n + 1) hQ.out (by omega) _ (by omega) I hI.out _).mono ?_; rintro e v6 ⟨a6, c6, rfl, _, r6, b6⟩; replace B := bthen B b6; replace K := K.kept b6; replace cr := K.r; replace cb := K.b; replace r := r.kept b6; replace r1 := r1.kept b6; replace r3 := r3.kept b6; clear b6)
    | (clear T7; go_at_call 19; refine (of_r x _ n z A hA.out _ r en.out (by omega)).mono ?_; rintro e v7 ⟨a7, c7, rfl, _, r7, b7⟩; replace B := bthen B b7; replace K := K.kept b7; replace cr := K.r; replace cb := K.b; replace r := r.kept b7; replace r1 := r1.kept b7; replace r3 := r3.kept b7; replace r6 := r6.kept b7; clear b7)
    | (clear T8; go_at_call 26; refine (conv_r a7 a6 _ _ (n + 1) A I S hV.out _ r7 r6 lA.out lI.out (by omega)).mono ?_; rintro e v8 ⟨a8, c8, rfl, _, r8, b8⟩; replace B := bthen B b8; replace K := K.kept b8; replace cr := K.r; replace cb := K.b; replace r := r.kept b8; replace r1 := r1.kept b8; replace r3 := r3.kept b8; clear b8)
    | (clear T9; go_at_call 19; refine (of_r a1 _ n P S hS.out _ r1 lP.out (by omega)).mono ?_; rintro e v9 ⟨a9, c9, rfl, _, r9, b9⟩; replace B := bthen B b9; replace K := K.kept b9; replace cr := K.r; replace cb := K.b; replace r := r.kept b9; replace r1 := r1.kept b9; replace r3 := r3.kept b9; replace r8 := r8.kept b9; clear b9)
    | (clear T10; go_at_call 25; refine (within_n a8 a9 _ _ (n + 1) (n + 1) S S _ r8 r9 lS.out lS.out (by omega) (by omega) true (below_self S)).mono ?_; rintro e v10 ⟨rfl, b10⟩; replace B := bthen B b10; replace K := K.kept b10; replace cr := K.r; replace cb := K.b; replace r := r.kept b10; replace r3 := r3.kept b10; clear b10)
    | (clear T11; go_at_call 21; refine (keeps_n R C x _ n z _ r en.out true hk.out).mono ?_; rintro e v11 ⟨rfl, b11⟩; replace B := bthen B b11; replace K := K.kept b11; replace cr := K.r; replace cb := K.b; replace r := r.kept b11; replace r3 := r3.kept b11; clear b11)
    | (clear T12; go_at_call 32; refine (delays_any Q x _ n z _ r en.out hb.out D hD.out).mono ?_; rintro e v12 ⟨a12, c12, rfl, _, r12, b12⟩; replace B := bthen B b12; replace K := K.kept b12; replace cr := K.r; replace cb := K.b; replace r := r.kept b12; replace r3 := r3.kept b12; clear b12))
  clear r r1 cr cb
  obtain ⟨b3, o3, rfl, k3⟩ := r3.at (by rw [lW.out]; exact hp)
  obtain ⟨b5, o5, rfl, k5⟩ := r12.at (by rw [lD.out]; exact hp)
  replace k3 : Hid _ := k3
  replace k5 : Hid _ := k5
  generalize hO : w.heap.size = O at K ⊢
  replace hO : Hid _ := hO
  have cb := K.b
  clear r3 r12 K
  go_loopw [82] (fun j wr => ∃ k q : Nat, k ≤ n ∧ j = .int .i64 k ∧ wr = v12.drewN q) (fun j _ => n - (intOf j).toNat)
  case atStart => exact ⟨0, 0, Nat.zero_le _, rfl, rfl⟩
  case round =>
    obtain ⟨k, q, hk, rfl, rfl⟩ := hrel
    by_cases hlt : k < n
    · have cx := k3.out k (by rw [lW.out]; exact hlt)
      have cy := k5.out k (by rw [lD.out]; exact hlt)
      have hkI : (k : Int) < n := by omega
      have hx := hwait.out k hlt
      have hy := hdel.out k hlt
      generalize W.getD k 0 = X at cx hx
      generalize D.getD k 0 = Y at cy hy
      have hd1 : decide (max (C - Q) 0 < X) = false := decide_eq_false (by omega)
      have hd2 : decide (Z < Y) = false := decide_eq_false (by omega)
      clear hx hy
      go_wp2
      go_region
      all_goals
        go_wp2
        go_roundw
        case rel => exact ⟨k + 1, q + 1, by omega, by go_num, rfl⟩
        case measure => simp [intOf]; omega
    · obtain rfl : k = n := by omega
      go_wp2
      go_ret
      exact ⟨rfl, below_drewN B q⟩

theorem boundQueue_walk (x0 y0 : Int) (a1 : Int) (a2 : Option Addr) (cap2 : Nat) (z2 : List Int) (w : World) (w1 : -9223372036854775808 ≤ a1 ∧ a1 ≤ 9223372036854775807) (h2 : FarIn w a2 cap2 z2) :
    Calls Try.prog 7 #[.agg #[.int .i64 x0, .int .i64 y0], .int .i64 a1, .slice a2 z2.length cap2] w fun e w' => e = .returned (.bool true) ∧ Below w.heap.size w w' := by
  by_cases h : bright x0 y0 z2
  · by_cases hq : inr a1
    · by_cases hp : 0 < z2.length
      · have hb : bright a1 1099511627776 z2 := ⟨hq, by decide, h.2.2⟩
        have hn := h.2.2.1
        by_cases h0 : ∀ j, j < z2.length → (pl a1 1099511627776 z2).getD j 0 = 0
        · have hbb : bright a1 a1 z2 := ⟨hq, hq, h.2.2⟩
          have e := pw_pass hb h0
          have hI : serves a1 0 ((z2.length + 1 : Nat) : Int) = line a1 a1 (z2.length + 1) := serves_line hq _ (by omega)
          have lI : (serves a1 0 ((z2.length + 1 : Nat) : Int)).length = z2.length + 1 := by rw [hI, line_len hq hq]
          have hV : conv (of z2) (serves a1 0 ((z2.length + 1 : Nat) : Int)) = of (pw a1 1099511627776 z2) := by rw [hI, e]; exact (pass_conv hbb).symm
          have lS : (of (pw a1 1099511627776 z2)).length = z2.length + 1 := by rw [of_len, pw_len hb]
          by_cases hk : keeps x0 y0 z2
          · by_cases hf : x0 ≤ a1
            · by_cases hz : a1 = 0
              · exact queue_zero x0 y0 a1 a2 cap2 z2.length z2 _ _ _ _ _ _ w h2.1 rfl hp hn (decide_eq_true h) (decide_eq_true hq) hb rfl rfl rfl (pw_len hb) (pl_len hb) (pq_len hb) (pl_in hb) hq h0 rfl lI rfl (of_len _) rfl lS hV (decide_eq_true hk) hf hz
              · have hq1 : 0 < a1 := by have := hq.1; omega
                have hkt := (keeps_iff h).1 hk
                have hC := h.2.1
                have hdt : 0 ≤ (y0 + a1 - 1).tdiv a1 ∧ (y0 + a1 - 1).tdiv a1 ≤ 2199023255552 := by
                  unfold inr at hC hq
                  have e : (y0 + a1 - 1).tdiv a1 = (y0 + a1 - 1) / a1 := Int.tdiv_eq_ediv_of_nonneg (by omega)
                  rw [e]
                  refine ⟨Int.ediv_nonneg (by omega) (by omega), ?_⟩
                  have := Int.ediv_le_self a1 (show 0 ≤ y0 + a1 - 1 by omega)
                  omega
                have hD : dels a1 z2 = outs (delay (acc fun j => z2.getD j 0) (acc (qg a1 1099511627776 fun j => z2.getD j 0)) z2.length) z2.length := by unfold dels; rw [if_pos hb]
                exact queue_all x0 y0 a1 a2 cap2 z2.length z2 _ _ _ _ _ _ (dels a1 z2) _ w h2.1 rfl hp hn (decide_eq_true h) (decide_eq_true hq) hb rfl rfl rfl (pw_len hb) (pl_len hb) (pq_len hb) (pl_in hb) hq h0 rfl lI rfl (of_len _) rfl lS hV (decide_eq_true hk) hf hq1 hq.2 hC.1 hC.2 rfl (by show _ = _; rw [hD, outs_len]) rfl hdt.1 hdt.2
                  (fun j hj => by rw [pq_getD hb j hj]; exact waits_burst h.1 h.2.1 hq hb.2.1 h.2.2.2 (none_lost hb h0) hkt hf j hj)
                  (fun j hj => by rw [hD, outs_getD _ _ _ hj]; exact delay_burst h.1 h.2.1 hq hb.2.1 h.2.2.2 (none_lost hb h0) hkt hf hq1 j hj)
            · exact queue_fast x0 y0 a1 a2 cap2 z2.length z2 _ _ _ _ _ _ w h2.1 rfl hp hn (decide_eq_true h) (decide_eq_true hq) hb rfl rfl rfl (pw_len hb) (pl_len hb) (pq_len hb) (pl_in hb) hq h0 rfl lI rfl (of_len _) rfl lS hV (decide_eq_true hk) (by omega)
          · exact queue_over x0 y0 a1 a2 cap2 z2.length z2 _ _ _ _ _ _ w h2.1 rfl hp hn (decide_eq_true h) (decide_eq_true hq) hb rfl rfl rfl (pw_len hb) (pl_len hb) (pq_len hb) (pl_in hb) hq h0 rfl lI rfl (of_len _) rfl lS hV (decide_eq_false hk)
        · exact queue_lost x0 y0 a1 a2 cap2 z2.length z2 _ _ _ w h2.1 rfl hp hn (decide_eq_true h) (decide_eq_true hq) hb rfl rfl rfl (pw_len hb) (pl_len hb) (pq_len hb) (pl_in hb) h0
      · exact queue_none x0 y0 a1 a2 cap2 z2.length z2 w h2.1 rfl (by omega) (decide_eq_true h) (decide_eq_true hq)
    · exact queue_rate x0 y0 a1 a2 cap2 z2.length z2 w h2.1 rfl (decide_eq_true h) (decide_eq_false hq)
  · exact queue_not x0 y0 a1 a2 cap2 z2.length z2 w h2.1 rfl (decide_eq_false h)

end Go.Proofs.Ytmijlmidlddcpaa
namespace Go.Proofs.Ytmijlmidlddcpaa.boundQueue
open Go.ChangeShapes Go.WideShapes Go.ChangeAt Go.RowKit
set_option linter.unusedVariables false

set_option maxRecDepth 100000 in
theorem lifted (os : Os) (started : os.Started) (H : Type) (enc : TypeId × Value → H) :
    ReturnsInHanded {} Try.checked os 7 .any (Rows.boundQueueSpec.pre6 enc Try.prog Try.f7 Rows.boundQueueRow.domain false) (Rows.boundQueueSpec.post enc Try.prog Try.f7 false true false false) := by
  refine returnsInHanded_of_change_sized (C := Try.checked) own started (by kernel_rfl) Try.func7
    (ChangeSpec.witness6 (enc := enc) (C := Try.checked) false ⟨#[], #[.agg #[.int .i64 0, .int .i64 0], .int .i64 0, .slice none 0 0], []⟩ 8 (by kernel_rfl) (by kernel_rfl) (by kernel_rfl) (by kernel_rfl)) ?_
  intro W base args ds gs before hval0 hW _ hsz0 _
  have hsz : (DataW.weightsEach Try.prog (Try.f7.params.toList ++ Rows.boundQueueSpec.plain.varTypes Try.prog) (ds ++ gs)).all (· ≤ reachBytes) = true := hsz0
  have hval : ∀ (j : Nat) t v, Try.f7.params[j]? = some t → args[j]? = some v → Value.okWide Try.prog W .any base t v := hval0
  have hW' := hW
  obtain ⟨p, q, hA0, hV, rfl, hfz, hnd⟩ := hW
  have hA : DataW.TrodAll enc Try.prog W 0 (fun _ => true) true Try.f7.params.toList args.toList ds p := hA0
  rw [Try.params7] at hA hval hsz
  obtain ⟨v0, vs0, d0, ds0, p0, q0, hargs, rfl, rfl, h0, r0⟩ := trodAll_cons hA
  obtain ⟨v1, vs1, d1, ds1, p1, q1, rfl, rfl, rfl, h1, r1⟩ := trodAll_cons r0
  obtain ⟨v2, vs2, d2, ds2, p2, q2, rfl, rfl, rfl, h2, r2⟩ := trodAll_cons r1
  obtain ⟨rfl, rfl, rfl⟩ := trodAll_nil r2
  obtain rfl : args = #[v0, v1, v2] := by cases args; simp_all
  obtain ⟨rfl, rfl⟩ := trodVars_none hV
  obtain ⟨x0, y0, rfl, rfl, rfl, wx0, wy0⟩ := openBk (hval 0 30 v0 rfl rfl) h0
  obtain ⟨a1, rfl, rfl, rfl, w1⟩ := open_int Try.underlying3 (hval 1 3 v1 rfl rfl) h1
  obtain ⟨a2, len2, cap2, rfl⟩ := okWide_slice Try.underlying22 (hval 2 22 v2 rfl rfl)
  have k2 := h2
  have lt2 : ∀ x ∈ p2, x.block < W.heap.size := by obtain ⟨m, hm⟩ := k2; exact DataW.trod_lt m _ _ _ hm
  obtain ⟨z2, rfl, w2⟩ := farIn h2 (fun elems spare e => by
    subst e
    have := sized_slice hsz (j := 2) (t := 22) (e := 3) rfl rfl Try.underlying22
    rw [Try.bytes3] at this
    exact this)
  clear hA0 hval0 hsz0 hsz
  refine (boundQueue_walk x0 y0 a1 a2 cap2 z2 W (fits w1) w2).mono fun e W' ⟨he, bel⟩ => ?_
  subst he
  exact ⟨_, rfl, _, _, _, [], _, [], hW', trodAll_mk1 (shut_bool Try.underlying4 _), (trodAll_cons_mk (shutBk wx0 wy0) (trodAll_cons_mk (shut_int Try.underlying3 w1) (trodAll_cons_mk (Below.trod laidOut (by kernel_rfl) (of_decide_eq_true (by kernel_rfl)) k2 bel lt2) trodAll_mk0))), rfl, bel.frame _, fun h => by cases h⟩

theorem proved : Rows.BoundQueueSaid :=
  OpenClaim.holds_of_wide 7 Try.f7 rfl rfl rfl rfl rfl rfl rfl ⟨rfl, rfl, rfl, rfl, rfl⟩ rfl rfl rfl rfl rfl (by kernel_rfl) Try.func7 (by kernel_rfl)
    (of_decide_eq_true (by kernel_rfl)) (by unfold Func.isWrapper; first | (rw [if_pos (by decide +kernel)]; kernel_rfl) | (rw [if_neg (by decide +kernel)]; exact ⟨rfl, rfl⟩))
    (fun os started H enc _ => lifted os started H enc)

end Go.Proofs.Ytmijlmidlddcpaa.boundQueue
namespace Go.Proofs.Ytmijlmidlddcpaa
theorem boundQueue_holds : Rows.BoundQueueSaid := boundQueue.proved
#print axioms boundQueue_holds
end Go.Proofs.Ytmijlmidlddcpaa
