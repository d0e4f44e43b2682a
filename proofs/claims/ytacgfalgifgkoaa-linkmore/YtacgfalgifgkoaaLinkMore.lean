/- PROVED: tidewaitkeep.LinkMore answers true at every input: with one packet more of one of both no fewer of its come, or wait, and no fewer are lost; of the other no more come, and no fewer are lost. CONDITIONS: none. -/
import Derived.Test.YtacgfalgifgkoaaAlive
import Derived.Test.YtacgfalgifgkoaaFar
import Derived.Test.YtacgfalgifgkoaaNums
namespace Go.Proofs.Ytacgfalgifgkoaa
open Go.RowKit
set_option linter.unusedVariables false

/-- both pairs that came in, boxed -/
theorem boxes (w : World) (a b s t : Int) : Arr ((w.alloc (.cells #[.int .i64 a, .int .i64 b] 22)).alloc (.cells #[.int .i64 s, .int .i64 t] 22)) w.heap.size a b ∧ Arr ((w.alloc (.cells #[.int .i64 a, .int .i64 b] 22)).alloc (.cells #[.int .i64 s, .int .i64 t] 22)) (w.heap.size + 1) s t ∧
    Below w.heap.size w ((w.alloc (.cells #[.int .i64 a, .int .i64 b] 22)).alloc (.cells #[.int .i64 s, .int .i64 t] 22)) :=
  ⟨(Arr.new w _ rfl a b).alloc _, Arr.new (w.alloc _) _ (by simp) s t, balloc (balloc (Below.refl _ _) _) _⟩
/-- what a call of Pass told, put down -/
abbrev put (v : World) (s t c0 c1 l0 l1 k0 k1 : Int) : World := (v.alloc (.cells #[.int .i64 s, .int .i64 t, .int .i64 c0, .int .i64 c1, .int .i64 l0, .int .i64 l1] 24)).alloc (.cells #[.int .i64 k0, .int .i64 k1] 22)
theorem put_is (v : World) (s t c0 c1 l0 l1 k0 k1 : Int) : Rnd (put v s t c0 c1 l0 l1 k0 k1) v.heap.size s t c0 c1 l0 l1 ∧ Arr (put v s t c0 c1 l0 l1 k0 k1) (v.heap.size + 1) k0 k1 ∧ Below v.heap.size v (put v s t c0 c1 l0 l1 k0 k1) :=
  ⟨(Rnd.new v _ rfl s t c0 c1 l0 l1).alloc _, Arr.new (v.alloc _) _ (by simp) k0 k1, balloc (balloc (Below.refl _ _) _) _⟩

set_option maxHeartbeats 1600000 in
theorem more_out (r m a b s t x : Int) (w : World) (h : x < 0 ∨ (decide (x < 0) = false ∧ 1 < x)) :
    Calls Try.prog 6 #[.int .i64 r, .int .i64 m, .agg #[.int .i64 a, .int .i64 b], .agg #[.int .i64 s, .int .i64 t], .int .i64 x] w fun e w' => e = .returned (.bool true) ∧ Below w.heap.size w w' := by
  obtain ⟨A, B, C⟩ := boxes w a b s t
  rcases h with h | ⟨h, h'⟩
  all_goals
    go_enter Try.func6, Try.ntmps6
    go_wp2_with (go_at_call 11; refine (alive_any _).mono ?_; rintro e v1 ⟨rfl, b1⟩; replace C := bthen C b1)
    go_ret
    exact ⟨rfl, C⟩

set_option maxHeartbeats 3200000 in
theorem first_no (r m a b s t s' : Int) (w : World) (hs : s ≤ 9223372036854775806 ∧ -9223372036854775808 ≤ s ∧ s + 1 = s' ∨ s = 9223372036854775807 ∧ s' = -9223372036854775808)
    (s1 t1 c0 c1 l0 l1 k0 k1 s2 t2 d0 d1 j0 j1 q0 q1 e f : Int) (p : ∀ v, Calls Try.prog 7 #[.int .i64 r, .int .i64 m, .agg #[.int .i64 a, .int .i64 b], .agg #[.int .i64 s, .int .i64 t]] v (Ans v s1 t1 c0 c1 l0 l1 k0 k1 e))
    (q : ∀ v, Calls Try.prog 7 #[.int .i64 r, .int .i64 m, .agg #[.int .i64 a, .int .i64 b], .agg #[.int .i64 s', .int .i64 t]] v (Ans v s2 t2 d0 d1 j0 j1 q0 q1 f)) (he : e = 2 ∨ e = 0 ∧ f = 2) :
    Calls Try.prog 6 #[.int .i64 r, .int .i64 m, .agg #[.int .i64 a, .int .i64 b], .agg #[.int .i64 s, .int .i64 t], .int .i64 0] w fun e w' => e = .returned (.bool true) ∧ Below w.heap.size w w' := by
  rcases hs with ⟨hs, hs0, rfl⟩ | ⟨rfl, rfl⟩
  · rcases he with rfl | ⟨rfl, rfl⟩
    all_goals
      obtain ⟨A, B, C⟩ := boxes w a b s t
      have T1 := tok
      have T2 := tok
      go_enter Try.func6, Try.ntmps6
      go_wp2_with (first
      | (clear T1; go_at_call 11; refine (alive_any _).mono ?_; rintro e v1 ⟨rfl, b1⟩; replace A := A.kept b1; replace B := B.kept b1; replace C := bthen C b1; obtain ⟨o0, o1, _, _⟩ := id B; have Z := Arr.new v1 _ rfl (s + 1) (t); replace A := A.alloc (.cells #[.int .i64 (s + 1), .int .i64 (t)] 22); replace B := B.alloc (.cells #[.int .i64 (s + 1), .int .i64 (t)] 22); replace C := balloc C (.cells #[.int .i64 (s + 1), .int .i64 (t)] 22); clear b1; obtain ⟨i0, i1, _, _⟩ := id A; obtain ⟨n0, n1, _, _⟩ := id B)
      | (clear T2; go_at_call 7; refine (p _).mono ?_; clear p o0 o1 i0 i1 n0 n1; rintro e v2 ⟨rfl, b2⟩; obtain ⟨R, K, b3⟩ := put_is v2 s1 t1 c0 c1 l0 l1 k0 k1; replace A := (A.kept b2).kept b3; replace Z := (Z.kept b2).kept b3; replace C := bthen (bthen C b2) b3; clear b2 b3 B; obtain ⟨i0, i1, _, _⟩ := id A; obtain ⟨n0, n1, _, _⟩ := id Z)
      | (go_at_call 7; refine (q _).mono ?_; clear q i0 i1 n0 n1; rintro e v3 ⟨rfl, b2⟩; obtain ⟨R2, K2, b3⟩ := put_is v3 s2 t2 d0 d1 j0 j1 q0 q1; replace R := (R.kept b2).kept b3; replace K := (K.kept b2).kept b3; replace C := bthen (bthen C b2) b3; clear b2 b3 A Z))
      go_ret
      exact ⟨rfl, C⟩
  · rcases he with rfl | ⟨rfl, rfl⟩
    all_goals
      obtain ⟨A, B, C⟩ := boxes w a b 9223372036854775807 t
      have hw : wrap64 9223372036854775808 = -9223372036854775808 := (by decide +kernel)
      have T1 := tok
      have T2 := tok
      go_enter Try.func6, Try.ntmps6
      go_wp2_with (first
      | (clear T1; go_at_call 11; refine (alive_any _).mono ?_; rintro e v1 ⟨rfl, b1⟩; replace A := A.kept b1; replace B := B.kept b1; replace C := bthen C b1; obtain ⟨o0, o1, _, _⟩ := id B; have Z := Arr.new v1 _ rfl (-9223372036854775808) (t); replace A := A.alloc (.cells #[.int .i64 (-9223372036854775808), .int .i64 (t)] 22); replace B := B.alloc (.cells #[.int .i64 (-9223372036854775808), .int .i64 (t)] 22); replace C := balloc C (.cells #[.int .i64 (-9223372036854775808), .int .i64 (t)] 22); clear b1; obtain ⟨i0, i1, _, _⟩ := id A; obtain ⟨n0, n1, _, _⟩ := id B)
      | (clear T2; go_at_call 7; refine (p _).mono ?_; clear p o0 o1 i0 i1 n0 n1; rintro e v2 ⟨rfl, b2⟩; obtain ⟨R, K, b3⟩ := put_is v2 s1 t1 c0 c1 l0 l1 k0 k1; replace A := (A.kept b2).kept b3; replace Z := (Z.kept b2).kept b3; replace C := bthen (bthen C b2) b3; clear b2 b3 B; obtain ⟨i0, i1, _, _⟩ := id A; obtain ⟨n0, n1, _, _⟩ := id Z)
      | (go_at_call 7; refine (q _).mono ?_; clear q i0 i1 n0 n1; rintro e v3 ⟨rfl, b2⟩; obtain ⟨R2, K2, b3⟩ := put_is v3 s2 t2 d0 d1 j0 j1 q0 q1; replace R := (R.kept b2).kept b3; replace K := (K.kept b2).kept b3; replace C := bthen (bthen C b2) b3; clear b2 b3 A Z))
      go_ret
      exact ⟨rfl, C⟩

set_option maxHeartbeats 6400000 in
theorem first_yes (r m a b s t : Int) (w : World) (hs : s ≤ 12 ∧ 0 ≤ s)
    (s1 t1 c0 c1 l0 l1 k0 k1 s2 t2 d0 d1 j0 j1 q0 q1 : Int) (p : ∀ v, Calls Try.prog 7 #[.int .i64 r, .int .i64 m, .agg #[.int .i64 a, .int .i64 b], .agg #[.int .i64 s, .int .i64 t]] v (Ans v s1 t1 c0 c1 l0 l1 k0 k1 0))
    (q : ∀ v, Calls Try.prog 7 #[.int .i64 r, .int .i64 m, .agg #[.int .i64 a, .int .i64 b], .agg #[.int .i64 (s + 1), .int .i64 (t)]] v (Ans v s2 t2 d0 d1 j0 j1 q0 q1 0))
    (hc : 0 ≤ c0 ∧ c0 ≤ 100) (hk : 0 ≤ k0 ∧ k0 ≤ 100) (hd : 0 ≤ d0 ∧ d0 ≤ 100) (hq : 0 ≤ q0 ∧ q0 ≤ 100)
    (h1 : c0 ≤ d0) (h2 : c0 + k0 ≤ d0 + q0) (h3 : l0 ≤ j0) (h4 : d1 ≤ c1) (h5 : l1 ≤ j1) :
    Calls Try.prog 6 #[.int .i64 r, .int .i64 m, .agg #[.int .i64 a, .int .i64 b], .agg #[.int .i64 s, .int .i64 t], .int .i64 0] w fun e w' => e = .returned (.bool true) ∧ Below w.heap.size w w' := by
  obtain ⟨A, B, C⟩ := boxes w a b s t
  have T1 := tok
  have T2 := tok
  go_enter Try.func6, Try.ntmps6
  go_wp2_with (first
      | (clear T1; go_at_call 11; refine (alive_any _).mono ?_; rintro e v1 ⟨rfl, b1⟩; replace A := A.kept b1; replace B := B.kept b1; replace C := bthen C b1; obtain ⟨o0, o1, _, _⟩ := id B; have Z := Arr.new v1 _ rfl (s + 1) (t); replace A := A.alloc (.cells #[.int .i64 (s + 1), .int .i64 (t)] 22); replace B := B.alloc (.cells #[.int .i64 (s + 1), .int .i64 (t)] 22); replace C := balloc C (.cells #[.int .i64 (s + 1), .int .i64 (t)] 22); clear b1; obtain ⟨i0, i1, _, _⟩ := id A; obtain ⟨n0, n1, _, _⟩ := id B)
      | (clear T2; go_at_call 7; refine (p _).mono ?_; clear p o0 o1 i0 i1 n0 n1; rintro e v2 ⟨rfl, b2⟩; obtain ⟨R, K, b3⟩ := put_is v2 s1 t1 c0 c1 l0 l1 k0 k1; replace A := (A.kept b2).kept b3; replace Z := (Z.kept b2).kept b3; replace C := bthen (bthen C b2) b3; clear b2 b3 B; obtain ⟨i0, i1, _, _⟩ := id A; obtain ⟨n0, n1, _, _⟩ := id Z)
      | (go_at_call 7; refine (q _).mono ?_; clear q i0 i1 n0 n1; rintro e v3 ⟨rfl, b2⟩; obtain ⟨R2, K2, b3⟩ := put_is v3 s2 t2 d0 d1 j0 j1 q0 q1; replace R := (R.kept b2).kept b3; replace K := (K.kept b2).kept b3; replace C := bthen (bthen C b2) b3; clear b2 b3 A Z))
  obtain ⟨x0, x1, x2, x3, x4, x5, _, _, _, _, _, _⟩ := R
  obtain ⟨y0, y1, y2, y3, y4, y5, _, _, _, _, _, _⟩ := R2
  obtain ⟨z0, z1, _, _⟩ := K
  obtain ⟨u0, u1, _, _⟩ := K2
  go_quiet (fail)
  go_wp2
  go_ret
  exact ⟨rfl, below_drewN C _⟩

set_option maxHeartbeats 3200000 in
theorem second_no (r m a b s t t' : Int) (w : World) (hs : t ≤ 9223372036854775806 ∧ -9223372036854775808 ≤ t ∧ t + 1 = t' ∨ t = 9223372036854775807 ∧ t' = -9223372036854775808)
    (s1 t1 c0 c1 l0 l1 k0 k1 s2 t2 d0 d1 j0 j1 q0 q1 e f : Int) (p : ∀ v, Calls Try.prog 7 #[.int .i64 r, .int .i64 m, .agg #[.int .i64 a, .int .i64 b], .agg #[.int .i64 s, .int .i64 t]] v (Ans v s1 t1 c0 c1 l0 l1 k0 k1 e))
    (q : ∀ v, Calls Try.prog 7 #[.int .i64 r, .int .i64 m, .agg #[.int .i64 a, .int .i64 b], .agg #[.int .i64 s, .int .i64 t']] v (Ans v s2 t2 d0 d1 j0 j1 q0 q1 f)) (he : e = 2 ∨ e = 0 ∧ f = 2) :
    Calls Try.prog 6 #[.int .i64 r, .int .i64 m, .agg #[.int .i64 a, .int .i64 b], .agg #[.int .i64 s, .int .i64 t], .int .i64 1] w fun e w' => e = .returned (.bool true) ∧ Below w.heap.size w w' := by
  rcases hs with ⟨hs, hs0, rfl⟩ | ⟨rfl, rfl⟩
  · rcases he with rfl | ⟨rfl, rfl⟩
    all_goals
      obtain ⟨A, B, C⟩ := boxes w a b s t
      have T1 := tok
      have T2 := tok
      go_enter Try.func6, Try.ntmps6
      go_wp2_with (first
      | (clear T1; go_at_call 11; refine (alive_any _).mono ?_; rintro e v1 ⟨rfl, b1⟩; replace A := A.kept b1; replace B := B.kept b1; replace C := bthen C b1; obtain ⟨o0, o1, _, _⟩ := id B; have Z := Arr.new v1 _ rfl (s) (t + 1); replace A := A.alloc (.cells #[.int .i64 (s), .int .i64 (t + 1)] 22); replace B := B.alloc (.cells #[.int .i64 (s), .int .i64 (t + 1)] 22); replace C := balloc C (.cells #[.int .i64 (s), .int .i64 (t + 1)] 22); clear b1; obtain ⟨i0, i1, _, _⟩ := id A; obtain ⟨n0, n1, _, _⟩ := id B)
      | (clear T2; go_at_call 7; refine (p _).mono ?_; clear p o0 o1 i0 i1 n0 n1; rintro e v2 ⟨rfl, b2⟩; obtain ⟨R, K, b3⟩ := put_is v2 s1 t1 c0 c1 l0 l1 k0 k1; replace A := (A.kept b2).kept b3; replace Z := (Z.kept b2).kept b3; replace C := bthen (bthen C b2) b3; clear b2 b3 B; obtain ⟨i0, i1, _, _⟩ := id A; obtain ⟨n0, n1, _, _⟩ := id Z)
      | (go_at_call 7; refine (q _).mono ?_; clear q i0 i1 n0 n1; rintro e v3 ⟨rfl, b2⟩; obtain ⟨R2, K2, b3⟩ := put_is v3 s2 t2 d0 d1 j0 j1 q0 q1; replace R := (R.kept b2).kept b3; replace K := (K.kept b2).kept b3; replace C := bthen (bthen C b2) b3; clear b2 b3 A Z))
      go_ret
      exact ⟨rfl, C⟩
  · rcases he with rfl | ⟨rfl, rfl⟩
    all_goals
      obtain ⟨A, B, C⟩ := boxes w a b s 9223372036854775807
      have hw : wrap64 9223372036854775808 = -9223372036854775808 := (by decide +kernel)
      have T1 := tok
      have T2 := tok
      go_enter Try.func6, Try.ntmps6
      go_wp2_with (first
      | (clear T1; go_at_call 11; refine (alive_any _).mono ?_; rintro e v1 ⟨rfl, b1⟩; replace A := A.kept b1; replace B := B.kept b1; replace C := bthen C b1; obtain ⟨o0, o1, _, _⟩ := id B; have Z := Arr.new v1 _ rfl (s) (-9223372036854775808); replace A := A.alloc (.cells #[.int .i64 (s), .int .i64 (-9223372036854775808)] 22); replace B := B.alloc (.cells #[.int .i64 (s), .int .i64 (-9223372036854775808)] 22); replace C := balloc C (.cells #[.int .i64 (s), .int .i64 (-9223372036854775808)] 22); clear b1; obtain ⟨i0, i1, _, _⟩ := id A; obtain ⟨n0, n1, _, _⟩ := id B)
      | (clear T2; go_at_call 7; refine (p _).mono ?_; clear p o0 o1 i0 i1 n0 n1; rintro e v2 ⟨rfl, b2⟩; obtain ⟨R, K, b3⟩ := put_is v2 s1 t1 c0 c1 l0 l1 k0 k1; replace A := (A.kept b2).kept b3; replace Z := (Z.kept b2).kept b3; replace C := bthen (bthen C b2) b3; clear b2 b3 B; obtain ⟨i0, i1, _, _⟩ := id A; obtain ⟨n0, n1, _, _⟩ := id Z)
      | (go_at_call 7; refine (q _).mono ?_; clear q i0 i1 n0 n1; rintro e v3 ⟨rfl, b2⟩; obtain ⟨R2, K2, b3⟩ := put_is v3 s2 t2 d0 d1 j0 j1 q0 q1; replace R := (R.kept b2).kept b3; replace K := (K.kept b2).kept b3; replace C := bthen (bthen C b2) b3; clear b2 b3 A Z))
      go_ret
      exact ⟨rfl, C⟩

set_option maxHeartbeats 6400000 in
theorem second_yes (r m a b s t : Int) (w : World) (hs : t ≤ 12 ∧ 0 ≤ t)
    (s1 t1 c0 c1 l0 l1 k0 k1 s2 t2 d0 d1 j0 j1 q0 q1 : Int) (p : ∀ v, Calls Try.prog 7 #[.int .i64 r, .int .i64 m, .agg #[.int .i64 a, .int .i64 b], .agg #[.int .i64 s, .int .i64 t]] v (Ans v s1 t1 c0 c1 l0 l1 k0 k1 0))
    (q : ∀ v, Calls Try.prog 7 #[.int .i64 r, .int .i64 m, .agg #[.int .i64 a, .int .i64 b], .agg #[.int .i64 (s), .int .i64 (t + 1)]] v (Ans v s2 t2 d0 d1 j0 j1 q0 q1 0))
    (hc : 0 ≤ c1 ∧ c1 ≤ 100) (hk : 0 ≤ k1 ∧ k1 ≤ 100) (hd : 0 ≤ d1 ∧ d1 ≤ 100) (hq : 0 ≤ q1 ∧ q1 ≤ 100)
    (h1 : c1 ≤ d1) (h2 : c1 + k1 ≤ d1 + q1) (h3 : l1 ≤ j1) (h4 : d0 ≤ c0) (h5 : l0 ≤ j0) :
    Calls Try.prog 6 #[.int .i64 r, .int .i64 m, .agg #[.int .i64 a, .int .i64 b], .agg #[.int .i64 s, .int .i64 t], .int .i64 1] w fun e w' => e = .returned (.bool true) ∧ Below w.heap.size w w' := by
  obtain ⟨A, B, C⟩ := boxes w a b s t
  have T1 := tok
  have T2 := tok
  go_enter Try.func6, Try.ntmps6
  go_wp2_with (first
      | (clear T1; go_at_call 11; refine (alive_any _).mono ?_; rintro e v1 ⟨rfl, b1⟩; replace A := A.kept b1; replace B := B.kept b1; replace C := bthen C b1; obtain ⟨o0, o1, _, _⟩ := id B; have Z := Arr.new v1 _ rfl (s) (t + 1); replace A := A.alloc (.cells #[.int .i64 (s), .int .i64 (t + 1)] 22); replace B := B.alloc (.cells #[.int .i64 (s), .int .i64 (t + 1)] 22); replace C := balloc C (.cells #[.int .i64 (s), .int .i64 (t + 1)] 22); clear b1; obtain ⟨i0, i1, _, _⟩ := id A; obtain ⟨n0, n1, _, _⟩ := id B)
      | (clear T2; go_at_call 7; refine (p _).mono ?_; clear p o0 o1 i0 i1 n0 n1; rintro e v2 ⟨rfl, b2⟩; obtain ⟨R, K, b3⟩ := put_is v2 s1 t1 c0 c1 l0 l1 k0 k1; replace A := (A.kept b2).kept b3; replace Z := (Z.kept b2).kept b3; replace C := bthen (bthen C b2) b3; clear b2 b3 B; obtain ⟨i0, i1, _, _⟩ := id A; obtain ⟨n0, n1, _, _⟩ := id Z)
      | (go_at_call 7; refine (q _).mono ?_; clear q i0 i1 n0 n1; rintro e v3 ⟨rfl, b2⟩; obtain ⟨R2, K2, b3⟩ := put_is v3 s2 t2 d0 d1 j0 j1 q0 q1; replace R := (R.kept b2).kept b3; replace K := (K.kept b2).kept b3; replace C := bthen (bthen C b2) b3; clear b2 b3 A Z))
  obtain ⟨x0, x1, x2, x3, x4, x5, _, _, _, _, _, _⟩ := R
  obtain ⟨y0, y1, y2, y3, y4, y5, _, _, _, _, _, _⟩ := R2
  obtain ⟨z0, z1, _, _⟩ := K
  obtain ⟨u0, u1, _, _⟩ := K2
  go_quiet (fail)
  go_wp2
  go_ret
  exact ⟨rfl, below_drewN C _⟩

theorem linkMore_walk (a0 a1 : Int) (x2 y2 x3 y3 : Int) (a4 : Int) (w : World) (w0 : -9223372036854775808 ≤ a0 ∧ a0 ≤ 9223372036854775807) (w1 : -9223372036854775808 ≤ a1 ∧ a1 ≤ 9223372036854775807) (u2 : -9223372036854775808 ≤ x2 ∧ x2 ≤ 9223372036854775807) (v2 : -9223372036854775808 ≤ y2 ∧ y2 ≤ 9223372036854775807) (u3 : -9223372036854775808 ≤ x3 ∧ x3 ≤ 9223372036854775807) (v3 : -9223372036854775808 ≤ y3 ∧ y3 ≤ 9223372036854775807) (w4 : -9223372036854775808 ≤ a4 ∧ a4 ≤ 9223372036854775807) :
    Calls Try.prog 6 #[.int .i64 a0, .int .i64 a1, .agg #[.int .i64 x2, .int .i64 y2], .agg #[.int .i64 x3, .int .i64 y3], .int .i64 a4] w fun e w' => e = .returned (.bool true) ∧ Below w.heap.size w w' := by
  by_cases ho : a4 < 0
  · exact more_out a0 a1 x2 y2 x3 y3 a4 w (.inl ho)
  by_cases ho2 : 1 < a4
  · exact more_out a0 a1 x2 y2 x3 y3 a4 w (.inr ⟨decide_eq_false ho, ho2⟩)
  obtain rfl | rfl : a4 = 0 ∨ a4 = 1 := by omega
  · by_cases hm : x3 = 9223372036854775807
    · subst hm
      have n1 : ¬ lr a0 a1 x2 y2 9223372036854775807 y3 := by unfold lr; omega
      exact first_no a0 a1 x2 y2 9223372036854775807 y3 _ w (.inr ⟨rfl, rfl⟩) _ _ _ _ _ _ _ _ _ _ _ _ _ _ _ _ _ _ (fun v => pass_no a0 a1 x2 y2 9223372036854775807 y3 n1 v) (fun v => pass_no a0 a1 x2 y2 (-9223372036854775808) y3 (by unfold lr; omega) v) (.inl rfl)
    · by_cases h : lr a0 a1 x2 y2 x3 y3
      · by_cases h' : lr a0 a1 x2 y2 (x3 + 1) (y3)
        · obtain ⟨i1, i2, i3, i4, i5, i6⟩ := inside a0 a1 x2 y2 x3 y3 h
          obtain ⟨j1, j2, j3, j4, j5, j6⟩ := inside a0 a1 x2 y2 (x3 + 1) (y3) h'
          obtain ⟨m1, m2, m3, m4, m5⟩ := more_first a0 a1 x2 y2 x3 y3 h h'
          exact first_yes a0 a1 x2 y2 x3 y3 w (by unfold lr at h; omega) _ _ _ _ _ _ _ _ _ _ _ _ _ _ _ _ (fun v => pass_yes a0 a1 x2 y2 x3 y3 h v) (fun v => pass_yes a0 a1 x2 y2 (x3 + 1) (y3) h' v) i1 i5 j1 j5 m1 m2 m3 m4 m5
        · exact first_no a0 a1 x2 y2 x3 y3 _ w (.inl ⟨by omega, by omega, rfl⟩) _ _ _ _ _ _ _ _ _ _ _ _ _ _ _ _ _ _ (fun v => pass_yes a0 a1 x2 y2 x3 y3 h v) (fun v => pass_no a0 a1 x2 y2 (x3 + 1) (y3) h' v) (.inr ⟨rfl, rfl⟩)
      · by_cases h' : lr a0 a1 x2 y2 (x3 + 1) (y3)
        · exact first_no a0 a1 x2 y2 x3 y3 _ w (.inl ⟨by omega, by omega, rfl⟩) _ _ _ _ _ _ _ _ _ _ _ _ _ _ _ _ _ _ (fun v => pass_no a0 a1 x2 y2 x3 y3 h v) (fun v => pass_yes a0 a1 x2 y2 (x3 + 1) (y3) h' v) (.inl rfl)
        · exact first_no a0 a1 x2 y2 x3 y3 _ w (.inl ⟨by omega, by omega, rfl⟩) _ _ _ _ _ _ _ _ _ _ _ _ _ _ _ _ _ _ (fun v => pass_no a0 a1 x2 y2 x3 y3 h v) (fun v => pass_no a0 a1 x2 y2 (x3 + 1) (y3) h' v) (.inl rfl)
  · by_cases hm : y3 = 9223372036854775807
    · subst hm
      have n1 : ¬ lr a0 a1 x2 y2 x3 9223372036854775807 := by unfold lr; omega
      exact second_no a0 a1 x2 y2 x3 9223372036854775807 _ w (.inr ⟨rfl, rfl⟩) _ _ _ _ _ _ _ _ _ _ _ _ _ _ _ _ _ _ (fun v => pass_no a0 a1 x2 y2 x3 9223372036854775807 n1 v) (fun v => pass_no a0 a1 x2 y2 x3 (-9223372036854775808) (by unfold lr; omega) v) (.inl rfl)
    · by_cases h : lr a0 a1 x2 y2 x3 y3
      · by_cases h' : lr a0 a1 x2 y2 (x3) (y3 + 1)
        · obtain ⟨i1, i2, i3, i4, i5, i6⟩ := inside a0 a1 x2 y2 x3 y3 h
          obtain ⟨j1, j2, j3, j4, j5, j6⟩ := inside a0 a1 x2 y2 (x3) (y3 + 1) h'
          obtain ⟨m1, m2, m3, m4, m5⟩ := more_second a0 a1 x2 y2 x3 y3 h h'
          exact second_yes a0 a1 x2 y2 x3 y3 w (by unfold lr at h; omega) _ _ _ _ _ _ _ _ _ _ _ _ _ _ _ _ (fun v => pass_yes a0 a1 x2 y2 x3 y3 h v) (fun v => pass_yes a0 a1 x2 y2 (x3) (y3 + 1) h' v) i2 i6 j2 j6 m1 m2 m3 m4 m5
        · exact second_no a0 a1 x2 y2 x3 y3 _ w (.inl ⟨by omega, by omega, rfl⟩) _ _ _ _ _ _ _ _ _ _ _ _ _ _ _ _ _ _ (fun v => pass_yes a0 a1 x2 y2 x3 y3 h v) (fun v => pass_no a0 a1 x2 y2 (x3) (y3 + 1) h' v) (.inr ⟨rfl, rfl⟩)
      · by_cases h' : lr a0 a1 x2 y2 (x3) (y3 + 1)
        · exact second_no a0 a1 x2 y2 x3 y3 _ w (.inl ⟨by omega, by omega, rfl⟩) _ _ _ _ _ _ _ _ _ _ _ _ _ _ _ _ _ _ (fun v => pass_no a0 a1 x2 y2 x3 y3 h v) (fun v => pass_yes a0 a1 x2 y2 (x3) (y3 + 1) h' v) (.inl rfl)
        · exact second_no a0 a1 x2 y2 x3 y3 _ w (.inl ⟨by omega, by omega, rfl⟩) _ _ _ _ _ _ _ _ _ _ _ _ _ _ _ _ _ _ (fun v => pass_no a0 a1 x2 y2 x3 y3 h v) (fun v => pass_no a0 a1 x2 y2 (x3) (y3 + 1) h' v) (.inl rfl)

end Go.Proofs.Ytacgfalgifgkoaa
namespace Go.Proofs.Ytacgfalgifgkoaa.linkMore
open Go.ChangeShapes Go.WideShapes Go.ChangeAt Go.RowKit
set_option linter.unusedVariables false

set_option maxRecDepth 100000 in
theorem lifted (os : Os) (started : os.Started) (H : Type) (enc : TypeId × Value → H) :
    ReturnsInHanded {} Try.checked os 6 .any (Rows.linkMoreSpec.pre6 enc Try.prog Try.f6 Rows.linkMoreRow.domain false) (Rows.linkMoreSpec.post enc Try.prog Try.f6 false true false false) := by
  refine returnsInHanded_of_change_sized (C := Try.checked) own started (by kernel_rfl) Try.func6
    (ChangeSpec.witness6 (enc := enc) (C := Try.checked) false ⟨#[], #[.int .i64 0, .int .i64 0, .agg #[.int .i64 0, .int .i64 0], .agg #[.int .i64 0, .int .i64 0], .int .i64 0], []⟩ 8 (by kernel_rfl) (by kernel_rfl) (by kernel_rfl) (by kernel_rfl)) ?_
  intro W base args ds gs before hval0 hW _ hsz0 _
  have hsz : (DataW.weightsEach Try.prog (Try.f6.params.toList ++ Rows.linkMoreSpec.plain.varTypes Try.prog) (ds ++ gs)).all (· ≤ reachBytes) = true := hsz0
  have hval : ∀ (j : Nat) t v, Try.f6.params[j]? = some t → args[j]? = some v → Value.okWide Try.prog W .any base t v := hval0
  have hW' := hW
  obtain ⟨p, q, hA0, hV, rfl, hfz, hnd⟩ := hW
  have hA : DataW.TrodAll enc Try.prog W 0 (fun _ => true) true Try.f6.params.toList args.toList ds p := hA0
  rw [Try.params6] at hA hval hsz
  obtain ⟨v0, vs0, d0, ds0, p0, q0, hargs, rfl, rfl, h0, r0⟩ := trodAll_cons hA
  obtain ⟨v1, vs1, d1, ds1, p1, q1, rfl, rfl, rfl, h1, r1⟩ := trodAll_cons r0
  obtain ⟨v2, vs2, d2, ds2, p2, q2, rfl, rfl, rfl, h2, r2⟩ := trodAll_cons r1
  obtain ⟨v3, vs3, d3, ds3, p3, q3, rfl, rfl, rfl, h3, r3⟩ := trodAll_cons r2
  obtain ⟨v4, vs4, d4, ds4, p4, q4, rfl, rfl, rfl, h4, r4⟩ := trodAll_cons r3
  obtain ⟨rfl, rfl, rfl⟩ := trodAll_nil r4
  obtain rfl : args = #[v0, v1, v2, v3, v4] := by cases args; simp_all
  obtain ⟨rfl, rfl⟩ := trodVars_none hV
  obtain ⟨a0, rfl, rfl, rfl, w0⟩ := open_int Try.underlying3 (hval 0 3 v0 rfl rfl) h0
  obtain ⟨a1, rfl, rfl, rfl, w1⟩ := open_int Try.underlying3 (hval 1 3 v1 rfl rfl) h1
  obtain ⟨x2, y2, rfl, rfl, rfl, wx2, wy2⟩ := openA (hval 2 22 v2 rfl rfl) h2
  obtain ⟨x3, y3, rfl, rfl, rfl, wx3, wy3⟩ := openA (hval 3 22 v3 rfl rfl) h3
  obtain ⟨a4, rfl, rfl, rfl, w4⟩ := open_int Try.underlying3 (hval 4 3 v4 rfl rfl) h4
  clear hA0 hval0 hsz0 hsz
  refine (linkMore_walk a0 a1 x2 y2 x3 y3 a4 W (fits w0) (fits w1) (fits wx2) (fits wy2) (fits wx3) (fits wy3) (fits w4)).mono fun e W' ⟨he, bel⟩ => ?_
  subst he
  exact ⟨_, rfl, _, _, _, [], _, [], hW', trodAll_mk1 (shut_bool Try.underlying4 _), (trodAll_cons_mk (shut_int Try.underlying3 w0) (trodAll_cons_mk (shut_int Try.underlying3 w1) (trodAll_cons_mk (shutA wx2 wy2) (trodAll_cons_mk (shutA wx3 wy3) (trodAll_cons_mk (shut_int Try.underlying3 w4) trodAll_mk0))))), rfl, bel.frame _, fun h => by cases h⟩

theorem proved : Rows.LinkMoreSaid :=
  OpenClaim.holds_of_wide 6 Try.f6 rfl rfl rfl rfl rfl rfl rfl ⟨rfl, rfl, rfl, rfl, rfl⟩ rfl rfl rfl rfl rfl (by kernel_rfl) Try.func6 (by kernel_rfl)
    (of_decide_eq_true (by kernel_rfl)) (by unfold Func.isWrapper; first | (rw [if_pos (by decide +kernel)]; kernel_rfl) | (rw [if_neg (by decide +kernel)]; exact ⟨rfl, rfl⟩))
    (fun os started H enc _ => lifted os started H enc)

end Go.Proofs.Ytacgfalgifgkoaa.linkMore
namespace Go.Proofs.Ytacgfalgifgkoaa
theorem linkMore_holds : Rows.LinkMoreSaid := linkMore.proved
#print axioms linkMore_holds
end Go.Proofs.Ytacgfalgifgkoaa
