/- PROVED: what Threshold answers, whole; what its answer says. CONDITIONS: none beyond each theorem's own. -/
import Derived.Test.YtbnofjpiioneiaaL41Thr
namespace Go.Proofs.Ytbnofjpiioneiaa.D
open Go.RowKit K
set_option linter.unusedVariables false

theorem jv_fun (r : Ru) (who ratio : Int) : ∃ kf mf ef : Nat → Int, ∀ j : Nat, Jv (jit r j) who ratio (kf j) (mf j) (ef j) :=
  ⟨fun j => Classical.choose (jv_some (jit r j) who ratio), fun j => Classical.choose (Classical.choose_spec (jv_some (jit r j) who ratio)), fun j => Classical.choose (Classical.choose_spec (Classical.choose_spec (jv_some (jit r j) who ratio))), fun j => Classical.choose_spec (Classical.choose_spec (Classical.choose_spec (jv_some (jit r j) who ratio)))⟩
/-- what is told of rules: an error that is none of too many states, or the first jitter -/
def Th (r : Ru) (who ratio : Int) (kf ef : Nat → Int) (A D : Int) : Prop := (∃ E, Je r who ratio E ∧ E ≠ 4 ∧ A = 0 ∧ D = E) ∨ Rg who ratio ∧ wrong r = 0 ∧ ∃ J : Nat, r.j = (J : Int) ∧ J ≤ 3 ∧ thr kf ef (J + 1) 0 = (A, D)
theorem th_some (r : Ru) (who ratio : Int) (kf ef : Nat → Int) : ∃ A D, Th r who ratio kf ef A D := by
  obtain ⟨k, m, E, h⟩ := jv_some r who ratio
  by_cases h4 : E = 0 ∨ E = 4
  · obtain ⟨hg, hw⟩ := h.ok h4
    have hj := (wrong_ok.1 hw).2.2.2
    exact ⟨_, _, .inr ⟨hg, hw, r.j.toNat, by omega, by omega, rfl⟩⟩
  · rcases h with ⟨h, rfl, rfl⟩ | ⟨T, d, h, rfl, rfl, rfl⟩ | ⟨T, h, rfl, rfl, rfl⟩
    · exact ⟨0, E, .inl ⟨E, h, fun e => h4 (.inr e), rfl, rfl⟩⟩
    · exact absurd (.inl rfl) h4
    · exact absurd (.inl rfl) h4
theorem wrong_jit {r : Ru} (hw : wrong r = 0) {j : Int} (h : 0 ≤ j ∧ j ≤ r.j) : wrong (jit r j) = 0 := by
  obtain ⟨h1, h2, h3, h4⟩ := wrong_ok.1 hw
  exact wrong_ok.2 ⟨h1, h2, h3, h.1, show j ≤ 3 by omega⟩
theorem jit_self (r : Ru) : jit r r.j = r := rfl
theorem threshold_any {r : Ru} {who ratio : Int} {kf mf ef : Nat → Int} (hf : ∀ j : Nat, Jv (jit r j) who ratio (kf j) (mf j) (ef j)) {A D : Int} (h : Th r who ratio kf ef A D) (w : World) :
    Calls Try.prog 14 #[.agg #[.int .i64 r.k0, .int .i64 r.k1, .int .i64 r.r, .int .i64 r.m, .int .i64 r.j], .int .i64 who, .int .i64 ratio] w fun e w' => e = .returned (.tuple #[.int .i64 A, .int .i64 D]) ∧ Below w.heap.size w w' := by
  rcases h with ⟨E, hE, h4, rfl, rfl⟩ | ⟨hg, hw, J, hJ, hJ3, hA⟩
  · exact thr_bad r.k0 r.k1 r.r r.m r.j who ratio 0 0 D hE.ne (bne_iff_ne.2 h4) w fun v => judge_jv (.inl ⟨hE, rfl, rfl⟩) v
  · obtain ⟨k, m, E, hv⟩ := jv_some r who ratio
    have hE := hv.errs hg hw
    rw [hJ]
    refine thr_go r.k0 r.k1 r.r r.m who ratio k m E hE J hJ3 kf mf ef A D hA w (fun v => ?_) (fun j v => judge_jv (hf j) v)
    have := judge_jv hv v
    rw [hJ] at this
    exact this

set_option maxHeartbeats 3200000 in
theorem vth_bad (p0 p1 rr bf jt who ratio k0 m0 E : Int) (h0 : (E != 0) = true) (h4 : (E != 4) = true) (w : World)
    (th : ∀ v, Calls Try.prog 14 #[.agg #[.int .i64 p0, .int .i64 p1, .int .i64 rr, .int .i64 bf, .int .i64 jt], .int .i64 who, .int .i64 ratio] v fun e w' => e = .returned (.tuple #[.int .i64 0, .int .i64 E]) ∧ Below v.heap.size v w')
    (t0 : ∀ v, Calls Try.prog 10 #[.agg #[.int .i64 p0, .int .i64 p1, .int .i64 rr, .int .i64 bf, .int .i64 jt], .int .i64 who, .int .i64 ratio] v fun e w' => e = .returned (.tuple #[.int .i64 k0, .int .i64 m0, .int .i64 E]) ∧ Below v.heap.size v w') :
    Calls Try.prog 4 #[.agg #[.int .i64 p0, .int .i64 p1, .int .i64 rr, .int .i64 bf, .int .i64 jt], .int .i64 who, .int .i64 ratio] w fun e w' => e = .returned (.bool true) ∧ Below w.heap.size w w' := by
  have B : Below w.heap.size w (w.alloc (.cells #[.int .i64 p0, .int .i64 p1, .int .i64 rr, .int .i64 bf, .int .i64 jt] 24)) := balloc (Below.refl _ _) _
  have X := Rul.new w _ rfl p0 p1 rr bf jt
  obtain ⟨x0, x1, x2, x3, x4, -, -, -, -, -⟩ := id X
  go_enter Try.func4, Try.ntmps4
  go_wp2_with (first
    | (go_at_call 14; refine (th _).mono ?_; clear th x0 x1 x2 x3 x4; rintro e w1 ⟨rfl, b1⟩; replace B := bthen B b1; replace X := X.kept b1; obtain ⟨x0, x1, x2, x3, x4, -, -, -, -, -⟩ := id X)
    | (go_at_call 10; refine (t0 _).mono ?_; clear t0 x0 x1 x2 x3 x4; rintro e w2 ⟨rfl, b2⟩; replace B := bthen B b2))
  go_ret
  exact ⟨rfl, B⟩

set_option maxHeartbeats 3200000 in
theorem vth_go (p0 p1 rr bf who ratio k0 m0 E0 : Int) (hE0 : E0 = 0 ∨ E0 = 4) (J : Nat) (hJ3 : J ≤ 3) (kf mf ef : Nat → Int) (A D : Int) (hA : thr kf ef (J + 1) 0 = (A, D)) (w : World)
    (th : ∀ v, Calls Try.prog 14 #[.agg #[.int .i64 p0, .int .i64 p1, .int .i64 rr, .int .i64 bf, .int .i64 (J : Int)], .int .i64 who, .int .i64 ratio] v fun e w' => e = .returned (.tuple #[.int .i64 A, .int .i64 D]) ∧ Below v.heap.size v w')
    (t0 : ∀ v, Calls Try.prog 10 #[.agg #[.int .i64 p0, .int .i64 p1, .int .i64 rr, .int .i64 bf, .int .i64 (J : Int)], .int .i64 who, .int .i64 ratio] v fun e w' => e = .returned (.tuple #[.int .i64 k0, .int .i64 m0, .int .i64 E0]) ∧ Below v.heap.size v w')
    (tg : Hid (∀ (j : Nat) v, Calls Try.prog 10 #[.agg #[.int .i64 p0, .int .i64 p1, .int .i64 rr, .int .i64 bf, .int .i64 (j : Int)], .int .i64 who, .int .i64 ratio] v fun e w' => e = .returned (.tuple #[.int .i64 (kf j), .int .i64 (mf j), .int .i64 (ef j)]) ∧ Below v.heap.size v w')) :
    Calls Try.prog 4 #[.agg #[.int .i64 p0, .int .i64 p1, .int .i64 rr, .int .i64 bf, .int .i64 (J : Int)], .int .i64 who, .int .i64 ratio] w fun e w' => e = .returned (.bool true) ∧ Below w.heap.size w w' := by
  have B : Below w.heap.size w (w.alloc (.cells #[.int .i64 p0, .int .i64 p1, .int .i64 rr, .int .i64 bf, .int .i64 (J : Int)] 24)) := balloc (Below.refl _ _) _
  have X := Rul.new w _ rfl p0 p1 rr bf (J : Int)
  obtain ⟨w0, hw0⟩ : ∃ w0, w.alloc (.cells #[.int .i64 p0, .int .i64 p1, .int .i64 rr, .int .i64 bf, .int .i64 (J : Int)] 24) = w0 := ⟨_, rfl⟩
  rw [hw0] at X B
  obtain ⟨x0, x1, x2, x3, x4, -, -, -, -, -⟩ := id X
  obtain ⟨N, hN⟩ : ∃ N, J + 1 = N := ⟨_, rfl⟩
  have hNI : (J : Int) + 1 = (N : Int) := by omega
  rw [hN] at hA
  have hA' : Hid (thr kf ef (N - 0) 0 = (A, D)) := hA
  clear hA
  have d0 : ((E0 != 0) = false) ∨ ((E0 != 0) = true ∧ (E0 != 4) = false) := by rcases hE0 with rfl | rfl <;> simp
  clear hE0
  rcases d0 with d0 | ⟨d0, d4⟩
  all_goals
    go_enter Try.func4, Try.ntmps4
    go_wp2_with (first
      | (go_at_call 14; refine (th _).mono ?_; clear th x0 x1 x2 x3 x4 hw0; rintro e w1 ⟨rfl, b1⟩; replace B := bthen B b1; replace X := X.kept b1; obtain ⟨x0, x1, x2, x3, x4, -, -, -, -, -⟩ := id X)
      | (go_at_call 10; refine (t0 _).mono ?_; clear t0 x0 x1 x2 x3 x4; rintro e w2 ⟨rfl, b2⟩; replace B := bthen B b2; replace X := X.kept b2; obtain ⟨x0, x1, x2, x3, x4, -, -, -, -, -⟩ := id X))
    clear x0 x1 x2 x3 x4
    go_loopw [47] (fun i wr => ∃ j : Nat, j ≤ N ∧ i = .int .i64 j ∧ Below w.heap.size w wr ∧ Rul wr w.heap.size p0 p1 rr bf (J : Int) ∧ thr kf ef (N - j) j = (A, D)) (fun i _ => N - (intOf i).toNat)
    case atStart => exact ⟨0, Nat.zero_le _, rfl, B, X, hA'.out⟩
    case round =>
      obtain ⟨j, hj, rfl, hB, hX, hT⟩ := hrel
      clear B X hA'
      by_cases hlt : j < N
      · have hI : (j : Int) < (N : Int) := by omega
        obtain ⟨c, hc⟩ : ∃ c, N - j = c + 1 := ⟨N - j - 1, by omega⟩
        have hc' : Hid (N - (j + 1) = c) := by show _ = _; omega
        rw [hc] at hT
        have jc := tg.out j
        have q1 : Hid (ef j ≠ 0 → A = 0 ∧ D = ef j) := fun h => thr_err hT h
        have q2 : Hid (ef j = 0 → kf j = 2 → A = j ∧ D = 0) := fun h h' => thr_stv hT h h'
        have q3 : Hid (ef j = 0 → kf j ≠ 2 → thr kf ef c (j + 1) = (A, D)) := fun h h' => thr_on hT h h'
        clear hT
        generalize ef j = E at *
        generalize kf j = k at *
        generalize mf j = mm at *
        obtain ⟨x0, x1, x2, x3, x4, -, -, -, -, -⟩ := id hX
        have dd : ((E != 0) = true ∧ E ≠ 0) ∨ ((E != 0) = false ∧ E = 0 ∧ (k == 2) = true ∧ k = 2) ∨ ((E != 0) = false ∧ E = 0 ∧ (k == 2) = false ∧ k ≠ 2) := by
          by_cases h : E = 0
          · subst h
            by_cases h : k = 2
            · subst h; simp
            · simp [h]
          · simp [h]
        rcases dd with ⟨e1, e2⟩ | ⟨e1, e2, e3, e4⟩ | ⟨e1, e2, e3, e4⟩
        · obtain ⟨hA0, hD0⟩ := q1.out e2
          have s1 : (D == E) = true := by simp [hD0]
          have s2 : (A == 0) = true := by simp [hA0]
          clear e2 hA0 hD0
          go_wp2_with (go_at_call 10; refine (jc _).mono ?_; clear jc x0 x1 x2 x3 x4; rintro e w2 ⟨rfl, b2⟩; replace hB := bthen hB b2)
          go_ret
          exact ⟨rfl, hB⟩
        · obtain ⟨hA0, hD0⟩ := q2.out e2 e4
          have s1 : (D == 0) = true := by simp [hD0]
          have s2 : (A == (j : Int)) = true := by simp [hA0]
          clear e2 e4 hA0 hD0
          go_wp2_with (go_at_call 10; refine (jc _).mono ?_; clear jc x0 x1 x2 x3 x4; rintro e w2 ⟨rfl, b2⟩; replace hB := bthen hB b2)
          go_ret
          exact ⟨rfl, hB⟩
        · replace e2 : Hid _ := e2
          replace e4 : Hid _ := e4
          go_wp2_with (go_at_call 10; refine (jc _).mono ?_; clear jc x0 x1 x2 x3 x4; rintro e w2 ⟨rfl, b2⟩; replace hB := bthen hB b2; replace hX := hX.kept b2)
          go_roundw
          case rel => exact ⟨j + 1, by omega, by go_num, hB, hX, by rw [hc'.out]; exact q3.out e2.out e4.out⟩
          case measure => simp [intOf]; omega
      · obtain rfl : j = N := by omega
        have hI : decide ((j : Int) < (j : Int)) = false := decide_eq_false (by omega)
        rw [Nat.sub_self] at hT
        unfold thr at hT
        injection hT with h1 h2
        have s1 : (D == 3) = true := by simp [← h2]
        have s2 : (A == 0) = true := by simp [← h1]
        clear h1 h2
        go_wp2
        go_ret
        exact ⟨rfl, hB⟩

end Go.Proofs.Ytbnofjpiioneiaa.D
