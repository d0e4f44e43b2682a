/- PROVED: tidewaitkeep.VerdictLeast, whole. CONDITIONS: none beyond each theorem's own. -/
import Derived.Test.YtbnofjpiioneiaaL42Tht
import Derived.Test.YtbnofjpiioneiaaL43Alv
namespace Go.Proofs.Ytbnofjpiioneiaa.D
open Go.RowKit K
set_option linter.unusedVariables false

set_option maxHeartbeats 3200000 in
theorem vle_bad (p0 p1 rr bf jt who ratio j A D : Int) (w : World)
    (hbad : decide (j < 0) = true ∨ (decide (j < 0) = false ∧ decide (jt < j) = true) ∨ (decide (j < 0) = false ∧ decide (jt < j) = false ∧ (D != 0) = true ∧ (D != 3) = true))
    (al : ∀ v, Calls Try.prog 15 #[] v fun e w' => e = .returned (.bool true) ∧ Below v.heap.size v w')
    (th : ∀ v, Calls Try.prog 14 #[.agg #[.int .i64 p0, .int .i64 p1, .int .i64 rr, .int .i64 bf, .int .i64 jt], .int .i64 who, .int .i64 ratio] v fun e w' => e = .returned (.tuple #[.int .i64 A, .int .i64 D]) ∧ Below v.heap.size v w') :
    Calls Try.prog 8 #[.agg #[.int .i64 p0, .int .i64 p1, .int .i64 rr, .int .i64 bf, .int .i64 jt], .int .i64 who, .int .i64 ratio, .int .i64 j] w fun e w' => e = .returned (.bool true) ∧ Below w.heap.size w w' := by
  have B : Below w.heap.size w (w.alloc (.cells #[.int .i64 p0, .int .i64 p1, .int .i64 rr, .int .i64 bf, .int .i64 jt] 24)) := balloc (Below.refl _ _) _
  have X := Rul.new w _ rfl p0 p1 rr bf jt
  obtain ⟨x0, x1, x2, x3, x4, -, -, -, -, -⟩ := id X
  rcases hbad with c0 | ⟨c0, c1⟩ | ⟨c0, c1, c2, c3⟩
  all_goals
    go_enter Try.func8, Try.ntmps8
    go_wp2_with (first
      | (go_at_call 15; refine (al _).mono ?_; clear al x0 x1 x2 x3 x4; rintro e w1 ⟨rfl, b1⟩; replace B := bthen B b1; replace X := X.kept b1; obtain ⟨x0, x1, x2, x3, x4, -, -, -, -, -⟩ := id X)
      | (go_at_call 14; refine (th _).mono ?_; clear th x0 x1 x2 x3 x4; rintro e w2 ⟨rfl, b2⟩; replace B := bthen B b2; replace X := X.kept b2; obtain ⟨x0, x1, x2, x3, x4, -, -, -, -, -⟩ := id X))
    go_ret
    exact ⟨rfl, B⟩

set_option maxHeartbeats 6400000 in
theorem vle_ok (p0 p1 rr bf jt who ratio j A D k m E : Int) (w : World) (c0 : decide (j < 0) = false) (c1 : decide (jt < j) = false)
    (hok : ((D != 0) = true ∧ (D != 3) = false ∧ (D == 3) = true ∧ (E == 0) = true ∧ (k == 1) = true) ∨ ((D != 0) = false ∧ (D == 3) = false ∧ (E == 4) = true ∧ decide (A < j) = true) ∨ ((D != 0) = false ∧ (D == 3) = false ∧ (E == 4) = false ∧ (E == 0) = true ∧ (k == 2) = true ∧ decide (A ≤ j) = true) ∨ ((D != 0) = false ∧ (D == 3) = false ∧ (E == 4) = false ∧ (E == 0) = true ∧ (k == 2) = false ∧ decide (A ≤ j) = false))
    (al : ∀ v, Calls Try.prog 15 #[] v fun e w' => e = .returned (.bool true) ∧ Below v.heap.size v w')
    (th : ∀ v, Calls Try.prog 14 #[.agg #[.int .i64 p0, .int .i64 p1, .int .i64 rr, .int .i64 bf, .int .i64 jt], .int .i64 who, .int .i64 ratio] v fun e w' => e = .returned (.tuple #[.int .i64 A, .int .i64 D]) ∧ Below v.heap.size v w')
    (jg : ∀ v, Calls Try.prog 9 #[.agg #[.int .i64 p0, .int .i64 p1, .int .i64 rr, .int .i64 bf, .int .i64 j], .int .i64 who, .int .i64 ratio] v fun e w' => ∃ a na ca b nb cb, e = .returned (.tuple #[.agg #[.int .i64 k, .int .i64 m, .slice a na ca, .slice b nb cb], .int .i64 E]) ∧ Below v.heap.size v w') :
    Calls Try.prog 8 #[.agg #[.int .i64 p0, .int .i64 p1, .int .i64 rr, .int .i64 bf, .int .i64 jt], .int .i64 who, .int .i64 ratio, .int .i64 j] w fun e w' => e = .returned (.bool true) ∧ Below w.heap.size w w' := by
  have B : Below w.heap.size w (w.alloc (.cells #[.int .i64 p0, .int .i64 p1, .int .i64 rr, .int .i64 bf, .int .i64 jt] 24)) := balloc (Below.refl _ _) _
  have X := Rul.new w _ rfl p0 p1 rr bf jt
  obtain ⟨x0, x1, x2, x3, x4, -, -, -, -, -⟩ := id X
  rcases hok with ⟨c2, c3, c4, c5, c6⟩ | ⟨c2, c4, c5, c6⟩ | ⟨c2, c4, c5, c6, c7, c8⟩ | ⟨c2, c4, c5, c6, c7, c8⟩
  all_goals
    go_enter Try.func8, Try.ntmps8
    go_wp2_with (first
      | (go_at_call 15; refine (al _).mono ?_; clear al x0 x1 x2 x3 x4; rintro e w1 ⟨rfl, b1⟩; replace B := bthen B b1; replace X := X.kept b1; obtain ⟨x0, x1, x2, x3, x4, -, -, -, -, -⟩ := id X)
      | (go_at_call 14; refine (th _).mono ?_; clear th x0 x1 x2 x3 x4; rintro e w2 ⟨rfl, b2⟩; replace B := bthen B b2; replace X := X.kept b2; obtain ⟨x0, x1, x2, x3, x4, -, -, -, -, -⟩ := id X)
      | (go_at_call 9; refine (jg _).mono ?_; clear jg x0 x1 x2 x3 x4; rintro e w3 ⟨a, na, ca, b, nb, cb, rfl, b3⟩; replace B := balloc (bthen (balloc B (.cells #[.int .i64 p0, .int .i64 p1, .int .i64 rr, .int .i64 bf, .int .i64 j] 24)) b3) (.cells #[.int .i64 k, .int .i64 m, .slice a na ca, .slice b nb cb] 27); have V := ver_new w3 k m a na ca b nb cb))
    go_ret
    exact ⟨rfl, B⟩

/-- what the first jitter says of those below it -/
theorem thr_below {kf ef : Nat → Int} : ∀ (c j : Nat) (A D : Int), thr kf ef c j = (A, D) → (D = 3 ∧ (∀ i, j ≤ i → i < j + c → ef i = 0 → kf i ≠ 2) ∧ ((∃ i, j ≤ i ∧ i < j + c ∧ ef i = 3) ∨ ∀ i, j ≤ i → i < j + c → ef i = 0)) ∨ (D = 0 ∧ ∃ n : Nat, A = (n : Int) ∧ j ≤ n ∧ n < j + c ∧ ef n = 0 ∧ kf n = 2 ∧ ∀ i, j ≤ i → i < n → ef i = 0 ∧ kf i ≠ 2) ∨ (D ≠ 0 ∧ D ≠ 3) ∨ ∃ i, j ≤ i ∧ i < j + c ∧ ef i = 3 := by
  intro c
  induction c with
  | zero =>
    intro j A D h
    injection h with h1 h2
    exact .inl ⟨h2.symm, fun i _ _ => by omega, .inr fun i _ _ => by omega⟩
  | succ c ih =>
    intro j A D h
    by_cases he : ef j = 0
    · by_cases hk : kf j = 2
      · obtain ⟨rfl, rfl⟩ := thr_stv h he hk
        exact .inr (.inl ⟨rfl, j, rfl, Nat.le_refl _, by omega, he, hk, fun i _ _ => by omega⟩)
      · rcases ih (j + 1) A D (thr_on h he hk) with ⟨h1, h2, h3⟩ | ⟨h1, n, h2, h3, h4, h5, h6, h7⟩ | h1 | ⟨i, h1, h2, h3⟩
        · refine .inl ⟨h1, fun i hi hi2 hz => ?_, ?_⟩
          · by_cases e : i = j
            · subst e; exact hk
            · exact h2 i (by omega) (by omega) hz
          · rcases h3 with ⟨i, q1, q2, q3⟩ | h3
            · exact .inl ⟨i, by omega, by omega, q3⟩
            · refine .inr fun i hi hi2 => ?_
              by_cases e : i = j
              · subst e; exact he
              · exact h3 i (by omega) (by omega)
        · refine .inr (.inl ⟨h1, n, h2, by omega, by omega, h5, h6, fun i hi hi2 => ?_⟩)
          by_cases e : i = j
          · subst e; exact ⟨he, hk⟩
          · exact h7 i (by omega) (by omega)
        · exact .inr (.inr (.inl h1))
        · exact .inr (.inr (.inr ⟨i, by omega, by omega, h3⟩))
    · obtain ⟨rfl, rfl⟩ := thr_err h he
      by_cases h3 : ef j = 3
      · exact .inr (.inr (.inr ⟨j, Nat.le_refl _, by omega, h3⟩))
      · exact .inr (.inr (.inl ⟨he, h3⟩))
theorem verdictLeast_go (r : Ru) (who ratio j : Int) (w : World) : Calls Try.prog 8 #[.agg #[.int .i64 r.k0, .int .i64 r.k1, .int .i64 r.r, .int .i64 r.m, .int .i64 r.j], .int .i64 who, .int .i64 ratio, .int .i64 j] w fun e w' => e = .returned (.bool true) ∧ Below w.heap.size w w' := by
  obtain ⟨kf, mf, ef, hf⟩ := jv_fun r who ratio
  obtain ⟨A, D, h⟩ := th_some r who ratio kf ef
  have th := fun v => threshold_any hf h v
  have al := fun v => alive20 v
  by_cases j1 : j < 0
  · exact vle_bad _ _ _ _ _ _ _ _ A D w (.inl (decide_eq_true j1)) al th
  by_cases j2 : r.j < j
  · exact vle_bad _ _ _ _ _ _ _ _ A D w (.inr (.inl ⟨decide_eq_false j1, decide_eq_true j2⟩)) al th
  by_cases hD : D = 0 ∨ D = 3
  · rcases h with ⟨E, hE, h4, rfl, rfl⟩ | ⟨hg, hw, J, hJ, hJ3, hA⟩
    · exfalso
      have := hE.ne
      rcases hE with ⟨_, rfl⟩ | ⟨_, ⟨hw, he⟩ | ⟨_, _, rfl⟩⟩
      · omega
      · have h5 : wrong r = 0 ∨ wrong r = 2 ∨ wrong r = 5 := by
          unfold wrong
          split
          · split <;> simp
          · simp
        rw [hw] at h5
        rcases hD with rfl | rfl
        · simp at he
        · omega
      · omega
    · obtain ⟨N, hN⟩ : ∃ N : Nat, j = (N : Int) := ⟨j.toNat, by omega⟩
      subst hN
      have hNJ : N < 0 + (J + 1) := by omega
      have he : ∀ i : Nat, i < 0 + (J + 1) → ef i = 0 ∨ ef i = 4 := fun i hi => (hf i).errs hg (wrong_jit hw (by omega))
      refine vle_ok _ _ _ _ _ _ _ (N : Int) A D (kf N) (mf N) (ef N) w (decide_eq_false j1) (decide_eq_false j2) ?_ al th (fun v => judge_jv (hf N) v)
      rcases thr_below _ _ _ _ hA with ⟨rfl, h2, h3⟩ | ⟨rfl, n, rfl, h3, h4, h5, h6, h7⟩ | ⟨h1, h2⟩ | ⟨i, _, h2, h3⟩
      · have e0 : ef N = 0 := by
          rcases h3 with ⟨i, _, q2, q3⟩ | h3
          · have := he i q2; omega
          · exact h3 N (Nat.zero_le _) hNJ
        have hk := h2 N (Nat.zero_le _) hNJ e0
        have hz := hf N
        rw [e0] at hz
        rcases hz.zero with ⟨q, _⟩ | ⟨q, _⟩
        · exact absurd q hk
        · exact .inl (by rw [e0, q]; decide)
      · by_cases hlt : N < n
        · obtain ⟨e0, hk⟩ := h7 N (Nat.zero_le _) hlt
          exact .inr (.inr (.inr ⟨by decide, by decide, by rw [e0]; decide, by rw [e0]; decide, beq_eq_false_iff_ne.2 hk, decide_eq_false (by omega)⟩))
        · rcases he N hNJ with e0 | e0
          · have hs : Starve (jit r n) who ratio := by
              have hz := hf n
              rw [h5] at hz
              rcases hz.zero with ⟨_, q⟩ | ⟨q, _⟩
              · exact q
              · rw [h6] at q; omega
            have hz := hf N
            rw [e0] at hz
            rcases hz.zero with ⟨q, _⟩ | ⟨_, q⟩
            · exact .inr (.inr (.inl ⟨by decide, by decide, by rw [e0]; decide, by rw [e0]; decide, by rw [q]; decide, decide_eq_true (by omega)⟩))
            · exact absurd (starve_jit (r := r) (by omega) hs) q
          · have hne : n ≠ N := fun q => by rw [q, e0] at h5; omega
            exact .inr (.inl ⟨by decide, by decide, by rw [e0]; decide, decide_eq_true (by omega)⟩)
      · omega
      · have := he i h2; omega
  · exact vle_bad _ _ _ _ _ _ _ _ A D w (.inr (.inr ⟨decide_eq_false j1, decide_eq_false j2, bne_iff_ne.2 fun e => hD (.inl e), bne_iff_ne.2 fun e => hD (.inr e)⟩)) al th

end Go.Proofs.Ytbnofjpiioneiaa.D
