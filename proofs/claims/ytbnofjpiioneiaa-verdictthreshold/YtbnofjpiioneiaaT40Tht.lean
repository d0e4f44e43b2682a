/- PROVED: what Judge answers, in letters. what verdict.Threshold answers. what Threshold answers, whole; what its answer says. CONDITIONS: none beyond each theorem's own. -/
import Derived.Test.YtbnofjpiioneiaaB39Jut
namespace Go.Proofs.Ytbnofjpiioneiaa.D
open Go.RowKit K
set_option linter.unusedVariables false

/-- what is told: the kind, the most, the error -/
def Jv (r : Ru) (who ratio k m E : Int) : Prop := (Je r who ratio E ∧ k = 0 ∧ m = 0) ∨ (∃ T d, Jb r who ratio T d ∧ k = 1 ∧ m = mx d (xp r T).1.length ∧ E = 0) ∨ ∃ T, Js r who ratio T ∧ k = 2 ∧ m = 0 ∧ E = 0
theorem jv_some (r : Ru) (who ratio : Int) : ∃ k m E, Jv r who ratio k m E := by
  rcases judge_or r who ratio with ⟨E, h⟩ | ⟨T, d, h⟩ | ⟨T, h⟩
  · exact ⟨0, 0, E, .inl ⟨h, rfl, rfl⟩⟩
  · exact ⟨1, _, 0, .inr (.inl ⟨T, d, h, rfl, rfl, rfl⟩)⟩
  · exact ⟨2, 0, 0, .inr (.inr ⟨T, h, rfl, rfl, rfl⟩)⟩
theorem judge_jv {r : Ru} {who ratio k m E : Int} (h : Jv r who ratio k m E) (w : World) :
    Calls Try.prog 9 #[.agg #[.int .i64 r.k0, .int .i64 r.k1, .int .i64 r.r, .int .i64 r.m, .int .i64 r.j], .int .i64 who, .int .i64 ratio] w fun e w' => ∃ a na ca b nb cb, e = .returned (.tuple #[.agg #[.int .i64 k, .int .i64 m, .slice a na ca, .slice b nb cb], .int .i64 E]) ∧ Below w.heap.size w w' := by
  rcases h with ⟨h, rfl, rfl⟩ | ⟨T, d, h, rfl, rfl, rfl⟩ | ⟨T, h, rfl, rfl, rfl⟩
  · exact (judge_err h w).mono fun e w' ⟨he, b⟩ => ⟨none, 0, 0, none, 0, 0, he, b⟩
  · exact (judge_bnd h w).mono fun e w' ⟨he, b⟩ => ⟨none, 0, 0, none, 0, 0, he, b⟩
  · exact (judge_stv h w).mono fun e w' ⟨a, na, ca, b, nb, cb, A, C, he, _, _, _, _, _, hb⟩ => ⟨a, na, ca, b, nb, cb, he, hb⟩
/-- what the letters say -/
theorem Jv.ok {r : Ru} {who ratio k m E : Int} (h : Jv r who ratio k m E) (hE : E = 0 ∨ E = 4) : Rg who ratio ∧ wrong r = 0 := by
  rcases h with ⟨h, rfl, rfl⟩ | ⟨T, d, h, rfl, rfl, rfl⟩ | ⟨T, h, rfl, rfl, rfl⟩
  · rcases h with ⟨_, rfl⟩ | ⟨hg, ⟨hw, he⟩ | ⟨hw, _, rfl⟩⟩
    · omega
    · have : wrong r = 0 ∨ wrong r = 2 ∨ wrong r = 5 := by
        unfold wrong
        split
        · split <;> simp
        · simp
      rw [hw] at this
      rcases hE with rfl | rfl
      · simp at he
      · omega
    · exact ⟨hg, hw⟩
  · exact ⟨h.rg, h.ok⟩
  · exact ⟨h.rg, h.ok⟩
theorem Jv.zero {r : Ru} {who ratio k m : Int} (h : Jv r who ratio k m 0) : k = 2 ∧ Starve r who ratio ∨ k = 1 ∧ ¬ Starve r who ratio := by
  rcases h with ⟨h, rfl, rfl⟩ | ⟨T, d, h, rfl, rfl, _⟩ | ⟨T, h, rfl, rfl, _⟩
  · have := h.ne; simp at this
  · exact .inr ⟨rfl, h.not⟩
  · exact .inl ⟨rfl, h.yes⟩
theorem Jv.errs {r : Ru} {who ratio k m E : Int} (h : Jv r who ratio k m E) (hg : Rg who ratio) (hw : wrong r = 0) : E = 0 ∨ E = 4 := by
  rcases h with ⟨h, rfl, rfl⟩ | ⟨T, d, h, rfl, rfl, rfl⟩ | ⟨T, h, rfl, rfl, rfl⟩
  · rcases h with ⟨hn, _⟩ | ⟨_, ⟨h1, h2⟩ | ⟨_, _, rfl⟩⟩
    · exact absurd hg hn
    · rw [← h1, hw] at h2; simp at h2
    · exact .inr rfl
  · exact .inl rfl
  · exact .inl rfl
theorem Jv.kind {r : Ru} {who ratio k m E : Int} (h : Jv r who ratio k m E) : (0 ≤ k ∧ k ≤ 2) ∧ (E ≠ 0 → k = 0) := by
  rcases h with ⟨h, rfl, rfl⟩ | ⟨T, d, h, rfl, rfl, rfl⟩ | ⟨T, h, rfl, rfl, rfl⟩ <;> simp

end Go.Proofs.Ytbnofjpiioneiaa.D

namespace Go.Proofs.Ytbnofjpiioneiaa.D
open Go.RowKit K
set_option linter.unusedVariables false

/-- the first jitter with an error, or that starves -/
def thr (kf ef : Nat → Int) : Nat → Nat → Int × Int
  | 0, _ => (0, 3)
  | c + 1, j => if ef j = 0 then (if kf j = 2 then ((j : Int), 0) else thr kf ef c (j + 1)) else (0, ef j)
theorem thr_err {kf ef : Nat → Int} {c j : Nat} {A B : Int} (h : thr kf ef (c + 1) j = (A, B)) (he : ef j ≠ 0) : A = 0 ∧ B = ef j := by
  unfold thr at h
  rw [if_neg he] at h
  injection h with h1 h2
  exact ⟨h1.symm, h2.symm⟩
theorem thr_stv {kf ef : Nat → Int} {c j : Nat} {A B : Int} (h : thr kf ef (c + 1) j = (A, B)) (he : ef j = 0) (hk : kf j = 2) : A = j ∧ B = 0 := by
  unfold thr at h
  rw [if_pos he, if_pos hk] at h
  injection h with h1 h2
  exact ⟨h1.symm, h2.symm⟩
theorem thr_on {kf ef : Nat → Int} {c j : Nat} {A B : Int} (h : thr kf ef (c + 1) j = (A, B)) (he : ef j = 0) (hk : kf j ≠ 2) : thr kf ef c (j + 1) = (A, B) := by
  unfold thr at h
  rw [if_pos he, if_neg hk] at h
  exact h
theorem ver_new (w : World) (k m : Int) (a : Option Addr) (na ca : Nat) (b : Option Addr) (nb cb : Nat) : (w.alloc (.cells #[.int .i64 k, .int .i64 m, .slice a na ca, .slice b nb cb] 27)).cell? ⟨w.heap.size, 0, none⟩ = some (.int .i64 k) := by
  rw [World.cell?_alloc_at _ _ _ _ rfl]; rfl

set_option maxHeartbeats 1600000 in
theorem thr_bad (p0 p1 rr bf jt who ratio k0 m0 E : Int) (h0 : (E != 0) = true) (h4 : (E != 4) = true) (w : World)
    (j0 : ∀ v, Calls Try.prog 9 #[.agg #[.int .i64 p0, .int .i64 p1, .int .i64 rr, .int .i64 bf, .int .i64 jt], .int .i64 who, .int .i64 ratio] v fun e w' => ∃ a na ca b nb cb, e = .returned (.tuple #[.agg #[.int .i64 k0, .int .i64 m0, .slice a na ca, .slice b nb cb], .int .i64 E]) ∧ Below v.heap.size v w') :
    Calls Try.prog 14 #[.agg #[.int .i64 p0, .int .i64 p1, .int .i64 rr, .int .i64 bf, .int .i64 jt], .int .i64 who, .int .i64 ratio] w fun e w' => e = .returned (.tuple #[.int .i64 0, .int .i64 E]) ∧ Below w.heap.size w w' := by
  have B : Below w.heap.size w (w.alloc (.cells #[.int .i64 p0, .int .i64 p1, .int .i64 rr, .int .i64 bf, .int .i64 jt] 24)) := balloc (Below.refl _ _) _
  have X := Rul.new w _ rfl p0 p1 rr bf jt
  obtain ⟨x0, x1, x2, x3, x4, -, -, -, -, -⟩ := id X
  go_enter Try.func14, Try.ntmps14
  go_wp2_with (go_at_call 9; refine (j0 _).mono ?_; clear j0 x0 x1 x2 x3 x4; rintro e w1 ⟨a, na, ca, b, nb, cb, rfl, b1⟩; replace B := balloc (bthen B b1) (.cells #[.int .i64 k0, .int .i64 m0, .slice a na ca, .slice b nb cb] 27))
  go_ret2
  exact ⟨rfl, B⟩

set_option maxHeartbeats 3200000 in
theorem thr_go (p0 p1 rr bf who ratio k0 m0 E0 : Int) (hE0 : E0 = 0 ∨ E0 = 4) (J : Nat) (hJ3 : J ≤ 3) (kf mf ef : Nat → Int) (A D : Int) (hA : thr kf ef (J + 1) 0 = (A, D)) (w : World)
    (j0 : ∀ v, Calls Try.prog 9 #[.agg #[.int .i64 p0, .int .i64 p1, .int .i64 rr, .int .i64 bf, .int .i64 (J : Int)], .int .i64 who, .int .i64 ratio] v fun e w' => ∃ a na ca b nb cb, e = .returned (.tuple #[.agg #[.int .i64 k0, .int .i64 m0, .slice a na ca, .slice b nb cb], .int .i64 E0]) ∧ Below v.heap.size v w')
    (jg : Hid (∀ (j : Nat) v, Calls Try.prog 9 #[.agg #[.int .i64 p0, .int .i64 p1, .int .i64 rr, .int .i64 bf, .int .i64 (j : Int)], .int .i64 who, .int .i64 ratio] v fun e w' => ∃ a na ca b nb cb, e = .returned (.tuple #[.agg #[.int .i64 (kf j), .int .i64 (mf j), .slice a na ca, .slice b nb cb], .int .i64 (ef j)]) ∧ Below v.heap.size v w')) :
    Calls Try.prog 14 #[.agg #[.int .i64 p0, .int .i64 p1, .int .i64 rr, .int .i64 bf, .int .i64 (J : Int)], .int .i64 who, .int .i64 ratio] w fun e w' => e = .returned (.tuple #[.int .i64 A, .int .i64 D]) ∧ Below w.heap.size w w' := by
  have B : Below w.heap.size w (w.alloc (.cells #[.int .i64 p0, .int .i64 p1, .int .i64 rr, .int .i64 bf, .int .i64 (J : Int)] 24)) := balloc (Below.refl _ _) _
  have X := Rul.new w _ rfl p0 p1 rr bf (J : Int)
  obtain ⟨w0, hw0⟩ : ∃ w0, w.alloc (.cells #[.int .i64 p0, .int .i64 p1, .int .i64 rr, .int .i64 bf, .int .i64 (J : Int)] 24) = w0 := ⟨_, rfl⟩
  rw [hw0] at X B
  obtain ⟨x0, x1, x2, x3, x4, -, -, -, -, -⟩ := id X
  obtain ⟨N, hN⟩ : ∃ N, J + 1 = N := ⟨_, rfl⟩
  have hNI : (J : Int) + 1 = (N : Int) := by omega
  rw [hN] at hA
  have hA' : Hid (thr kf ef (N - 0) 0 = (A, D)) := hA
  clear hA
  have d0 : ((E0 != 0) = false) ∨ ((E0 != 0) = true ∧ (E0 != 4) = false) := by rcases hE0 with rfl | rfl <;> simp
  clear hE0
  rcases d0 with d0 | ⟨d0, d4⟩
  all_goals
    go_enter Try.func14, Try.ntmps14
    go_wp2_with (go_at_call 9; refine (j0 _).mono ?_; clear j0 x0 x1 x2 x3 x4 hw0; rintro e w1 ⟨a, na, ca, b, nb, cb, rfl, b1⟩; replace B := balloc (bthen B b1) (.cells #[.int .i64 k0, .int .i64 m0, .slice a na ca, .slice b nb cb] 27); replace X := (X.kept b1).alloc (.cells #[.int .i64 k0, .int .i64 m0, .slice a na ca, .slice b nb cb] 27); obtain ⟨x0, x1, x2, x3, x4, -, -, -, -, -⟩ := id X)
    obtain ⟨W1, hW1⟩ : ∃ W1, w1.alloc (.cells #[.int .i64 k0, .int .i64 m0, .slice a na ca, .slice b nb cb] 27) = W1 := ⟨_, rfl⟩
    rw [hW1] at B X ⊢
    clear x0 x1 x2 x3 x4 hW1
    go_loopw [31] (fun i wr => ∃ j : Nat, j ≤ N ∧ i = .int .i64 j ∧ Below w.heap.size w wr ∧ Rul wr w.heap.size p0 p1 rr bf (J : Int) ∧ thr kf ef (N - j) j = (A, D)) (fun i _ => N - (intOf i).toNat)
    case atStart => exact ⟨0, Nat.zero_le _, rfl, B, X, hA'.out⟩
    case round =>
      obtain ⟨j, hj, rfl, hB, hX, hT⟩ := hrel
      clear B X hA' b1
      by_cases hlt : j < N
      · have hI : (j : Int) < (N : Int) := by omega
        obtain ⟨c, hc⟩ : ∃ c, N - j = c + 1 := ⟨N - j - 1, by omega⟩
        have hc' : Hid (N - (j + 1) = c) := by show _ = _; omega
        rw [hc] at hT
        have jc := jg.out j
        have q1 : Hid (ef j ≠ 0 → A = 0 ∧ D = ef j) := fun h => thr_err hT h
        have q2 : Hid (ef j = 0 → kf j = 2 → A = j ∧ D = 0) := fun h h' => thr_stv hT h h'
        have q3 : Hid (ef j = 0 → kf j ≠ 2 → thr kf ef c (j + 1) = (A, D)) := fun h h' => thr_on hT h h'
        clear hT
        generalize ef j = E at *
        generalize kf j = k at *
        generalize mf j = mm at *
        have hB2 : Below w.heap.size w (wr.alloc (.cells #[.int .i64 p0, .int .i64 p1, .int .i64 rr, .int .i64 bf, .int .i64 (j : Int)] 24)) := balloc hB _
        have hX2 := hX.alloc (.cells #[.int .i64 p0, .int .i64 p1, .int .i64 rr, .int .i64 bf, .int .i64 (j : Int)] 24)
        obtain ⟨x0, x1, x2, x3, x4, -, -, -, -, -⟩ := id hX
        have dd : ((E != 0) = true ∧ E ≠ 0) ∨ ((E != 0) = false ∧ E = 0 ∧ (k == 2) = true ∧ k = 2) ∨ ((E != 0) = false ∧ E = 0 ∧ (k == 2) = false ∧ k ≠ 2) := by
          by_cases h : E = 0
          · subst h
            by_cases h : k = 2
            · subst h; simp
            · simp [h]
          · simp [h]
        rcases dd with ⟨e1, e2⟩ | ⟨e1, e2, e3, e4⟩ | ⟨e1, e2, e3, e4⟩
        · replace e2 : Hid _ := e2
          go_wp2_with (go_at_call 9; refine (jc _).mono ?_; clear jc x0 x1 x2 x3 x4; rintro e w2 ⟨a', na', ca', b', nb', cb', rfl, b2⟩; replace hB2 := balloc (bthen hB2 b2) (.cells #[.int .i64 k, .int .i64 mm, .slice a' na' ca', .slice b' nb' cb'] 27))
          go_ret2
          obtain ⟨rfl, rfl⟩ := q1.out e2.out
          exact ⟨rfl, hB2⟩
        · replace e2 : Hid _ := e2
          replace e4 : Hid _ := e4
          go_wp2_with (go_at_call 9; refine (jc _).mono ?_; clear jc x0 x1 x2 x3 x4; rintro e w2 ⟨a', na', ca', b', nb', cb', rfl, b2⟩; replace hB2 := balloc (bthen hB2 b2) (.cells #[.int .i64 k, .int .i64 mm, .slice a' na' ca', .slice b' nb' cb'] 27); have v0 := ver_new w2 k mm a' na' ca' b' nb' cb')
          go_ret2
          obtain ⟨rfl, rfl⟩ := q2.out e2.out e4.out
          exact ⟨rfl, hB2⟩
        · replace e2 : Hid _ := e2
          replace e4 : Hid _ := e4
          go_wp2_with (go_at_call 9; refine (jc _).mono ?_; clear jc x0 x1 x2 x3 x4; rintro e w2 ⟨a', na', ca', b', nb', cb', rfl, b2⟩; replace hB2 := balloc (bthen hB2 b2) (.cells #[.int .i64 k, .int .i64 mm, .slice a' na' ca', .slice b' nb' cb'] 27); replace hX2 := (hX2.kept b2).alloc (.cells #[.int .i64 k, .int .i64 mm, .slice a' na' ca', .slice b' nb' cb'] 27); have v0 := ver_new w2 k mm a' na' ca' b' nb' cb')
          go_roundw
          case rel => exact ⟨j + 1, by omega, by go_num, hB2, hX2, by rw [hc'.out]; exact q3.out e2.out e4.out⟩
          case measure => simp [intOf]; omega
      · obtain rfl : j = N := by omega
        have hI : decide ((j : Int) < (j : Int)) = false := decide_eq_false (by omega)
        have hz : Hid (A = 0 ∧ D = 3) := by
          rw [Nat.sub_self] at hT
          unfold thr at hT
          injection hT with h1 h2
          exact ⟨h1.symm, h2.symm⟩
        clear hT
        go_wp2
        go_ret2
        obtain ⟨rfl, rfl⟩ := hz.out
        exact ⟨rfl, hB⟩

end Go.Proofs.Ytbnofjpiioneiaa.D

namespace Go.Proofs.Ytbnofjpiioneiaa.D
open Go.RowKit K
set_option linter.unusedVariables false

theorem jv_fun (r : Ru) (who ratio : Int) : ∃ kf mf ef : Nat → Int, ∀ j : Nat, Jv (jit r j) who ratio (kf j) (mf j) (ef j) :=
  ⟨fun j => Classical.choose (jv_some (jit r j) who ratio), fun j => Classical.choose (Classical.choose_spec (jv_some (jit r j) who ratio)), fun j => Classical.choose (Classical.choose_spec (Classical.choose_spec (jv_some (jit r j) who ratio))), fun j => Classical.choose_spec (Classical.choose_spec (Classical.choose_spec (jv_some (jit r j) who ratio)))⟩
/-- what is told of rules: an error that is none of too many states, or the first jitter -/
def Th (r : Ru) (who ratio : Int) (kf ef : Nat → Int) (A D : Int) : Prop := (∃ E, Je r who ratio E ∧ E ≠ 4 ∧ A = 0 ∧ D = E) ∨ Rg who ratio ∧ wrong r = 0 ∧ ∃ J : Nat, r.j = (J : Int) ∧ J ≤ 3 ∧ thr kf ef (J + 1) 0 = (A, D)
theorem th_some (r : Ru) (who ratio : Int) (kf ef : Nat → Int) : ∃ A D, Th r who ratio kf ef A D := by
  obtain ⟨k, m, E, h⟩ := jv_some r who ratio
  by_cases h4 : E = 0 ∨ E = 4
  · obtain ⟨hg, hw⟩ := h.ok h4
    have hj := (wrong_ok.1 hw).2.2.2
    exact ⟨_, _, .inr ⟨hg, hw, r.j.toNat, by omega, by omega, rfl⟩⟩
  · rcases h with ⟨h, rfl, rfl⟩ | ⟨T, d, h, rfl, rfl, rfl⟩ | ⟨T, h, rfl, rfl, rfl⟩
    · exact ⟨0, E, .inl ⟨E, h, fun e => h4 (.inr e), rfl, rfl⟩⟩
    · exact absurd (.inl rfl) h4
    · exact absurd (.inl rfl) h4
theorem wrong_jit {r : Ru} (hw : wrong r = 0) {j : Int} (h : 0 ≤ j ∧ j ≤ r.j) : wrong (jit r j) = 0 := by
  obtain ⟨h1, h2, h3, h4⟩ := wrong_ok.1 hw
  exact wrong_ok.2 ⟨h1, h2, h3, h.1, show j ≤ 3 by omega⟩
theorem jit_self (r : Ru) : jit r r.j = r := rfl
theorem threshold_any {r : Ru} {who ratio : Int} {kf mf ef : Nat → Int} (hf : ∀ j : Nat, Jv (jit r j) who ratio (kf j) (mf j) (ef j)) {A D : Int} (h : Th r who ratio kf ef A D) (w : World) :
    Calls Try.prog 14 #[.agg #[.int .i64 r.k0, .int .i64 r.k1, .int .i64 r.r, .int .i64 r.m, .int .i64 r.j], .int .i64 who, .int .i64 ratio] w fun e w' => e = .returned (.tuple #[.int .i64 A, .int .i64 D]) ∧ Below w.heap.size w w' := by
  rcases h with ⟨E, hE, h4, rfl, rfl⟩ | ⟨hg, hw, J, hJ, hJ3, hA⟩
  · exact thr_bad r.k0 r.k1 r.r r.m r.j who ratio 0 0 D hE.ne (bne_iff_ne.2 h4) w fun v => judge_jv (.inl ⟨hE, rfl, rfl⟩) v
  · obtain ⟨k, m, E, hv⟩ := jv_some r who ratio
    have hE := hv.errs hg hw
    rw [hJ]
    refine thr_go r.k0 r.k1 r.r r.m who ratio k m E hE J hJ3 kf mf ef A D hA w (fun v => ?_) (fun j v => judge_jv (hf j) v)
    have := judge_jv hv v
    rw [hJ] at this
    exact this

set_option maxHeartbeats 3200000 in
theorem vth_bad (p0 p1 rr bf jt who ratio k0 m0 E : Int) (h0 : (E != 0) = true) (h4 : (E != 4) = true) (w : World)
    (th : ∀ v, Calls Try.prog 14 #[.agg #[.int .i64 p0, .int .i64 p1, .int .i64 rr, .int .i64 bf, .int .i64 jt], .int .i64 who, .int .i64 ratio] v fun e w' => e = .returned (.tuple #[.int .i64 0, .int .i64 E]) ∧ Below v.heap.size v w')
    (t0 : ∀ v, Calls Try.prog 10 #[.agg #[.int .i64 p0, .int .i64 p1, .int .i64 rr, .int .i64 bf, .int .i64 jt], .int .i64 who, .int .i64 ratio] v fun e w' => e = .returned (.tuple #[.int .i64 k0, .int .i64 m0, .int .i64 E]) ∧ Below v.heap.size v w') :
    Calls Try.prog 4 #[.agg #[.int .i64 p0, .int .i64 p1, .int .i64 rr, .int .i64 bf, .int .i64 jt], .int .i64 who, .int .i64 ratio] w fun e w' => e = .returned (.bool true) ∧ Below w.heap.size w w' := by
  have B : Below w.heap.size w (w.alloc (.cells #[.int .i64 p0, .int .i64 p1, .int .i64 rr, .int .i64 bf, .int .i64 jt] 24)) := balloc (Below.refl _ _) _
  have X := Rul.new w _ rfl p0 p1 rr bf jt
  obtain ⟨x0, x1, x2, x3, x4, -, -, -, -, -⟩ := id X
  go_enter Try.func4, Try.ntmps4
  go_wp2_with (first
    | (go_at_call 14; refine (th _).mono ?_; clear th x0 x1 x2 x3 x4; rintro e w1 ⟨rfl, b1⟩; replace B := bthen B b1; replace X := X.kept b1; obtain ⟨x0, x1, x2, x3, x4, -, -, -, -, -⟩ := id X)
    | (go_at_call 10; refine (t0 _).mono ?_; clear t0 x0 x1 x2 x3 x4; rintro e w2 ⟨rfl, b2⟩; replace B := bthen B b2))
  go_ret
  exact ⟨rfl, B⟩

set_option maxHeartbeats 3200000 in
theorem vth_go (p0 p1 rr bf who ratio k0 m0 E0 : Int) (hE0 : E0 = 0 ∨ E0 = 4) (J : Nat) (hJ3 : J ≤ 3) (kf mf ef : Nat → Int) (A D : Int) (hA : thr kf ef (J + 1) 0 = (A, D)) (w : World)
    (th : ∀ v, Calls Try.prog 14 #[.agg #[.int .i64 p0, .int .i64 p1, .int .i64 rr, .int .i64 bf, .int .i64 (J : Int)], .int .i64 who, .int .i64 ratio] v fun e w' => e = .returned (.tuple #[.int .i64 A, .int .i64 D]) ∧ Below v.heap.size v w')
    (t0 : ∀ v, Calls Try.prog 10 #[.agg #[.int .i64 p0, .int .i64 p1, .int .i64 rr, .int .i64 bf, .int .i64 (J : Int)], .int .i64 who, .int .i64 ratio] v fun e w' => e = .returned (.tuple #[.int .i64 k0, .int .i64 m0, .int .i64 E0]) ∧ Below v.heap.size v w')
    (tg : Hid (∀ (j : Nat) v, Calls Try.prog 10 #[.agg #[.int .i64 p0, .int .i64 p1, .int .i64 rr, .int .i64 bf, .int .i64 (j : Int)], .int .i64 who, .int .i64 ratio] v fun e w' => e = .returned (.tuple #[.int .i64 (kf j), .int .i64 (mf j), .int .i64 (ef j)]) ∧ Below v.heap.size v w')) :
    Calls Try.prog 4 #[.agg #[.int .i64 p0, .int .i64 p1, .int .i64 rr, .int .i64 bf, .int .i64 (J : Int)], .int .i64 who, .int .i64 ratio] w fun e w' => e = .returned (.bool true) ∧ Below w.heap.size w w' := by
  have B : Below w.heap.size w (w.alloc (.cells #[.int .i64 p0, .int .i64 p1, .int .i64 rr, .int .i64 bf, .int .i64 (J : Int)] 24)) := balloc (Below.refl _ _) _
  have X := Rul.new w _ rfl p0 p1 rr bf (J : Int)
  obtain ⟨w0, hw0⟩ : ∃ w0, w.alloc (.cells #[.int .i64 p0, .int .i64 p1, .int .i64 rr, .int .i64 bf, .int .i64 (J : Int)] 24) = w0 := ⟨_, rfl⟩
  rw [hw0] at X B
  obtain ⟨x0, x1, x2, x3, x4, -, -, -, -, -⟩ := id X
  obtain ⟨N, hN⟩ : ∃ N, J + 1 = N := ⟨_, rfl⟩
  have hNI : (J : Int) + 1 = (N : Int) := by omega
  rw [hN] at hA
  have hA' : Hid (thr kf ef (N - 0) 0 = (A, D)) := hA
  clear hA
  have d0 : ((E0 != 0) = false) ∨ ((E0 != 0) = true ∧ (E0 != 4) = false) := by rcases hE0 with rfl | rfl <;> simp
  clear hE0
  rcases d0 with d0 | ⟨d0, d4⟩
  all_goals
    go_enter Try.func4, Try.ntmps4
    go_wp2_with (first
      | (go_at_call 14; refine (th _).mono ?_; clear th x0 x1 x2 x3 x4 hw0; rintro e w1 ⟨rfl, b1⟩; replace B := bthen B b1; replace X := X.kept b1; obtain ⟨x0, x1, x2, x3, x4, -, -, -, -, -⟩ := id X)
      | (go_at_call 10; refine (t0 _).mono ?_; clear t0 x0 x1 x2 x3 x4; rintro e w2 ⟨rfl, b2⟩; replace B := bthen B b2; replace X := X.kept b2; obtain ⟨x0, x1, x2, x3, x4, -, -, -, -, -⟩ := id X))
    clear x0 x1 x2 x3 x4
    go_loopw [47] (fun i wr => ∃ j : Nat, j ≤ N ∧ i = .int .i64 j ∧ Below w.heap.size w wr ∧ Rul wr w.heap.size p0 p1 rr bf (J : Int) ∧ thr kf ef (N - j) j = (A, D)) (fun i _ => N - (intOf i).toNat)
    case atStart => exact ⟨0, Nat.zero_le _, rfl, B, X, hA'.out⟩
    case round =>
      obtain ⟨j, hj, rfl, hB, hX, hT⟩ := hrel
      clear B X hA'
      by_cases hlt : j < N
      · have hI : (j : Int) < (N : Int) := by omega
        obtain ⟨c, hc⟩ : ∃ c, N - j = c + 1 := ⟨N - j - 1, by omega⟩
        have hc' : Hid (N - (j + 1) = c) := by show _ = _; omega
        rw [hc] at hT
        have jc := tg.out j
        have q1 : Hid (ef j ≠ 0 → A = 0 ∧ D = ef j) := fun h => thr_err hT h
        have q2 : Hid (ef j = 0 → kf j = 2 → A = j ∧ D = 0) := fun h h' => thr_stv hT h h'
        have q3 : Hid (ef j = 0 → kf j ≠ 2 → thr kf ef c (j + 1) = (A, D)) := fun h h' => thr_on hT h h'
        clear hT
        generalize ef j = E at *
        generalize kf j = k at *
        generalize mf j = mm at *
        obtain ⟨x0, x1, x2, x3, x4, -, -, -, -, -⟩ := id hX
        have dd : ((E != 0) = true ∧ E ≠ 0) ∨ ((E != 0) = false ∧ E = 0 ∧ (k == 2) = true ∧ k = 2) ∨ ((E != 0) = false ∧ E = 0 ∧ (k == 2) = false ∧ k ≠ 2) := by
          by_cases h : E = 0
          · subst h
            by_cases h : k = 2
            · subst h; simp
            · simp [h]
          · simp [h]
        rcases dd with ⟨e1, e2⟩ | ⟨e1, e2, e3, e4⟩ | ⟨e1, e2, e3, e4⟩
        · obtain ⟨hA0, hD0⟩ := q1.out e2
          have s1 : (D == E) = true := by simp [hD0]
          have s2 : (A == 0) = true := by simp [hA0]
          clear e2 hA0 hD0
          go_wp2_with (go_at_call 10; refine (jc _).mono ?_; clear jc x0 x1 x2 x3 x4; rintro e w2 ⟨rfl, b2⟩; replace hB := bthen hB b2)
          go_ret
          exact ⟨rfl, hB⟩
        · obtain ⟨hA0, hD0⟩ := q2.out e2 e4
          have s1 : (D == 0) = true := by simp [hD0]
          have s2 : (A == (j : Int)) = true := by simp [hA0]
          clear e2 e4 hA0 hD0
          go_wp2_with (go_at_call 10; refine (jc _).mono ?_; clear jc x0 x1 x2 x3 x4; rintro e w2 ⟨rfl, b2⟩; replace hB := bthen hB b2)
          go_ret
          exact ⟨rfl, hB⟩
        · replace e2 : Hid _ := e2
          replace e4 : Hid _ := e4
          go_wp2_with (go_at_call 10; refine (jc _).mono ?_; clear jc x0 x1 x2 x3 x4; rintro e w2 ⟨rfl, b2⟩; replace hB := bthen hB b2; replace hX := hX.kept b2)
          go_roundw
          case rel => exact ⟨j + 1, by omega, by go_num, hB, hX, by rw [hc'.out]; exact q3.out e2.out e4.out⟩
          case measure => simp [intOf]; omega
      · obtain rfl : j = N := by omega
        have hI : decide ((j : Int) < (j : Int)) = false := decide_eq_false (by omega)
        rw [Nat.sub_self] at hT
        unfold thr at hT
        injection hT with h1 h2
        have s1 : (D == 3) = true := by simp [← h2]
        have s2 : (A == 0) = true := by simp [← h1]
        clear h1 h2
        go_wp2
        go_ret
        exact ⟨rfl, hB⟩

end Go.Proofs.Ytbnofjpiioneiaa.D
