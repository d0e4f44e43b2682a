/- PROVED: what verdict.Threshold answers. CONDITIONS: none beyond each theorem's own. -/
import Derived.Test.YtbnofjpiioneiaaL40Jv
namespace Go.Proofs.Ytbnofjpiioneiaa.D
open Go.RowKit K
set_option linter.unusedVariables false

/-- the first jitter with an error, or that starves -/
def thr (kf ef : Nat → Int) : Nat → Nat → Int × Int
  | 0, _ => (0, 3)
  | c + 1, j => if ef j = 0 then (if kf j = 2 then ((j : Int), 0) else thr kf ef c (j + 1)) else (0, ef j)
theorem thr_err {kf ef : Nat → Int} {c j : Nat} {A B : Int} (h : thr kf ef (c + 1) j = (A, B)) (he : ef j ≠ 0) : A = 0 ∧ B = ef j := by
  unfold thr at h
  rw [if_neg he] at h
  injection h with h1 h2
  exact ⟨h1.symm, h2.symm⟩
theorem thr_stv {kf ef : Nat → Int} {c j : Nat} {A B : Int} (h : thr kf ef (c + 1) j = (A, B)) (he : ef j = 0) (hk : kf j = 2) : A = j ∧ B = 0 := by
  unfold thr at h
  rw [if_pos he, if_pos hk] at h
  injection h with h1 h2
  exact ⟨h1.symm, h2.symm⟩
theorem thr_on {kf ef : Nat → Int} {c j : Nat} {A B : Int} (h : thr kf ef (c + 1) j = (A, B)) (he : ef j = 0) (hk : kf j ≠ 2) : thr kf ef c (j + 1) = (A, B) := by
  unfold thr at h
  rw [if_pos he, if_neg hk] at h
  exact h
theorem ver_new (w : World) (k m : Int) (a : Option Addr) (na ca : Nat) (b : Option Addr) (nb cb : Nat) : (w.alloc (.cells #[.int .i64 k, .int .i64 m, .slice a na ca, .slice b nb cb] 27)).cell? ⟨w.heap.size, 0, none⟩ = some (.int .i64 k) := by
  rw [World.cell?_alloc_at _ _ _ _ rfl]; rfl

set_option maxHeartbeats 1600000 in
theorem thr_bad (p0 p1 rr bf jt who ratio k0 m0 E : Int) (h0 : (E != 0) = true) (h4 : (E != 4) = true) (w : World)
    (j0 : ∀ v, Calls Try.prog 9 #[.agg #[.int .i64 p0, .int .i64 p1, .int .i64 rr, .int .i64 bf, .int .i64 jt], .int .i64 who, .int .i64 ratio] v fun e w' => ∃ a na ca b nb cb, e = .returned (.tuple #[.agg #[.int .i64 k0, .int .i64 m0, .slice a na ca, .slice b nb cb], .int .i64 E]) ∧ Below v.heap.size v w') :
    Calls Try.prog 14 #[.agg #[.int .i64 p0, .int .i64 p1, .int .i64 rr, .int .i64 bf, .int .i64 jt], .int .i64 who, .int .i64 ratio] w fun e w' => e = .returned (.tuple #[.int .i64 0, .int .i64 E]) ∧ Below w.heap.size w w' := by
  have B : Below w.heap.size w (w.alloc (.cells #[.int .i64 p0, .int .i64 p1, .int .i64 rr, .int .i64 bf, .int .i64 jt] 24)) := balloc (Below.refl _ _) _
  have X := Rul.new w _ rfl p0 p1 rr bf jt
  obtain ⟨x0, x1, x2, x3, x4, -, -, -, -, -⟩ := id X
  go_enter Try.func14, Try.ntmps14
  go_wp2_with (go_at_call 9; refine (j0 _).mono ?_; clear j0 x0 x1 x2 x3 x4; rintro e w1 ⟨a, na, ca, b, nb, cb, rfl, b1⟩; replace B := balloc (bthen B b1) (.cells #[.int .i64 k0, .int .i64 m0, .slice a na ca, .slice b nb cb] 27))
  go_ret2
  exact ⟨rfl, B⟩

set_option maxHeartbeats 3200000 in
theorem thr_go (p0 p1 rr bf who ratio k0 m0 E0 : Int) (hE0 : E0 = 0 ∨ E0 = 4) (J : Nat) (hJ3 : J ≤ 3) (kf mf ef : Nat → Int) (A D : Int) (hA : thr kf ef (J + 1) 0 = (A, D)) (w : World)
    (j0 : ∀ v, Calls Try.prog 9 #[.agg #[.int .i64 p0, .int .i64 p1, .int .i64 rr, .int .i64 bf, .int .i64 (J : Int)], .int .i64 who, .int .i64 ratio] v fun e w' => ∃ a na ca b nb cb, e = .returned (.tuple #[.agg #[.int .i64 k0, .int .i64 m0, .slice a na ca, .slice b nb cb], .int .i64 E0]) ∧ Below v.heap.size v w')
    (jg : Hid (∀ (j : Nat) v, Calls Try.prog 9 #[.agg #[.int .i64 p0, .int .i64 p1, .int .i64 rr, .int .i64 bf, .int .i64 (j : Int)], .int .i64 who, .int .i64 ratio] v fun e w' => ∃ a na ca b nb cb, e = .returned (.tuple #[.agg #[.int .i64 (kf j), .int .i64 (mf j), .slice a na ca, .slice b nb cb], .int .i64 (ef j)]) ∧ Below v.heap.size v w')) :
    Calls Try.prog 14 #[.agg #[.int .i64 p0, .int .i64 p1, .int .i64 rr, .int .i64 bf, .int .i64 (J : Int)], .int .i64 who, .int .i64 ratio] w fun e w' => e = .returned (.tuple #[.int .i64 A, .int .i64 D]) ∧ Below w.heap.size w w' := by
  have B : Below w.heap.size w (w.alloc (.cells #[.int .i64 p0, .int .i64 p1, .int .i64 rr, .int .i64 bf, .int .i64 (J : Int)] 24)) := balloc (Below.refl _ _) _
  have X := Rul.new w _ rfl p0 p1 rr bf (J : Int)
  obtain ⟨w0, hw0⟩ : ∃ w0, w.alloc (.cells #[.int .i64 p0, .int .i64 p1, .int .i64 rr, .int .i64 bf, .int .i64 (J : Int)] 24) = w0 := ⟨_, rfl⟩
  rw [hw0] at X B
  obtain ⟨x0, x1, x2, x3, x4, -, -, -, -, -⟩ := id X
  obtain ⟨N, hN⟩ : ∃ N, J + 1 = N := ⟨_, rfl⟩
  have hNI : (J : Int) + 1 = (N : Int) := by omega
  rw [hN] at hA
  have hA' : Hid (thr kf ef (N - 0) 0 = (A, D)) := hA
  clear hA
  have d0 : ((E0 != 0) = false) ∨ ((E0 != 0) = true ∧ (E0 != 4) = false) := by rcases hE0 with rfl | rfl <;> simp
  clear hE0
  rcases d0 with d0 | ⟨d0, d4⟩
  all_goals
    go_enter Try.func14, Try.ntmps14
    go_wp2_with (go_at_call 9; refine (j0 _).mono ?_; clear j0 x0 x1 x2 x3 x4 hw0; rintro e w1 ⟨a, na, ca, b, nb, cb, rfl, b1⟩; replace B := balloc (bthen B b1) (.cells #[.int .i64 k0, .int .i64 m0, .slice a na ca, .slice b nb cb] 27); replace X := (X.kept b1).alloc (.cells #[.int .i64 k0, .int .i64 m0, .slice a na ca, .slice b nb cb] 27); obtain ⟨x0, x1, x2, x3, x4, -, -, -, -, -⟩ := id X)
    obtain ⟨W1, hW1⟩ : ∃ W1, w1.alloc (.cells #[.int .i64 k0, .int .i64 m0, .slice a na ca, .slice b nb cb] 27) = W1 := ⟨_, rfl⟩
    rw [hW1] at B X ⊢
    clear x0 x1 x2 x3 x4 hW1
    go_loopw [31] (fun i wr => ∃ j : Nat, j ≤ N ∧ i = .int .i64 j ∧ Below w.heap.size w wr ∧ Rul wr w.heap.size p0 p1 rr bf (J : Int) ∧ thr kf ef (N - j) j = (A, D)) (fun i _ => N - (intOf i).toNat)
    case atStart => exact ⟨0, Nat.zero_le _, rfl, B, X, hA'.out⟩
    case round =>
      obtain ⟨j, hj, rfl, hB, hX, hT⟩ := hrel
      clear B X hA' b1
      by_cases hlt : j < N
      · have hI : (j : Int) < (N : Int) := by omega
        obtain ⟨c, hc⟩ : ∃ c, N - j = c + 1 := ⟨N - j - 1, by omega⟩
        have hc' : Hid (N - (j + 1) = c) := by show _ = _; omega
        rw [hc] at hT
        have jc := jg.out j
        have q1 : Hid (ef j ≠ 0 → A = 0 ∧ D = ef j) := fun h => thr_err hT h
        have q2 : Hid (ef j = 0 → kf j = 2 → A = j ∧ D = 0) := fun h h' => thr_stv hT h h'
        have q3 : Hid (ef j = 0 → kf j ≠ 2 → thr kf ef c (j + 1) = (A, D)) := fun h h' => thr_on hT h h'
        clear hT
        generalize ef j = E at *
        generalize kf j = k at *
        generalize mf j = mm at *
        have hB2 : Below w.heap.size w (wr.alloc (.cells #[.int .i64 p0, .int .i64 p1, .int .i64 rr, .int .i64 bf, .int .i64 (j : Int)] 24)) := balloc hB _
        have hX2 := hX.alloc (.cells #[.int .i64 p0, .int .i64 p1, .int .i64 rr, .int .i64 bf, .int .i64 (j : Int)] 24)
        obtain ⟨x0, x1, x2, x3, x4, -, -, -, -, -⟩ := id hX
        have dd : ((E != 0) = true ∧ E ≠ 0) ∨ ((E != 0) = false ∧ E = 0 ∧ (k == 2) = true ∧ k = 2) ∨ ((E != 0) = false ∧ E = 0 ∧ (k == 2) = false ∧ k ≠ 2) := by
          by_cases h : E = 0
          · subst h
            by_cases h : k = 2
            · subst h; simp
            · simp [h]
          · simp [h]
        rcases dd with ⟨e1, e2⟩ | ⟨e1, e2, e3, e4⟩ | ⟨e1, e2, e3, e4⟩
        · replace e2 : Hid _ := e2
          go_wp2_with (go_at_call 9; refine (jc _).mono ?_; clear jc x0 x1 x2 x3 x4; rintro e w2 ⟨a', na', ca', b', nb', cb', rfl, b2⟩; replace hB2 := balloc (bthen hB2 b2) (.cells #[.int .i64 k, .int .i64 mm, .slice a' na' ca', .slice b' nb' cb'] 27))
          go_ret2
          obtain ⟨rfl, rfl⟩ := q1.out e2.out
          exact ⟨rfl, hB2⟩
        · replace e2 : Hid _ := e2
          replace e4 : Hid _ := e4
          go_wp2_with (go_at_call 9; refine (jc _).mono ?_; clear jc x0 x1 x2 x3 x4; rintro e w2 ⟨a', na', ca', b', nb', cb', rfl, b2⟩; replace hB2 := balloc (bthen hB2 b2) (.cells #[.int .i64 k, .int .i64 mm, .slice a' na' ca', .slice b' nb' cb'] 27); have v0 := ver_new w2 k mm a' na' ca' b' nb' cb')
          go_ret2
          obtain ⟨rfl, rfl⟩ := q2.out e2.out e4.out
          exact ⟨rfl, hB2⟩
        · replace e2 : Hid _ := e2
          replace e4 : Hid _ := e4
          go_wp2_with (go_at_call 9; refine (jc _).mono ?_; clear jc x0 x1 x2 x3 x4; rintro e w2 ⟨a', na', ca', b', nb', cb', rfl, b2⟩; replace hB2 := balloc (bthen hB2 b2) (.cells #[.int .i64 k, .int .i64 mm, .slice a' na' ca', .slice b' nb' cb'] 27); replace hX2 := (hX2.kept b2).alloc (.cells #[.int .i64 k, .int .i64 mm, .slice a' na' ca', .slice b' nb' cb'] 27); have v0 := ver_new w2 k mm a' na' ca' b' nb' cb')
          go_roundw
          case rel => exact ⟨j + 1, by omega, by go_num, hB2, hX2, by rw [hc'.out]; exact q3.out e2.out e4.out⟩
          case measure => simp [intOf]; omega
      · obtain rfl : j = N := by omega
        have hI : decide ((j : Int) < (j : Int)) = false := decide_eq_false (by omega)
        have hz : Hid (A = 0 ∧ D = 3) := by
          rw [Nat.sub_self] at hT
          unfold thr at hT
          injection hT with h1 h2
          exact ⟨h1.symm, h2.symm⟩
        clear hT
        go_wp2
        go_ret2
        obtain ⟨rfl, rfl⟩ := hz.out
        exact ⟨rfl, hB⟩

end Go.Proofs.Ytbnofjpiioneiaa.D
