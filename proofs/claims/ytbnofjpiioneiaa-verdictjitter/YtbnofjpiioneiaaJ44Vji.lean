/- PROVED: tidewaitkeep.VerdictJitter, whole. CONDITIONS: none beyond each theorem's own. -/
import Derived.Test.YtbnofjpiioneiaaJ42Tht
import Derived.Test.YtbnofjpiioneiaaJ43Alv
namespace Go.Proofs.Ytbnofjpiioneiaa.D
open Go.RowKit K
set_option linter.unusedVariables false

set_option maxHeartbeats 6400000 in
theorem vji_bad (p0 p1 rr bf jt who ratio less more jl rm k0 m0 E0 k1 m1 E1 k2 m2 E2 : Int) (hjl : wrap64 (jt - less) = jl) (hrm : wrap64 (ratio + more) = rm) (w : World)
    (hbad : (E0 != 0) = true ∨ ((E0 != 0) = false ∧ decide (less < 0) = true) ∨ ((E0 != 0) = false ∧ decide (less < 0) = false ∧ decide (more < 0) = true) ∨ ((E0 != 0) = false ∧ decide (less < 0) = false ∧ decide (more < 0) = false ∧ decide (3 < less) = true) ∨ ((E0 != 0) = false ∧ decide (less < 0) = false ∧ decide (more < 0) = false ∧ decide (3 < less) = false ∧ decide (100 < more) = true))
    (al : ∀ v, Calls Try.prog 15 #[] v fun e w' => e = .returned (.bool true) ∧ Below v.heap.size v w')
    (j0 : Hid (∀ v, Calls Try.prog 9 #[.agg #[.int .i64 p0, .int .i64 p1, .int .i64 rr, .int .i64 bf, .int .i64 jt], .int .i64 who, .int .i64 ratio] v fun e w' => ∃ a na ca b nb cb, e = .returned (.tuple #[.agg #[.int .i64 k0, .int .i64 m0, .slice a na ca, .slice b nb cb], .int .i64 E0]) ∧ Below v.heap.size v w'))
    (j1 : Hid (∀ v, Calls Try.prog 9 #[.agg #[.int .i64 p0, .int .i64 p1, .int .i64 rr, .int .i64 bf, .int .i64 jl], .int .i64 who, .int .i64 ratio] v fun e w' => ∃ a na ca b nb cb, e = .returned (.tuple #[.agg #[.int .i64 k1, .int .i64 m1, .slice a na ca, .slice b nb cb], .int .i64 E1]) ∧ Below v.heap.size v w'))
    (j2 : Hid (∀ v, Calls Try.prog 9 #[.agg #[.int .i64 p0, .int .i64 p1, .int .i64 rr, .int .i64 bf, .int .i64 jt], .int .i64 who, .int .i64 rm] v fun e w' => ∃ a na ca b nb cb, e = .returned (.tuple #[.agg #[.int .i64 k2, .int .i64 m2, .slice a na ca, .slice b nb cb], .int .i64 E2]) ∧ Below v.heap.size v w')) :
    Calls Try.prog 7 #[.agg #[.int .i64 p0, .int .i64 p1, .int .i64 rr, .int .i64 bf, .int .i64 jt], .int .i64 who, .int .i64 ratio, .int .i64 less, .int .i64 more] w fun e w' => e = .returned (.bool true) ∧ Below w.heap.size w w' := by
  have B : Below w.heap.size w (w.alloc (.cells #[.int .i64 p0, .int .i64 p1, .int .i64 rr, .int .i64 bf, .int .i64 jt] 24)) := balloc (Below.refl _ _) _
  have X := Rul.new w _ rfl p0 p1 rr bf jt
  obtain ⟨x0, x1, x2, x3, x4, -, -, -, -, -⟩ := id X
  rcases hbad with c0 | ⟨c0, c1⟩ | ⟨c0, c1, c2⟩ | ⟨c0, c1, c2, c3⟩ | ⟨c0, c1, c2, c3, c4⟩
  all_goals
    go_enter Try.func7, Try.ntmps7
    go_wp2_with (first
      | (go_at_call 15; refine (al _).mono ?_; clear al x0 x1 x2 x3 x4; rintro e w1 ⟨rfl, b1⟩; replace B := bthen B b1; replace X := X.kept b1; obtain ⟨x0, x1, x2, x3, x4, -, -, -, -, -⟩ := id X)
      | (go_at_call 9; refine (j0.out _).mono ?_; clear j0 x0 x1 x2 x3 x4; rintro e w2 ⟨a, na, ca, b, nb, cb, rfl, b2⟩; replace B := balloc (balloc (bthen B b2) (.cells #[.int .i64 k0, .int .i64 m0, .slice a na ca, .slice b nb cb] 27)) (.cells #[.int .i64 p0, .int .i64 p1, .int .i64 rr, .int .i64 bf, .int .i64 jl] 24); have Z := X.kept b2; replace X := (Z.alloc (.cells #[.int .i64 k0, .int .i64 m0, .slice a na ca, .slice b nb cb] 27)).alloc (.cells #[.int .i64 p0, .int .i64 p1, .int .i64 rr, .int .i64 bf, .int .i64 jl] 24); obtain ⟨x0, x1, x2, x3, x4, -, -, -, -, -⟩ := id (Z.alloc (.cells #[.int .i64 k0, .int .i64 m0, .slice a na ca, .slice b nb cb] 27)); clear Z; have q0 := ver_new w2 k0 m0 a na ca b nb cb; have hl2 : w2.heap.size < (w2.alloc (.cells #[.int .i64 k0, .int .i64 m0, .slice a na ca, .slice b nb cb] 27)).heap.size := block_lt q0; have V0 := ((balloc (Below.refl _ (w2.alloc (.cells #[.int .i64 k0, .int .i64 m0, .slice a na ca, .slice b nb cb] 27))) (.cells #[.int .i64 p0, .int .i64 p1, .int .i64 rr, .int .i64 bf, .int .i64 jl] 24)).cell (p := ⟨w2.heap.size, 0, none⟩) hl2).trans q0; clear q0 hl2)
      | (go_at_call 9; refine (j1.out _).mono ?_; clear j1 x0 x1 x2 x3 x4; rintro e w3 ⟨a', na', ca', b', nb', cb', rfl, b3⟩; replace B := balloc (bthen B b3) (.cells #[.int .i64 k1, .int .i64 m1, .slice a' na' ca', .slice b' nb' cb'] 27); replace X := (X.kept b3).alloc (.cells #[.int .i64 k1, .int .i64 m1, .slice a' na' ca', .slice b' nb' cb'] 27); obtain ⟨x0, x1, x2, x3, x4, -, -, -, -, -⟩ := id X; replace V0 := (b3.cell (p := ⟨w2.heap.size, 0, none⟩) (block_lt V0)).trans V0; replace V0 := ((balloc (Below.refl _ w3) (.cells #[.int .i64 k1, .int .i64 m1, .slice a' na' ca', .slice b' nb' cb'] 27)).cell (p := ⟨w2.heap.size, 0, none⟩) (block_lt V0)).trans V0; have V1 := ver_new w3 k1 m1 a' na' ca' b' nb' cb')
      | (go_at_call 9; refine (j2.out _).mono ?_; clear j2 x0 x1 x2 x3 x4; rintro e w4 ⟨a2, na2, ca2, b2', nb2, cb2, rfl, b4⟩; replace B := balloc (bthen B b4) (.cells #[.int .i64 k2, .int .i64 m2, .slice a2 na2 ca2, .slice b2' nb2 cb2] 27); replace V0 := (b4.cell (p := ⟨w2.heap.size, 0, none⟩) (block_lt V0)).trans V0; replace V0 := ((balloc (Below.refl _ w4) (.cells #[.int .i64 k2, .int .i64 m2, .slice a2 na2 ca2, .slice b2' nb2 cb2] 27)).cell (p := ⟨w2.heap.size, 0, none⟩) (block_lt V0)).trans V0; replace V1 := (b4.cell (p := ⟨w3.heap.size, 0, none⟩) (block_lt V1)).trans V1; replace V1 := ((balloc (Below.refl _ w4) (.cells #[.int .i64 k2, .int .i64 m2, .slice a2 na2 ca2, .slice b2' nb2 cb2] 27)).cell (p := ⟨w3.heap.size, 0, none⟩) (block_lt V1)).trans V1; have V2 := ver_new w4 k2 m2 a2 na2 ca2 b2' nb2 cb2))
    go_ret
    exact ⟨rfl, B⟩

set_option maxHeartbeats 6400000 in
theorem vji_ok (p0 p1 rr bf jt who ratio less more jl rm k0 m0 E0 k1 m1 E1 k2 m2 E2 : Int) (hjl : wrap64 (jt - less) = jl) (hrm : wrap64 (ratio + more) = rm) (w : World)
    (c0 : (E0 != 0) = false) (c1 : decide (less < 0) = false) (c2 : decide (more < 0) = false) (c3 : decide (3 < less) = false) (c4 : decide (100 < more) = false)
    (f1 : (E1 != 0) = true ∨ ((E1 != 0) = false ∧ (k1 != 2) = true) ∨ ((E1 != 0) = false ∧ (k1 != 2) = false ∧ (k0 == 2) = true))
    (f2 : (E2 != 0) = true ∨ ((E2 != 0) = false ∧ (k2 != 2) = true) ∨ ((E2 != 0) = false ∧ (k2 != 2) = false ∧ (k0 == 2) = true))
    (al : ∀ v, Calls Try.prog 15 #[] v fun e w' => e = .returned (.bool true) ∧ Below v.heap.size v w')
    (j0 : Hid (∀ v, Calls Try.prog 9 #[.agg #[.int .i64 p0, .int .i64 p1, .int .i64 rr, .int .i64 bf, .int .i64 jt], .int .i64 who, .int .i64 ratio] v fun e w' => ∃ a na ca b nb cb, e = .returned (.tuple #[.agg #[.int .i64 k0, .int .i64 m0, .slice a na ca, .slice b nb cb], .int .i64 E0]) ∧ Below v.heap.size v w'))
    (j1 : Hid (∀ v, Calls Try.prog 9 #[.agg #[.int .i64 p0, .int .i64 p1, .int .i64 rr, .int .i64 bf, .int .i64 jl], .int .i64 who, .int .i64 ratio] v fun e w' => ∃ a na ca b nb cb, e = .returned (.tuple #[.agg #[.int .i64 k1, .int .i64 m1, .slice a na ca, .slice b nb cb], .int .i64 E1]) ∧ Below v.heap.size v w'))
    (j2 : Hid (∀ v, Calls Try.prog 9 #[.agg #[.int .i64 p0, .int .i64 p1, .int .i64 rr, .int .i64 bf, .int .i64 jt], .int .i64 who, .int .i64 rm] v fun e w' => ∃ a na ca b nb cb, e = .returned (.tuple #[.agg #[.int .i64 k2, .int .i64 m2, .slice a na ca, .slice b nb cb], .int .i64 E2]) ∧ Below v.heap.size v w')) :
    Calls Try.prog 7 #[.agg #[.int .i64 p0, .int .i64 p1, .int .i64 rr, .int .i64 bf, .int .i64 jt], .int .i64 who, .int .i64 ratio, .int .i64 less, .int .i64 more] w fun e w' => e = .returned (.bool true) ∧ Below w.heap.size w w' := by
  have B : Below w.heap.size w (w.alloc (.cells #[.int .i64 p0, .int .i64 p1, .int .i64 rr, .int .i64 bf, .int .i64 jt] 24)) := balloc (Below.refl _ _) _
  have X := Rul.new w _ rfl p0 p1 rr bf jt
  obtain ⟨x0, x1, x2, x3, x4, -, -, -, -, -⟩ := id X
  rcases f1 with d1 | ⟨d1, d2⟩ | ⟨d1, d2, d3⟩
  all_goals rcases f2 with g1 | ⟨g1, g2⟩ | ⟨g1, g2, g3⟩
  all_goals
    go_enter Try.func7, Try.ntmps7
    go_wp2_with (first
      | (go_at_call 15; refine (al _).mono ?_; clear al x0 x1 x2 x3 x4; rintro e w1 ⟨rfl, b1⟩; replace B := bthen B b1; replace X := X.kept b1; obtain ⟨x0, x1, x2, x3, x4, -, -, -, -, -⟩ := id X)
      | (go_at_call 9; refine (j0.out _).mono ?_; clear j0 x0 x1 x2 x3 x4; rintro e w2 ⟨a, na, ca, b, nb, cb, rfl, b2⟩; replace B := balloc (balloc (bthen B b2) (.cells #[.int .i64 k0, .int .i64 m0, .slice a na ca, .slice b nb cb] 27)) (.cells #[.int .i64 p0, .int .i64 p1, .int .i64 rr, .int .i64 bf, .int .i64 jl] 24); have Z := X.kept b2; replace X := (Z.alloc (.cells #[.int .i64 k0, .int .i64 m0, .slice a na ca, .slice b nb cb] 27)).alloc (.cells #[.int .i64 p0, .int .i64 p1, .int .i64 rr, .int .i64 bf, .int .i64 jl] 24); obtain ⟨x0, x1, x2, x3, x4, -, -, -, -, -⟩ := id (Z.alloc (.cells #[.int .i64 k0, .int .i64 m0, .slice a na ca, .slice b nb cb] 27)); clear Z; have q0 := ver_new w2 k0 m0 a na ca b nb cb; have hl2 : w2.heap.size < (w2.alloc (.cells #[.int .i64 k0, .int .i64 m0, .slice a na ca, .slice b nb cb] 27)).heap.size := block_lt q0; have V0 := ((balloc (Below.refl _ (w2.alloc (.cells #[.int .i64 k0, .int .i64 m0, .slice a na ca, .slice b nb cb] 27))) (.cells #[.int .i64 p0, .int .i64 p1, .int .i64 rr, .int .i64 bf, .int .i64 jl] 24)).cell (p := ⟨w2.heap.size, 0, none⟩) hl2).trans q0; clear q0 hl2)
      | (go_at_call 9; refine (j1.out _).mono ?_; clear j1 x0 x1 x2 x3 x4; rintro e w3 ⟨a', na', ca', b', nb', cb', rfl, b3⟩; replace B := balloc (bthen B b3) (.cells #[.int .i64 k1, .int .i64 m1, .slice a' na' ca', .slice b' nb' cb'] 27); replace X := (X.kept b3).alloc (.cells #[.int .i64 k1, .int .i64 m1, .slice a' na' ca', .slice b' nb' cb'] 27); obtain ⟨x0, x1, x2, x3, x4, -, -, -, -, -⟩ := id X; replace V0 := (b3.cell (p := ⟨w2.heap.size, 0, none⟩) (block_lt V0)).trans V0; replace V0 := ((balloc (Below.refl _ w3) (.cells #[.int .i64 k1, .int .i64 m1, .slice a' na' ca', .slice b' nb' cb'] 27)).cell (p := ⟨w2.heap.size, 0, none⟩) (block_lt V0)).trans V0; have V1 := ver_new w3 k1 m1 a' na' ca' b' nb' cb')
      | (go_at_call 9; refine (j2.out _).mono ?_; clear j2 x0 x1 x2 x3 x4; rintro e w4 ⟨a2, na2, ca2, b2', nb2, cb2, rfl, b4⟩; replace B := balloc (bthen B b4) (.cells #[.int .i64 k2, .int .i64 m2, .slice a2 na2 ca2, .slice b2' nb2 cb2] 27); replace V0 := (b4.cell (p := ⟨w2.heap.size, 0, none⟩) (block_lt V0)).trans V0; replace V0 := ((balloc (Below.refl _ w4) (.cells #[.int .i64 k2, .int .i64 m2, .slice a2 na2 ca2, .slice b2' nb2 cb2] 27)).cell (p := ⟨w2.heap.size, 0, none⟩) (block_lt V0)).trans V0; replace V1 := (b4.cell (p := ⟨w3.heap.size, 0, none⟩) (block_lt V1)).trans V1; replace V1 := ((balloc (Below.refl _ w4) (.cells #[.int .i64 k2, .int .i64 m2, .slice a2 na2 ca2, .slice b2' nb2 cb2] 27)).cell (p := ⟨w3.heap.size, 0, none⟩) (block_lt V1)).trans V1; have V2 := ver_new w4 k2 m2 a2 na2 ca2 b2' nb2 cb2))
    go_ret
    exact ⟨rfl, B⟩

theorem verdictJitter_go (r : Ru) (who ratio less more : Int) (w : World) : Calls Try.prog 7 #[.agg #[.int .i64 r.k0, .int .i64 r.k1, .int .i64 r.r, .int .i64 r.m, .int .i64 r.j], .int .i64 who, .int .i64 ratio, .int .i64 less, .int .i64 more] w fun e w' => e = .returned (.bool true) ∧ Below w.heap.size w w' := by
  obtain ⟨k0, m0, E0, h0⟩ := jv_some r who ratio
  obtain ⟨k1, m1, E1, h1⟩ := jv_some (jit r (wrap64 (r.j - less))) who ratio
  obtain ⟨k2, m2, E2, h2⟩ := jv_some r who (wrap64 (ratio + more))
  by_cases hb : E0 = 0 ∧ 0 ≤ less ∧ 0 ≤ more ∧ less ≤ 3 ∧ more ≤ 100
  · obtain ⟨rfl, b1, b2, b3, b4⟩ := hb
    obtain ⟨hg, hw⟩ := h0.ok (.inl rfl)
    have hk := wrong_ok.1 hw
    have hj := hk.2.2.2
    refine vji_ok _ _ _ _ _ _ _ _ _ _ _ k0 m0 0 k1 m1 E1 k2 m2 E2 rfl rfl w (by simp) (decide_eq_false (by omega)) (decide_eq_false (by omega)) (decide_eq_false (by omega)) (decide_eq_false (by omega)) ?_ ?_ (fun v => alive20 v) (fun v => judge_jv h0 v) (fun v => judge_jv h1 v) (fun v => judge_jv h2 v)
    · by_cases e1 : E1 = 0
      · subst e1
        rcases h1.zero with ⟨rfl, hs⟩ | ⟨rfl, _⟩
        · rw [IntWalk.wrap64_in _ (by omega)] at hs
          have hs' : Starve r who ratio := starve_jit (r := r) (j := r.j - less) (k := r.j) (by omega) hs
          rcases h0.zero with ⟨rfl, _⟩ | ⟨_, hn⟩
          · simp
          · exact absurd hs' hn
        · simp
      · exact .inl (bne_iff_ne.2 e1)
    · by_cases e2 : E2 = 0
      · subst e2
        rcases h2.zero with ⟨rfl, hs⟩ | ⟨rfl, _⟩
        · have hr := hg.2
          rw [IntWalk.wrap64_in _ (by omega)] at hs
          have hs' : Starve r who ratio := starve_ratio hk b2 hs
          rcases h0.zero with ⟨rfl, _⟩ | ⟨_, hn⟩
          · simp
          · exact absurd hs' hn
        · simp
      · exact .inl (bne_iff_ne.2 e2)
  · refine vji_bad _ _ _ _ _ _ _ _ _ _ _ k0 m0 E0 k1 m1 E1 k2 m2 E2 rfl rfl w ?_ (fun v => alive20 v) (fun v => judge_jv h0 v) (fun v => judge_jv h1 v) (fun v => judge_jv h2 v)
    by_cases e0 : E0 = 0
    · subst e0
      simp only [bne_self_eq_false, decide_eq_true_eq, decide_eq_false_iff_not]
      simp
      omega
    · exact .inl (bne_iff_ne.2 e0)

end Go.Proofs.Ytbnofjpiioneiaa.D
