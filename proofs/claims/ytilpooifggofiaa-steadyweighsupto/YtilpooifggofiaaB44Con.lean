/- PROVED: slices.Contains of a state that is there; tidewaitkeep.SteadyWeighs where States or Graph tells an error. CONDITIONS: what they answer. -/
import Derived.Test.YtilpooifggofiaaB19Sr
import Derived.BigQuiet
namespace Go.Proofs.Ytilpooifggofiaa.D
open Go.RowKit K
set_option linter.unusedVariables false

set_option maxHeartbeats 6400000 in
theorem index_in (y : Sx) (L : List Sx) (len : Nat) (hlen : L.length = len) (hll : len ≤ 300) (hy : y ∈ L) (g cp : Nat) (hcp : len ≤ cp) (w : World) (hs : ∀ i s, L[i]? = some s → Sat w g (i * 14) s) :
    Calls Try.prog 25 #[.slice (some ⟨g, 0, none⟩) len cp, .agg #[.int .i64 y.f0.k, .int .i64 y.f0.n, .int .i64 y.f0.b, .int .i64 y.f0.a, .int .i64 y.f0.s, .int .i64 y.f0.q, .int .i64 y.f1.k, .int .i64 y.f1.n, .int .i64 y.f1.b, .int .i64 y.f1.a, .int .i64 y.f1.s, .int .i64 y.f1.q, .int .i64 y.w0, .int .i64 y.w1]] w fun e w' => ∃ i : Nat, i < 300 ∧ e = .returned (.int .i64 i) ∧ Below w.heap.size w w' := by
  have sY := Sta.new w w.heap.size rfl (y.f0.k) (y.f0.n) (y.f0.b) (y.f0.a) (y.f0.s) (y.f0.q) (y.f1.k) (y.f1.n) (y.f1.b) (y.f1.a) (y.f1.s) (y.f1.q) (y.w0) (y.w1)
  have B : Below w.heap.size w (w.alloc (.cells #[.int .i64 y.f0.k, .int .i64 y.f0.n, .int .i64 y.f0.b, .int .i64 y.f0.a, .int .i64 y.f0.s, .int .i64 y.f0.q, .int .i64 y.f1.k, .int .i64 y.f1.n, .int .i64 y.f1.b, .int .i64 y.f1.a, .int .i64 y.f1.s, .int .i64 y.f1.q, .int .i64 y.w0, .int .i64 y.w1] 48)) := balloc (Below.refl _ _) _
  have hs3 : Hid (∀ i s, L[i]? = some s → Sat (w.alloc (.cells #[.int .i64 y.f0.k, .int .i64 y.f0.n, .int .i64 y.f0.b, .int .i64 y.f0.a, .int .i64 y.f0.s, .int .i64 y.f0.q, .int .i64 y.f1.k, .int .i64 y.f1.n, .int .i64 y.f1.b, .int .i64 y.f1.a, .int .i64 y.f1.s, .int .i64 y.f1.q, .int .i64 y.w0, .int .i64 y.w1] 48)) g (i * 14) s) := fun i s h => (hs i s h).kept B
  replace hy : Hid _ := hy
  replace hlen : Hid _ := hlen
  clear hs
  go_enter Try.func25, Try.ntmps25
  go_wp2
  obtain ⟨W3, hW3⟩ : ∃ W3, w.alloc (.cells #[.int .i64 y.f0.k, .int .i64 y.f0.n, .int .i64 y.f0.b, .int .i64 y.f0.a, .int .i64 y.f0.s, .int .i64 y.f0.q, .int .i64 y.f1.k, .int .i64 y.f1.n, .int .i64 y.f1.b, .int .i64 y.f1.a, .int .i64 y.f1.s, .int .i64 y.f1.q, .int .i64 y.w0, .int .i64 y.w1] 48) = W3 := ⟨_, rfl⟩
  obtain ⟨Nx, hNx⟩ : ∃ Nx, w.heap.size = Nx := ⟨_, rfl⟩
  rw [hW3] at hs3 sY B ⊢
  rw [hNx] at sY
  clear hW3
  go_loopw [8] (fun iv wr => ∃ (i : Nat), i ≤ len ∧ iv = .int .i64 i ∧ (∀ j, j < i → L[j]? ≠ some y) ∧ Below W3.heap.size W3 wr) (fun iv _ => len - (intOf iv).toNat)
  case atStart => exact ⟨0, Nat.zero_le _, rfl, fun j h => by omega, Below.refl _ _⟩
  case round =>
    obtain ⟨i, hil, rfl, htz, b4⟩ := hrel
    have hi : i < len := by
      obtain ⟨j, hj, e⟩ := List.getElem_of_mem hy.out
      rcases Nat.lt_or_ge i len with q | q
      · exact q
      · exact absurd (by rw [List.getElem?_eq_getElem hj, e]) (htz j (by have := hlen.out; omega))
    obtain ⟨s, hs⟩ : ∃ s, L[i]? = some s := ⟨_, List.getElem?_eq_getElem (by have := hlen.out; omega)⟩
    have hsat := (hs3.out i s hs).kept b4
    have sN4 := sY.kept b4
    have hiI : (i : Int) < (len : Int) := by omega
    have heq := eqX y s
    obtain ⟨c0, c1, c2, c3, c4, c5, c6, c7, c8, c9, c10, c11, c12, c13⟩ := id hsat
    obtain ⟨d0, d1, d2, d3, d4, d5, d6, d7, d8, d9, d10, d11, d12, d13, _⟩ := id sN4
    by_cases hsy : y = s
    · rw [decide_eq_true hsy] at heq
      replace hsy : Hid _ := hsy
      replace htz : Hid _ := htz
      rw [hNx] at *
      clear hs
      go_wp2
      go_quiet (fail)
      go_wp2
      go_ret
      exact ⟨i, by omega, rfl, below_drewN (bthen B b4) _⟩
    · rw [decide_eq_false hsy] at heq
      have hnew : Hid (L[i]? ≠ some y) := fun q => by rw [hs] at q; injection q with q; exact hsy q.symm
      have htz2 : Hid (∀ j, j < i → L[j]? ≠ some y) := htz
      clear hs hsy htz
      rw [hNx] at *
      go_wp2
      go_quiet (fail)
      go_wp2
      go_roundw
      case rel =>
        refine ⟨i + 1, by omega, by go_num, fun j hj => ?_, below_drewN b4 _⟩
        rcases Nat.lt_succ_iff_lt_or_eq.1 hj with hj | rfl
        · exact htz2.out j hj
        · exact hnew.out
      case measure => simp [intOf]; omega

set_option maxHeartbeats 6400000 in
theorem contains_in (y : Sx) (L : List Sx) (len : Nat) (hlen : L.length = len) (hll : len ≤ 300) (hy : y ∈ L) (g cp : Nat) (hcp : len ≤ cp) (w : World) (hs : ∀ i s, L[i]? = some s → Sat w g (i * 14) s) :
    Calls Try.prog 18 #[.slice (some ⟨g, 0, none⟩) len cp, .agg #[.int .i64 y.f0.k, .int .i64 y.f0.n, .int .i64 y.f0.b, .int .i64 y.f0.a, .int .i64 y.f0.s, .int .i64 y.f0.q, .int .i64 y.f1.k, .int .i64 y.f1.n, .int .i64 y.f1.b, .int .i64 y.f1.a, .int .i64 y.f1.s, .int .i64 y.f1.q, .int .i64 y.w0, .int .i64 y.w1]] w fun e w' => e = .returned (.bool true) ∧ Below w.heap.size w w' := by
  have sY := Sta.new w w.heap.size rfl (y.f0.k) (y.f0.n) (y.f0.b) (y.f0.a) (y.f0.s) (y.f0.q) (y.f1.k) (y.f1.n) (y.f1.b) (y.f1.a) (y.f1.s) (y.f1.q) (y.w0) (y.w1)
  have B : Below w.heap.size w (w.alloc (.cells #[.int .i64 y.f0.k, .int .i64 y.f0.n, .int .i64 y.f0.b, .int .i64 y.f0.a, .int .i64 y.f0.s, .int .i64 y.f0.q, .int .i64 y.f1.k, .int .i64 y.f1.n, .int .i64 y.f1.b, .int .i64 y.f1.a, .int .i64 y.f1.s, .int .i64 y.f1.q, .int .i64 y.w0, .int .i64 y.w1] 48)) := balloc (Below.refl _ _) _
  have hx : ∀ v, Below (w.alloc (.cells #[.int .i64 y.f0.k, .int .i64 y.f0.n, .int .i64 y.f0.b, .int .i64 y.f0.a, .int .i64 y.f0.s, .int .i64 y.f0.q, .int .i64 y.f1.k, .int .i64 y.f1.n, .int .i64 y.f1.b, .int .i64 y.f1.a, .int .i64 y.f1.s, .int .i64 y.f1.q, .int .i64 y.w0, .int .i64 y.w1] 48)).heap.size (w.alloc (.cells #[.int .i64 y.f0.k, .int .i64 y.f0.n, .int .i64 y.f0.b, .int .i64 y.f0.a, .int .i64 y.f0.s, .int .i64 y.f0.q, .int .i64 y.f1.k, .int .i64 y.f1.n, .int .i64 y.f1.b, .int .i64 y.f1.a, .int .i64 y.f1.s, .int .i64 y.f1.q, .int .i64 y.w0, .int .i64 y.w1] 48)) v → _ := fun v b => index_in y L len hlen hll hy g cp hcp v fun i s h => (hs i s h).kept (bthen B b)
  obtain ⟨c0, c1, c2, c3, c4, c5, c6, c7, c8, c9, c10, c11, c12, c13, _⟩ := id sY
  clear hs
  go_enter Try.func18, Try.ntmps18
  go_wp2_with (go_at_call 25; refine (hx _ (Below.refl _ _)).mono ?_; clear hx c0 c1 c2 c3 c4 c5 c6 c7 c8 c9 c10 c11 c12 c13 sY; rintro e v1 ⟨i, hi, rfl, b⟩; replace B := bthen B b; have hge : decide ((0 : Int) ≤ (i : Int)) = true := decide_eq_true (by omega))
  go_ret
  exact ⟨rfl, B⟩

set_option maxHeartbeats 6400000 in
theorem wei_err (r : Ru) (who ratio E G : Int) (hE : (E != 0) = true) (s : Value) (w : World)
    (al : ∀ v, Calls Try.prog 16 #[] v fun e w' => e = .returned (.bool true) ∧ Below v.heap.size v w')
    (st : ∀ v, Calls Try.prog 8 #[.agg #[.int .i64 r.k0, .int .i64 r.k1, .int .i64 r.r, .int .i64 r.m, .int .i64 r.j]] v fun e w' => ∃ ao len cp, e = .returned (.tuple #[.slice ao len cp, .int .i64 E]) ∧ Below v.heap.size v w')
    (gr : ∀ v, Calls Try.prog 10 #[.agg #[.int .i64 r.k0, .int .i64 r.k1, .int .i64 r.r, .int .i64 r.m, .int .i64 r.j], .int .i64 who, .int .i64 ratio] v fun e w' => e = .returned (.tuple #[.agg #[.int .i64 0, .slice none 0 0], .int .i64 G]) ∧ Below v.heap.size v w') :
    Calls Try.prog 6 #[.agg #[.int .i64 r.k0, .int .i64 r.k1, .int .i64 r.r, .int .i64 r.m, .int .i64 r.j], .int .i64 who, .int .i64 ratio, s] w fun e w' => e = .returned (.bool true) ∧ Below w.heap.size w w' := by
  have X := Rul.new w _ rfl r.k0 r.k1 r.r r.m r.j
  have B : Below w.heap.size w (w.alloc (.cells #[.int .i64 r.k0, .int .i64 r.k1, .int .i64 r.r, .int .i64 r.m, .int .i64 r.j] 24)) := balloc (Below.refl _ _) _
  obtain ⟨x0, x1, x2, x3, x4, _, _, _, _, _⟩ := id X
  go_enter Try.func6, Try.ntmps6
  go_wp2_with (first
    | (go_at_call 16; refine (al _).mono ?_; clear al x0 x1 x2 x3 x4; rintro e v1 ⟨rfl, b⟩; replace X := X.kept b; replace B := bthen B b; obtain ⟨x0, x1, x2, x3, x4, _, _, _, _, _⟩ := id X)
    | (go_at_call 8; refine (st _).mono ?_; clear st x0 x1 x2 x3 x4; rintro e v1 ⟨ao, len, cp, rfl, b⟩; replace X := X.kept b; replace B := bthen B b; obtain ⟨x0, x1, x2, x3, x4, _, _, _, _, _⟩ := id X)
    | (go_at_call 10; refine (gr _).mono ?_; clear gr x0 x1 x2 x3 x4 X; rintro e v1 ⟨rfl, b⟩; replace B := balloc (bthen B b) (.cells #[.int .i64 0, .slice none 0 0] 40)))
  go_ret
  exact ⟨rfl, B⟩

set_option maxHeartbeats 6400000 in
theorem wei_wrong (r : Ru) (who ratio E G : Int) (hE : E = 0) (hG : (G != 0) = true) (s : Value) (w : World)
    (al : ∀ v, Calls Try.prog 16 #[] v fun e w' => e = .returned (.bool true) ∧ Below v.heap.size v w')
    (st : ∀ v, Calls Try.prog 8 #[.agg #[.int .i64 r.k0, .int .i64 r.k1, .int .i64 r.r, .int .i64 r.m, .int .i64 r.j]] v fun e w' => ∃ ao len cp, e = .returned (.tuple #[.slice ao len cp, .int .i64 E]) ∧ Below v.heap.size v w')
    (gr : ∀ v, Calls Try.prog 10 #[.agg #[.int .i64 r.k0, .int .i64 r.k1, .int .i64 r.r, .int .i64 r.m, .int .i64 r.j], .int .i64 who, .int .i64 ratio] v fun e w' => e = .returned (.tuple #[.agg #[.int .i64 0, .slice none 0 0], .int .i64 G]) ∧ Below v.heap.size v w') :
    Calls Try.prog 6 #[.agg #[.int .i64 r.k0, .int .i64 r.k1, .int .i64 r.r, .int .i64 r.m, .int .i64 r.j], .int .i64 who, .int .i64 ratio, s] w fun e w' => e = .returned (.bool true) ∧ Below w.heap.size w w' := by
  subst hE
  have X := Rul.new w _ rfl r.k0 r.k1 r.r r.m r.j
  have B : Below w.heap.size w (w.alloc (.cells #[.int .i64 r.k0, .int .i64 r.k1, .int .i64 r.r, .int .i64 r.m, .int .i64 r.j] 24)) := balloc (Below.refl _ _) _
  obtain ⟨x0, x1, x2, x3, x4, _, _, _, _, _⟩ := id X
  go_enter Try.func6, Try.ntmps6
  go_wp2_with (first
    | (go_at_call 16; refine (al _).mono ?_; clear al x0 x1 x2 x3 x4; rintro e v1 ⟨rfl, b⟩; replace X := X.kept b; replace B := bthen B b; obtain ⟨x0, x1, x2, x3, x4, _, _, _, _, _⟩ := id X)
    | (go_at_call 8; refine (st _).mono ?_; clear st x0 x1 x2 x3 x4; rintro e v1 ⟨ao, len, cp, rfl, b⟩; replace X := X.kept b; replace B := bthen B b; obtain ⟨x0, x1, x2, x3, x4, _, _, _, _, _⟩ := id X)
    | (go_at_call 10; refine (gr _).mono ?_; clear gr x0 x1 x2 x3 x4 X; rintro e v1 ⟨rfl, b⟩; replace B := balloc (bthen B b) (.cells #[.int .i64 0, .slice none 0 0] 40)))
  go_ret
  exact ⟨rfl, B⟩

end Go.Proofs.Ytilpooifggofiaa.D
