/- PROVED: tidewaitkeep.SteadyClosed, over what States and Play answer. CONDITIONS: what States and alive19 answer. what slices.Equal answers of two rows of rounds that are the same. CONDITIONS: none beyond each theorem's own. -/
import Derived.Test.YtilpooifggofiaaB19Sr
import Derived.Test.YtilpooifggofiaaB35DPlay
import Derived.Test.YtilpooifggofiaaB05DRow
import Derived.Test.YtilpooifggofiaaB09DSame
namespace Go.Proofs.Ytilpooifggofiaa.D
open Go.RowKit K
set_option linter.unusedVariables false

set_option maxHeartbeats 6400000 in
theorem clo_err (r : Ru) (y : Sx) (F : Int) (E : Int) (hE : (E != 0) = true) (a : Option Addr) (cap n : Nat) (ls : List (Int × Int)) (w : World) (hv : VRow w a ls)
    (al : ∀ v, Calls Try.prog 16 #[] v fun e w' => e = .returned (.bool true) ∧ Below v.heap.size v w')
    (st : ∀ v, Calls Try.prog 8 #[.agg #[.int .i64 r.k0, .int .i64 r.k1, .int .i64 r.r, .int .i64 r.m, .int .i64 r.j]] v fun e w' => e = .returned (.tuple #[.slice none 0 0, .int .i64 E]) ∧ Below v.heap.size v w')
    (pl : ∀ v, VRow v a ls → Calls Try.prog 17 #[.agg #[.int .i64 r.k0, .int .i64 r.k1, .int .i64 r.r, .int .i64 r.m, .int .i64 r.j], .slice a n cap] v fun e w' => ∃ ao rn rc, e = .returned (.tuple #[.slice ao rn rc, .agg #[.int .i64 y.f0.k, .int .i64 y.f0.n, .int .i64 y.f0.b, .int .i64 y.f0.a, .int .i64 y.f0.s, .int .i64 y.f0.q, .int .i64 y.f1.k, .int .i64 y.f1.n, .int .i64 y.f1.b, .int .i64 y.f1.a, .int .i64 y.f1.s, .int .i64 y.f1.q, .int .i64 y.w0, .int .i64 y.w1], .int .i64 F]) ∧ Below v.heap.size v w') :
    Calls Try.prog 4 #[.agg #[.int .i64 r.k0, .int .i64 r.k1, .int .i64 r.r, .int .i64 r.m, .int .i64 r.j], .slice a n cap] w fun e w' => e = .returned (.bool true) ∧ Below w.heap.size w w' := by
  have X := Rul.new w _ rfl r.k0 r.k1 r.r r.m r.j
  have B : Below w.heap.size w (w.alloc (.cells #[.int .i64 r.k0, .int .i64 r.k1, .int .i64 r.r, .int .i64 r.m, .int .i64 r.j] 24)) := balloc (Below.refl _ _) _
  replace hv := hv.alloc (.cells #[.int .i64 r.k0, .int .i64 r.k1, .int .i64 r.r, .int .i64 r.m, .int .i64 r.j] 24)
  obtain ⟨x0, x1, x2, x3, x4, _, _, _, _, _⟩ := id X
  go_enter Try.func4, Try.ntmps4
  go_wp2_with (first
    | (go_at_call 16; refine (al _).mono ?_; clear al x0 x1 x2 x3 x4; rintro e v1 ⟨rfl, b⟩; replace X := X.kept b; replace hv := hv.kept b; replace B := bthen B b; obtain ⟨x0, x1, x2, x3, x4, _, _, _, _, _⟩ := id X)
    | (go_at_call 8; refine (st _).mono ?_; clear st x0 x1 x2 x3 x4; rintro e v1 ⟨rfl, b⟩; replace X := X.kept b; replace hv := hv.kept b; replace B := bthen B b; obtain ⟨x0, x1, x2, x3, x4, _, _, _, _, _⟩ := id X)
    | (go_at_call 17; refine (pl _ hv).mono ?_; clear pl x0 x1 x2 x3 x4 X hv; rintro e v2 ⟨ao, rn, rc, rfl, b⟩; replace B := balloc (bthen B b) (.cells #[.int .i64 y.f0.k, .int .i64 y.f0.n, .int .i64 y.f0.b, .int .i64 y.f0.a, .int .i64 y.f0.s, .int .i64 y.f0.q, .int .i64 y.f1.k, .int .i64 y.f1.n, .int .i64 y.f1.b, .int .i64 y.f1.a, .int .i64 y.f1.s, .int .i64 y.f1.q, .int .i64 y.w0, .int .i64 y.w1] 48)))
  go_ret
  exact ⟨rfl, B⟩

set_option maxHeartbeats 6400000 in
theorem clo_far (r : Ru) (y : Sx) (F : Int) (hF : (F != 0) = true) (L : List Sx) (len : Nat) (a : Option Addr) (cap n : Nat) (ls : List (Int × Int)) (w : World) (hv : VRow w a ls)
    (al : ∀ v, Calls Try.prog 16 #[] v fun e w' => e = .returned (.bool true) ∧ Below v.heap.size v w')
    (st : ∀ v, Calls Try.prog 8 #[.agg #[.int .i64 r.k0, .int .i64 r.k1, .int .i64 r.r, .int .i64 r.m, .int .i64 r.j]] v fun e w' => ∃ g cp, e = .returned (.tuple #[.slice (some ⟨g, 0, none⟩) len cp, .int .i64 0]) ∧ len ≤ cp ∧ (∀ i s, L[i]? = some s → Sat w' g (i * 14) s) ∧ Below v.heap.size v w')
    (pl : ∀ v, VRow v a ls → Calls Try.prog 17 #[.agg #[.int .i64 r.k0, .int .i64 r.k1, .int .i64 r.r, .int .i64 r.m, .int .i64 r.j], .slice a n cap] v fun e w' => ∃ ao rn rc, e = .returned (.tuple #[.slice ao rn rc, .agg #[.int .i64 y.f0.k, .int .i64 y.f0.n, .int .i64 y.f0.b, .int .i64 y.f0.a, .int .i64 y.f0.s, .int .i64 y.f0.q, .int .i64 y.f1.k, .int .i64 y.f1.n, .int .i64 y.f1.b, .int .i64 y.f1.a, .int .i64 y.f1.s, .int .i64 y.f1.q, .int .i64 y.w0, .int .i64 y.w1], .int .i64 F]) ∧ Below v.heap.size v w') :
    Calls Try.prog 4 #[.agg #[.int .i64 r.k0, .int .i64 r.k1, .int .i64 r.r, .int .i64 r.m, .int .i64 r.j], .slice a n cap] w fun e w' => e = .returned (.bool true) ∧ Below w.heap.size w w' := by
  have X := Rul.new w _ rfl r.k0 r.k1 r.r r.m r.j
  have B : Below w.heap.size w (w.alloc (.cells #[.int .i64 r.k0, .int .i64 r.k1, .int .i64 r.r, .int .i64 r.m, .int .i64 r.j] 24)) := balloc (Below.refl _ _) _
  replace hv := hv.alloc (.cells #[.int .i64 r.k0, .int .i64 r.k1, .int .i64 r.r, .int .i64 r.m, .int .i64 r.j] 24)
  obtain ⟨x0, x1, x2, x3, x4, _, _, _, _, _⟩ := id X
  go_enter Try.func4, Try.ntmps4
  go_wp2_with (first
    | (go_at_call 16; refine (al _).mono ?_; clear al x0 x1 x2 x3 x4; rintro e v1 ⟨rfl, b⟩; replace X := X.kept b; replace hv := hv.kept b; replace B := bthen B b; obtain ⟨x0, x1, x2, x3, x4, _, _, _, _, _⟩ := id X)
    | (go_at_call 8; refine (st _).mono ?_; clear st x0 x1 x2 x3 x4; rintro e v1 ⟨g, cp, rfl, hcp, hsts, b⟩; replace hsts : Hid (∀ i s, L[i]? = some s → Sat v1 g (i * 14) s) := hsts; replace X := X.kept b; replace hv := hv.kept b; replace B := bthen B b; obtain ⟨x0, x1, x2, x3, x4, _, _, _, _, _⟩ := id X)
    | (go_at_call 17; refine (pl _ hv).mono ?_; clear pl x0 x1 x2 x3 x4 X hv; rintro e v2 ⟨ao, rn, rc, rfl, b⟩; replace B := balloc (bthen B b) (.cells #[.int .i64 y.f0.k, .int .i64 y.f0.n, .int .i64 y.f0.b, .int .i64 y.f0.a, .int .i64 y.f0.s, .int .i64 y.f0.q, .int .i64 y.f1.k, .int .i64 y.f1.n, .int .i64 y.f1.b, .int .i64 y.f1.a, .int .i64 y.f1.s, .int .i64 y.f1.q, .int .i64 y.w0, .int .i64 y.w1] 48)))
  go_ret
  exact ⟨rfl, B⟩

set_option maxHeartbeats 6400000 in
theorem clo_in (r : Ru) (y : Sx) (F : Int) (hF : F = 0) (L : List Sx) (len : Nat) (hlen : L.length = len) (hll : len ≤ 300) (hnd : L.Nodup) (hy : y ∈ L) (a : Option Addr) (cap n : Nat) (ls : List (Int × Int)) (w : World) (hv : VRow w a ls)
    (al : ∀ v, Calls Try.prog 16 #[] v fun e w' => e = .returned (.bool true) ∧ Below v.heap.size v w')
    (st : ∀ v, Calls Try.prog 8 #[.agg #[.int .i64 r.k0, .int .i64 r.k1, .int .i64 r.r, .int .i64 r.m, .int .i64 r.j]] v fun e w' => ∃ g cp, e = .returned (.tuple #[.slice (some ⟨g, 0, none⟩) len cp, .int .i64 0]) ∧ len ≤ cp ∧ (∀ i s, L[i]? = some s → Sat w' g (i * 14) s) ∧ Below v.heap.size v w')
    (pl : ∀ v, VRow v a ls → Calls Try.prog 17 #[.agg #[.int .i64 r.k0, .int .i64 r.k1, .int .i64 r.r, .int .i64 r.m, .int .i64 r.j], .slice a n cap] v fun e w' => ∃ ao rn rc, e = .returned (.tuple #[.slice ao rn rc, .agg #[.int .i64 y.f0.k, .int .i64 y.f0.n, .int .i64 y.f0.b, .int .i64 y.f0.a, .int .i64 y.f0.s, .int .i64 y.f0.q, .int .i64 y.f1.k, .int .i64 y.f1.n, .int .i64 y.f1.b, .int .i64 y.f1.a, .int .i64 y.f1.s, .int .i64 y.f1.q, .int .i64 y.w0, .int .i64 y.w1], .int .i64 F]) ∧ Below v.heap.size v w') :
    Calls Try.prog 4 #[.agg #[.int .i64 r.k0, .int .i64 r.k1, .int .i64 r.r, .int .i64 r.m, .int .i64 r.j], .slice a n cap] w fun e w' => e = .returned (.bool true) ∧ Below w.heap.size w w' := by
  have X := Rul.new w _ rfl r.k0 r.k1 r.r r.m r.j
  have B : Below w.heap.size w (w.alloc (.cells #[.int .i64 r.k0, .int .i64 r.k1, .int .i64 r.r, .int .i64 r.m, .int .i64 r.j] 24)) := balloc (Below.refl _ _) _
  replace hv := hv.alloc (.cells #[.int .i64 r.k0, .int .i64 r.k1, .int .i64 r.r, .int .i64 r.m, .int .i64 r.j] 24)
  obtain ⟨x0, x1, x2, x3, x4, _, _, _, _, _⟩ := id X
  subst hF
  replace hnd : Hid _ := hnd
  replace hy : Hid _ := hy
  replace hlen : Hid _ := hlen
  go_enter Try.func4, Try.ntmps4
  go_wp2_with (first
    | (go_at_call 16; refine (al _).mono ?_; clear al x0 x1 x2 x3 x4; rintro e v1 ⟨rfl, b⟩; replace X := X.kept b; replace hv := hv.kept b; replace B := bthen B b; obtain ⟨x0, x1, x2, x3, x4, _, _, _, _, _⟩ := id X)
    | (go_at_call 8; refine (st _).mono ?_; clear st x0 x1 x2 x3 x4; rintro e v1 ⟨g, cp, rfl, hcp, hsts, b⟩; replace hsts : Hid (∀ i s, L[i]? = some s → Sat v1 g (i * 14) s) := hsts; replace X := X.kept b; replace hv := hv.kept b; replace B := bthen B b; obtain ⟨x0, x1, x2, x3, x4, _, _, _, _, _⟩ := id X)
    | (go_at_call 17; refine (pl _ hv).mono ?_; clear pl x0 x1 x2 x3 x4 X hv; rintro e v2 ⟨ao, rn, rc, rfl, b⟩; have hs3 : Hid (∀ i s, L[i]? = some s → Sat (v2.alloc (.cells #[.int .i64 y.f0.k, .int .i64 y.f0.n, .int .i64 y.f0.b, .int .i64 y.f0.a, .int .i64 y.f0.s, .int .i64 y.f0.q, .int .i64 y.f1.k, .int .i64 y.f1.n, .int .i64 y.f1.b, .int .i64 y.f1.a, .int .i64 y.f1.s, .int .i64 y.f1.q, .int .i64 y.w0, .int .i64 y.w1] 48)) g (i * 14) s) := fun i s h => (hsts.out i s h).kept (balloc b (.cells #[.int .i64 y.f0.k, .int .i64 y.f0.n, .int .i64 y.f0.b, .int .i64 y.f0.a, .int .i64 y.f0.s, .int .i64 y.f0.q, .int .i64 y.f1.k, .int .i64 y.f1.n, .int .i64 y.f1.b, .int .i64 y.f1.a, .int .i64 y.f1.s, .int .i64 y.f1.q, .int .i64 y.w0, .int .i64 y.w1] 48)); have sN := Sta.new v2 v2.heap.size rfl (y.f0.k) (y.f0.n) (y.f0.b) (y.f0.a) (y.f0.s) (y.f0.q) (y.f1.k) (y.f1.n) (y.f1.b) (y.f1.a) (y.f1.s) (y.f1.q) (y.w0) (y.w1); replace B := balloc (bthen B b) (.cells #[.int .i64 y.f0.k, .int .i64 y.f0.n, .int .i64 y.f0.b, .int .i64 y.f0.a, .int .i64 y.f0.s, .int .i64 y.f0.q, .int .i64 y.f1.k, .int .i64 y.f1.n, .int .i64 y.f1.b, .int .i64 y.f1.a, .int .i64 y.f1.s, .int .i64 y.f1.q, .int .i64 y.w0, .int .i64 y.w1] 48); clear hsts))
  obtain ⟨W3, hW3⟩ : ∃ W3, v2.alloc (.cells #[.int .i64 y.f0.k, .int .i64 y.f0.n, .int .i64 y.f0.b, .int .i64 y.f0.a, .int .i64 y.f0.s, .int .i64 y.f0.q, .int .i64 y.f1.k, .int .i64 y.f1.n, .int .i64 y.f1.b, .int .i64 y.f1.a, .int .i64 y.f1.s, .int .i64 y.f1.q, .int .i64 y.w0, .int .i64 y.w1] 48) = W3 := ⟨_, rfl⟩
  obtain ⟨Nx, hNx⟩ : ∃ Nx, v2.heap.size = Nx := ⟨_, rfl⟩
  rw [hW3] at hs3 sN B ⊢
  rw [hNx] at sN ⊢
  clear hW3 hNx b
  go_loopw [10, 36] (fun tv iv wr => ∃ (i : Nat) (tz : Int), i ≤ len ∧ iv = .int .i64 i ∧ tv = .int .i64 tz ∧ ((tz = 0 ∧ ∀ j, j < i → L[j]? ≠ some y) ∨ (tz = 1 ∧ ∃ j : Nat, j < i ∧ L[j]? = some y)) ∧ Below W3.heap.size W3 wr) (fun _ iv _ => len - (intOf iv).toNat)
  case atStart => exact ⟨0, 0, Nat.zero_le _, rfl, rfl, .inl ⟨rfl, fun j h => by omega⟩, Below.refl _ _⟩
  case round =>
    obtain ⟨i, tz, hil, rfl, rfl, htz, b4⟩ := hrel
    by_cases hi : i < len
    · obtain ⟨s, hs⟩ : ∃ s, L[i]? = some s := ⟨_, List.getElem?_eq_getElem (by have := hlen.out; omega)⟩
      have hsat := (hs3.out i s hs).kept b4
      have sN4 := sN.kept b4
      have hiI : (i : Int) < (len : Int) := by omega
      have heq := eqX s y
      obtain ⟨c0, c1, c2, c3, c4, c5, c6, c7, c8, c9, c10, c11, c12, c13⟩ := id hsat
      have sE := Sta.new wr wr.heap.size rfl (s.f0.k) (s.f0.n) (s.f0.b) (s.f0.a) (s.f0.s) (s.f0.q) (s.f1.k) (s.f1.n) (s.f1.b) (s.f1.a) (s.f1.s) (s.f1.q) (s.w0) (s.w1)
      have sN5 := sN4.alloc (.cells #[.int .i64 s.f0.k, .int .i64 s.f0.n, .int .i64 s.f0.b, .int .i64 s.f0.a, .int .i64 s.f0.s, .int .i64 s.f0.q, .int .i64 s.f1.k, .int .i64 s.f1.n, .int .i64 s.f1.b, .int .i64 s.f1.a, .int .i64 s.f1.s, .int .i64 s.f1.q, .int .i64 s.w0, .int .i64 s.w1] 48)
      have b5 := balloc b4 (.cells #[.int .i64 s.f0.k, .int .i64 s.f0.n, .int .i64 s.f0.b, .int .i64 s.f0.a, .int .i64 s.f0.s, .int .i64 s.f0.q, .int .i64 s.f1.k, .int .i64 s.f1.n, .int .i64 s.f1.b, .int .i64 s.f1.a, .int .i64 s.f1.s, .int .i64 s.f1.q, .int .i64 s.w0, .int .i64 s.w1] 48)
      obtain ⟨W5, hW5⟩ : ∃ W5, wr.alloc (.cells #[.int .i64 s.f0.k, .int .i64 s.f0.n, .int .i64 s.f0.b, .int .i64 s.f0.a, .int .i64 s.f0.s, .int .i64 s.f0.q, .int .i64 s.f1.k, .int .i64 s.f1.n, .int .i64 s.f1.b, .int .i64 s.f1.a, .int .i64 s.f1.s, .int .i64 s.f1.q, .int .i64 s.w0, .int .i64 s.w1] 48) = W5 := ⟨_, rfl⟩
      obtain ⟨E5, hE5⟩ : ∃ E5, wr.heap.size = E5 := ⟨_, rfl⟩
      rw [hW5] at sE sN5 b5
      rw [hE5] at sE
      obtain ⟨e0, e1, e2, e3, e4, e5, e6, e7, e8, e9, e10, e11, e12, e13, _⟩ := id sE
      obtain ⟨d0, d1, d2, d3, d4, d5, d6, d7, d8, d9, d10, d11, d12, d13, _⟩ := id sN5
      by_cases hsy : s = y
      · have hdy : decide (s = y) = true := decide_eq_true hsy
        rw [hdy] at heq
        have hnew : L[i]? = some y := by rw [← hsy]; exact hs
        obtain rfl : tz = 0 := by
          rcases htz with ⟨q, _⟩ | ⟨_, j, q1, q2⟩
          · exact q
          · have z1 := ix_at hnd.out q2
            have z2 := ix_at hnd.out hnew
            omega
        replace hnew : Hid _ := hnew
        clear hs hdy hsy htz b4 sN4 hsat
        go_wp2
        go_roundw
        case rel => exact ⟨i + 1, 1, by omega, by go_num, rfl, .inr ⟨rfl, i, by omega, hnew.out⟩, b5⟩
        case measure => simp [intOf]; omega
      · have hdy : decide (s = y) = false := decide_eq_false hsy
        rw [hdy] at heq
        have hnew : L[i]? ≠ some y := by rw [hs]; intro q; injection q with q; exact hsy q
        replace hnew : Hid _ := hnew
        have htz2 : Hid ((tz = 0 ∧ ∀ j, j < i → L[j]? ≠ some y) ∨ (tz = 1 ∧ ∃ j : Nat, j < i ∧ L[j]? = some y)) := htz
        clear hs hdy hsy htz b4 sN4 hsat
        go_wp2
        go_roundw
        case rel =>
          refine ⟨i + 1, tz, by omega, by go_num, rfl, ?_, b5⟩
          rcases htz2.out with ⟨q1, q2⟩ | ⟨q1, j, q2, q3⟩
          · refine .inl ⟨q1, fun j hj => ?_⟩
            rcases Nat.lt_succ_iff_lt_or_eq.1 hj with hj | rfl
            · exact q2 j hj
            · exact hnew.out
          · exact .inr ⟨q1, j, by omega, q3⟩
        case measure => simp [intOf]; omega
    · obtain rfl : len = i := by omega
      obtain rfl : tz = 1 := by
        rcases htz with ⟨_, q⟩ | ⟨q, _⟩
        · obtain ⟨j, hj, e⟩ := List.getElem_of_mem hy.out
          exact absurd (by rw [List.getElem?_eq_getElem hj, e]) (q j (by have := hlen.out; omega))
        · exact q
      clear htz
      go_wp2
      go_ret
      exact ⟨rfl, bthen B b4⟩

end Go.Proofs.Ytilpooifggofiaa.D

namespace Go.Proofs.Ytilpooifggofiaa.D
open Go.RowKit K

theorem neR (a b c d e f : Int) (w : World) :
    (binOp .neq 62 (.agg #[.int .i64 a, .int .i64 b, .int .i64 c, .int .i64 d, .int .i64 e, .int .i64 f]) (.agg #[.int .i64 a, .int .i64 b, .int .i64 c, .int .i64 d, .int .i64 e, .int .i64 f])).run Try.prog w = .ok (.bool false) w := by
  have h := eqR a b c d e f a b c d e f w
  rw [run_eql_struct] at h
  rw [run_neq_struct]
  rw [sameR_self] at h
  generalize (Op.equalIn 10000 62 (.agg #[.int .i64 a, .int .i64 b, .int .i64 c, .int .i64 d, .int .i64 e, .int .i64 f]) (.agg #[.int .i64 a, .int .i64 b, .int .i64 c, .int .i64 d, .int .i64 e, .int .i64 f])).run Try.prog w = q at h ⊢
  cases q with
  | ok v w' => simp at h ⊢; exact ⟨h.1, h.2⟩
  | halt v w' => simp at h

attribute [local go_sem ↓] neR

end Go.Proofs.Ytilpooifggofiaa.D
