/- PROVED: SteadyTells, over what its callees answer. SteadyTells, over what its callees answer. CONDITIONS: none beyond each theorem's own. -/
import Derived.Test.YtilpooifggofiaaB44Tlb
namespace Go.Proofs.Ytilpooifggofiaa.D
open Go.RowKit K
set_option linter.unusedVariables false

set_option maxHeartbeats 6400000 in
theorem tells_hi1 (r : Ru) (n who ratio : Int) (T len : Nat) (L : List Sx) (hlen : L.length = len) (hl3 : len ≤ 300) (hT4 : T ≤ 4800) (b1 : who < 0) (w : World)
    (S : Nat → Nat → Nat → Nat → Nat → World → Prop) (hk : ∀ g0 g1 g2 g3 g4 v v', S g0 g1 g2 g3 g4 v → Below v.heap.size v v' → S g0 g1 g2 g3 g4 v') (hs : ∀ g0 g1 g2 g3 g4 v, S g0 g1 g2 g3 g4 v → ∀ i s, L[i]? = some s → Sat v g0 (i * 14) s)
    (so : ∀ v, Calls Try.prog 7 #[.agg #[.int .i64 r.k0, .int .i64 r.k1, .int .i64 r.r, .int .i64 r.m, .int .i64 r.j]] v fun e w' => ∃ g0 c0 g1 c1 g2 c2 g3 c3 g4 c4, e = .returned (.tuple #[.agg #[.slice (some ⟨g0, 0, none⟩) len c0, .slice (some ⟨g1, 0, none⟩) T c1, .slice (some ⟨g2, 0, none⟩) T c2, .slice (some ⟨g3, 0, none⟩) T c3, .slice (some ⟨g4, 0, none⟩) T c4], .int .i64 0]) ∧ S g0 g1 g2 g3 g4 w' ∧ Below v.heap.size v w')
    (st : ∀ v, Calls Try.prog 8 #[.agg #[.int .i64 r.k0, .int .i64 r.k1, .int .i64 r.r, .int .i64 r.m, .int .i64 r.j]] v fun e w' => ∃ g cp, e = .returned (.tuple #[.slice (some ⟨g, 0, none⟩) len cp, .int .i64 0]) ∧ len ≤ cp ∧ (∀ i s, L[i]? = some s → Sat w' g (i * 14) s) ∧ Below v.heap.size v w')
    (d5 : (len : Int) ≤ n)
    (ld : ∀ v, Calls Try.prog 9 #[.agg #[.int .i64 r.k0, .int .i64 r.k1, .int .i64 r.r, .int .i64 r.m, .int .i64 r.j], .int .i64 n] v fun e w' => e = .returned (.tuple #[.slice none 0 0, .int .i64 3]) ∧ Below v.heap.size v w')
    (gr : ∀ v, Calls Try.prog 10 #[.agg #[.int .i64 r.k0, .int .i64 r.k1, .int .i64 r.r, .int .i64 r.m, .int .i64 r.j], .int .i64 who, .int .i64 ratio] v fun e w' => e = .returned (.tuple #[.agg #[.int .i64 0, .slice none 0 0], .int .i64 2]) ∧ Below v.heap.size v w') :
    Calls Try.prog 3 #[.agg #[.int .i64 r.k0, .int .i64 r.k1, .int .i64 r.r, .int .i64 r.m, .int .i64 r.j], .int .i64 n, .int .i64 who, .int .i64 ratio] w fun e w' => e = .returned (.bool true) ∧ Below w.heap.size w w' := by
  have X := Rul.new w _ rfl r.k0 r.k1 r.r r.m r.j
  have B : Below w.heap.size w (w.alloc (.cells #[.int .i64 r.k0, .int .i64 r.k1, .int .i64 r.r, .int .i64 r.m, .int .i64 r.j] 24)) := balloc (Below.refl _ _) _
  obtain ⟨x0, x1, x2, x3, x4, _, _, _, _, _⟩ := id X
  have d1 : decide (who < 0) = true := decide_eq_true b1
  have e5 : decide (n < 0) = false := decide_eq_false (by omega)
  have e6 : decide ((len : Int) ≤ n) = true := decide_eq_true d5
  replace hlen : Hid _ := hlen
  replace hk : Hid _ := hk
  replace hs : Hid _ := hs
  go_enter Try.func3, Try.ntmps3
  go_wp2_with (first
    | (go_at_call 7; refine (so _).mono ?_; clear so x0 x1 x2 x3 x4; rintro e v1 ⟨g0, c0, g1, c1, g2, c2, g3, c3, g4, c4, rfl, hS, b⟩; have P := Cls.new v1 #[.slice (some ⟨g0, 0, none⟩) len c0, .slice (some ⟨g1, 0, none⟩) T c1, .slice (some ⟨g2, 0, none⟩) T c2, .slice (some ⟨g3, 0, none⟩) T c3, .slice (some ⟨g4, 0, none⟩) T c4] 30; replace hS := hk.out _ _ _ _ _ _ _ hS (balloc (Below.refl _ _) (.cells #[.slice (some ⟨g0, 0, none⟩) len c0, .slice (some ⟨g1, 0, none⟩) T c1, .slice (some ⟨g2, 0, none⟩) T c2, .slice (some ⟨g3, 0, none⟩) T c3, .slice (some ⟨g4, 0, none⟩) T c4] 30)); replace X := X.kept (balloc b (.cells #[.slice (some ⟨g0, 0, none⟩) len c0, .slice (some ⟨g1, 0, none⟩) T c1, .slice (some ⟨g2, 0, none⟩) T c2, .slice (some ⟨g3, 0, none⟩) T c3, .slice (some ⟨g4, 0, none⟩) T c4] 30)); replace B := balloc (bthen B b) (.cells #[.slice (some ⟨g0, 0, none⟩) len c0, .slice (some ⟨g1, 0, none⟩) T c1, .slice (some ⟨g2, 0, none⟩) T c2, .slice (some ⟨g3, 0, none⟩) T c3, .slice (some ⟨g4, 0, none⟩) T c4] 30); clear b; obtain ⟨x0, x1, x2, x3, x4, _, _, _, _, _⟩ := id X)
    | (go_at_call 8; refine (st _).mono ?_; clear st x0 x1 x2 x3 x4; rintro e v2 ⟨ga, ca, rfl, -, hA, b⟩; replace P := P.kept b; replace hS := hk.out _ _ _ _ _ _ _ hS b; replace X := X.kept b; replace B := bthen B b; clear b; obtain ⟨x0, x1, x2, x3, x4, _, _, _, _, _⟩ := id X)
    | (go_at_call 9; refine (ld _).mono ?_; clear ld x0 x1 x2 x3 x4; rintro e v3 ⟨rfl, b⟩; replace hA : ∀ i s, L[i]? = some s → Sat _ ga (i * 14) s := fun i s hi => (hA i s hi).kept (b); replace P := P.kept b; replace hS := hk.out _ _ _ _ _ _ _ hS b; replace X := X.kept b; replace B := bthen B b; clear b; obtain ⟨x0, x1, x2, x3, x4, _, _, _, _, _⟩ := id X)
    | (go_at_call 10; refine (gr _).mono ?_; clear gr x0 x1 x2 x3 x4 X; rintro e v4 ⟨rfl, b⟩; have Q := Cls.new v4 #[.int .i64 0, .slice none 0 0] 40; replace hA : ∀ i s, L[i]? = some s → Sat _ ga (i * 14) s := fun i s hi => (hA i s hi).kept (balloc b (.cells #[.int .i64 0, .slice none 0 0] 40)); replace P := P.kept (balloc b (.cells #[.int .i64 0, .slice none 0 0] 40)); replace hS := hk.out _ _ _ _ _ _ _ hS (balloc b (.cells #[.int .i64 0, .slice none 0 0] 40)); replace B := balloc (bthen B b) (.cells #[.int .i64 0, .slice none 0 0] 40); clear b; have p0 := P.c 0 _ rfl)
    | (go_at_call 11; refine (equal_states _ _ _ _ _ L hlen.out hl3 _ hA (hs.out _ _ _ _ _ _ hS)).mono ?_; clear p0 hA; rintro e v5 ⟨rfl, b⟩; replace Q := Q.kept b; replace P := P.kept b; replace hS := hk.out _ _ _ _ _ _ _ hS b; replace B := bthen B b; clear b; have p0 := P.c 0 _ rfl; have p1 := P.c 1 _ rfl; have p2 := P.c 2 _ rfl; have p3 := P.c 3 _ rfl; have p4 := P.c 4 _ rfl; have q0 := Q.c 0 _ rfl; have q1 := Q.c 1 _ rfl))
  go_ret
  exact ⟨rfl, B⟩

set_option maxHeartbeats 6400000 in
theorem tells_hi2 (r : Ru) (n who ratio : Int) (T len : Nat) (L : List Sx) (hlen : L.length = len) (hl3 : len ≤ 300) (hT4 : T ≤ 4800) (b1 : 1 < who) (w : World)
    (S : Nat → Nat → Nat → Nat → Nat → World → Prop) (hk : ∀ g0 g1 g2 g3 g4 v v', S g0 g1 g2 g3 g4 v → Below v.heap.size v v' → S g0 g1 g2 g3 g4 v') (hs : ∀ g0 g1 g2 g3 g4 v, S g0 g1 g2 g3 g4 v → ∀ i s, L[i]? = some s → Sat v g0 (i * 14) s)
    (so : ∀ v, Calls Try.prog 7 #[.agg #[.int .i64 r.k0, .int .i64 r.k1, .int .i64 r.r, .int .i64 r.m, .int .i64 r.j]] v fun e w' => ∃ g0 c0 g1 c1 g2 c2 g3 c3 g4 c4, e = .returned (.tuple #[.agg #[.slice (some ⟨g0, 0, none⟩) len c0, .slice (some ⟨g1, 0, none⟩) T c1, .slice (some ⟨g2, 0, none⟩) T c2, .slice (some ⟨g3, 0, none⟩) T c3, .slice (some ⟨g4, 0, none⟩) T c4], .int .i64 0]) ∧ S g0 g1 g2 g3 g4 w' ∧ Below v.heap.size v w')
    (st : ∀ v, Calls Try.prog 8 #[.agg #[.int .i64 r.k0, .int .i64 r.k1, .int .i64 r.r, .int .i64 r.m, .int .i64 r.j]] v fun e w' => ∃ g cp, e = .returned (.tuple #[.slice (some ⟨g, 0, none⟩) len cp, .int .i64 0]) ∧ len ≤ cp ∧ (∀ i s, L[i]? = some s → Sat w' g (i * 14) s) ∧ Below v.heap.size v w')
    (d5 : (len : Int) ≤ n)
    (ld : ∀ v, Calls Try.prog 9 #[.agg #[.int .i64 r.k0, .int .i64 r.k1, .int .i64 r.r, .int .i64 r.m, .int .i64 r.j], .int .i64 n] v fun e w' => e = .returned (.tuple #[.slice none 0 0, .int .i64 3]) ∧ Below v.heap.size v w')
    (gr : ∀ v, Calls Try.prog 10 #[.agg #[.int .i64 r.k0, .int .i64 r.k1, .int .i64 r.r, .int .i64 r.m, .int .i64 r.j], .int .i64 who, .int .i64 ratio] v fun e w' => e = .returned (.tuple #[.agg #[.int .i64 0, .slice none 0 0], .int .i64 2]) ∧ Below v.heap.size v w') :
    Calls Try.prog 3 #[.agg #[.int .i64 r.k0, .int .i64 r.k1, .int .i64 r.r, .int .i64 r.m, .int .i64 r.j], .int .i64 n, .int .i64 who, .int .i64 ratio] w fun e w' => e = .returned (.bool true) ∧ Below w.heap.size w w' := by
  have X := Rul.new w _ rfl r.k0 r.k1 r.r r.m r.j
  have B : Below w.heap.size w (w.alloc (.cells #[.int .i64 r.k0, .int .i64 r.k1, .int .i64 r.r, .int .i64 r.m, .int .i64 r.j] 24)) := balloc (Below.refl _ _) _
  obtain ⟨x0, x1, x2, x3, x4, _, _, _, _, _⟩ := id X
  have d1 : decide (who < 0) = false := decide_eq_false (by omega)
  have d2 : decide (1 < who) = true := decide_eq_true b1
  have e5 : decide (n < 0) = false := decide_eq_false (by omega)
  have e6 : decide ((len : Int) ≤ n) = true := decide_eq_true d5
  replace hlen : Hid _ := hlen
  replace hk : Hid _ := hk
  replace hs : Hid _ := hs
  go_enter Try.func3, Try.ntmps3
  go_wp2_with (first
    | (go_at_call 7; refine (so _).mono ?_; clear so x0 x1 x2 x3 x4; rintro e v1 ⟨g0, c0, g1, c1, g2, c2, g3, c3, g4, c4, rfl, hS, b⟩; have P := Cls.new v1 #[.slice (some ⟨g0, 0, none⟩) len c0, .slice (some ⟨g1, 0, none⟩) T c1, .slice (some ⟨g2, 0, none⟩) T c2, .slice (some ⟨g3, 0, none⟩) T c3, .slice (some ⟨g4, 0, none⟩) T c4] 30; replace hS := hk.out _ _ _ _ _ _ _ hS (balloc (Below.refl _ _) (.cells #[.slice (some ⟨g0, 0, none⟩) len c0, .slice (some ⟨g1, 0, none⟩) T c1, .slice (some ⟨g2, 0, none⟩) T c2, .slice (some ⟨g3, 0, none⟩) T c3, .slice (some ⟨g4, 0, none⟩) T c4] 30)); replace X := X.kept (balloc b (.cells #[.slice (some ⟨g0, 0, none⟩) len c0, .slice (some ⟨g1, 0, none⟩) T c1, .slice (some ⟨g2, 0, none⟩) T c2, .slice (some ⟨g3, 0, none⟩) T c3, .slice (some ⟨g4, 0, none⟩) T c4] 30)); replace B := balloc (bthen B b) (.cells #[.slice (some ⟨g0, 0, none⟩) len c0, .slice (some ⟨g1, 0, none⟩) T c1, .slice (some ⟨g2, 0, none⟩) T c2, .slice (some ⟨g3, 0, none⟩) T c3, .slice (some ⟨g4, 0, none⟩) T c4] 30); clear b; obtain ⟨x0, x1, x2, x3, x4, _, _, _, _, _⟩ := id X)
    | (go_at_call 8; refine (st _).mono ?_; clear st x0 x1 x2 x3 x4; rintro e v2 ⟨ga, ca, rfl, -, hA, b⟩; replace P := P.kept b; replace hS := hk.out _ _ _ _ _ _ _ hS b; replace X := X.kept b; replace B := bthen B b; clear b; obtain ⟨x0, x1, x2, x3, x4, _, _, _, _, _⟩ := id X)
    | (go_at_call 9; refine (ld _).mono ?_; clear ld x0 x1 x2 x3 x4; rintro e v3 ⟨rfl, b⟩; replace hA : ∀ i s, L[i]? = some s → Sat _ ga (i * 14) s := fun i s hi => (hA i s hi).kept (b); replace P := P.kept b; replace hS := hk.out _ _ _ _ _ _ _ hS b; replace X := X.kept b; replace B := bthen B b; clear b; obtain ⟨x0, x1, x2, x3, x4, _, _, _, _, _⟩ := id X)
    | (go_at_call 10; refine (gr _).mono ?_; clear gr x0 x1 x2 x3 x4 X; rintro e v4 ⟨rfl, b⟩; have Q := Cls.new v4 #[.int .i64 0, .slice none 0 0] 40; replace hA : ∀ i s, L[i]? = some s → Sat _ ga (i * 14) s := fun i s hi => (hA i s hi).kept (balloc b (.cells #[.int .i64 0, .slice none 0 0] 40)); replace P := P.kept (balloc b (.cells #[.int .i64 0, .slice none 0 0] 40)); replace hS := hk.out _ _ _ _ _ _ _ hS (balloc b (.cells #[.int .i64 0, .slice none 0 0] 40)); replace B := balloc (bthen B b) (.cells #[.int .i64 0, .slice none 0 0] 40); clear b; have p0 := P.c 0 _ rfl)
    | (go_at_call 11; refine (equal_states _ _ _ _ _ L hlen.out hl3 _ hA (hs.out _ _ _ _ _ _ hS)).mono ?_; clear p0 hA; rintro e v5 ⟨rfl, b⟩; replace Q := Q.kept b; replace P := P.kept b; replace hS := hk.out _ _ _ _ _ _ _ hS b; replace B := bthen B b; clear b; have p0 := P.c 0 _ rfl; have p1 := P.c 1 _ rfl; have p2 := P.c 2 _ rfl; have p3 := P.c 3 _ rfl; have p4 := P.c 4 _ rfl; have q0 := Q.c 0 _ rfl; have q1 := Q.c 1 _ rfl))
  go_ret
  exact ⟨rfl, B⟩

set_option maxHeartbeats 6400000 in
theorem tells_hi3 (r : Ru) (n who ratio : Int) (T len : Nat) (L : List Sx) (hlen : L.length = len) (hl3 : len ≤ 300) (hT4 : T ≤ 4800) (b1 : 0 ≤ who ∧ who ≤ 1) (b2 : ratio < 1) (w : World)
    (S : Nat → Nat → Nat → Nat → Nat → World → Prop) (hk : ∀ g0 g1 g2 g3 g4 v v', S g0 g1 g2 g3 g4 v → Below v.heap.size v v' → S g0 g1 g2 g3 g4 v') (hs : ∀ g0 g1 g2 g3 g4 v, S g0 g1 g2 g3 g4 v → ∀ i s, L[i]? = some s → Sat v g0 (i * 14) s)
    (so : ∀ v, Calls Try.prog 7 #[.agg #[.int .i64 r.k0, .int .i64 r.k1, .int .i64 r.r, .int .i64 r.m, .int .i64 r.j]] v fun e w' => ∃ g0 c0 g1 c1 g2 c2 g3 c3 g4 c4, e = .returned (.tuple #[.agg #[.slice (some ⟨g0, 0, none⟩) len c0, .slice (some ⟨g1, 0, none⟩) T c1, .slice (some ⟨g2, 0, none⟩) T c2, .slice (some ⟨g3, 0, none⟩) T c3, .slice (some ⟨g4, 0, none⟩) T c4], .int .i64 0]) ∧ S g0 g1 g2 g3 g4 w' ∧ Below v.heap.size v w')
    (st : ∀ v, Calls Try.prog 8 #[.agg #[.int .i64 r.k0, .int .i64 r.k1, .int .i64 r.r, .int .i64 r.m, .int .i64 r.j]] v fun e w' => ∃ g cp, e = .returned (.tuple #[.slice (some ⟨g, 0, none⟩) len cp, .int .i64 0]) ∧ len ≤ cp ∧ (∀ i s, L[i]? = some s → Sat w' g (i * 14) s) ∧ Below v.heap.size v w')
    (d5 : (len : Int) ≤ n)
    (ld : ∀ v, Calls Try.prog 9 #[.agg #[.int .i64 r.k0, .int .i64 r.k1, .int .i64 r.r, .int .i64 r.m, .int .i64 r.j], .int .i64 n] v fun e w' => e = .returned (.tuple #[.slice none 0 0, .int .i64 3]) ∧ Below v.heap.size v w')
    (gr : ∀ v, Calls Try.prog 10 #[.agg #[.int .i64 r.k0, .int .i64 r.k1, .int .i64 r.r, .int .i64 r.m, .int .i64 r.j], .int .i64 who, .int .i64 ratio] v fun e w' => e = .returned (.tuple #[.agg #[.int .i64 0, .slice none 0 0], .int .i64 2]) ∧ Below v.heap.size v w') :
    Calls Try.prog 3 #[.agg #[.int .i64 r.k0, .int .i64 r.k1, .int .i64 r.r, .int .i64 r.m, .int .i64 r.j], .int .i64 n, .int .i64 who, .int .i64 ratio] w fun e w' => e = .returned (.bool true) ∧ Below w.heap.size w w' := by
  have X := Rul.new w _ rfl r.k0 r.k1 r.r r.m r.j
  have B : Below w.heap.size w (w.alloc (.cells #[.int .i64 r.k0, .int .i64 r.k1, .int .i64 r.r, .int .i64 r.m, .int .i64 r.j] 24)) := balloc (Below.refl _ _) _
  obtain ⟨x0, x1, x2, x3, x4, _, _, _, _, _⟩ := id X
  have d1 : decide (who < 0) = false := decide_eq_false (by omega)
  have d2 : decide (1 < who) = false := decide_eq_false (by omega)
  have d3 : decide (ratio < 1) = true := decide_eq_true b2
  have e5 : decide (n < 0) = false := decide_eq_false (by omega)
  have e6 : decide ((len : Int) ≤ n) = true := decide_eq_true d5
  replace hlen : Hid _ := hlen
  replace hk : Hid _ := hk
  replace hs : Hid _ := hs
  go_enter Try.func3, Try.ntmps3
  go_wp2_with (first
    | (go_at_call 7; refine (so _).mono ?_; clear so x0 x1 x2 x3 x4; rintro e v1 ⟨g0, c0, g1, c1, g2, c2, g3, c3, g4, c4, rfl, hS, b⟩; have P := Cls.new v1 #[.slice (some ⟨g0, 0, none⟩) len c0, .slice (some ⟨g1, 0, none⟩) T c1, .slice (some ⟨g2, 0, none⟩) T c2, .slice (some ⟨g3, 0, none⟩) T c3, .slice (some ⟨g4, 0, none⟩) T c4] 30; replace hS := hk.out _ _ _ _ _ _ _ hS (balloc (Below.refl _ _) (.cells #[.slice (some ⟨g0, 0, none⟩) len c0, .slice (some ⟨g1, 0, none⟩) T c1, .slice (some ⟨g2, 0, none⟩) T c2, .slice (some ⟨g3, 0, none⟩) T c3, .slice (some ⟨g4, 0, none⟩) T c4] 30)); replace X := X.kept (balloc b (.cells #[.slice (some ⟨g0, 0, none⟩) len c0, .slice (some ⟨g1, 0, none⟩) T c1, .slice (some ⟨g2, 0, none⟩) T c2, .slice (some ⟨g3, 0, none⟩) T c3, .slice (some ⟨g4, 0, none⟩) T c4] 30)); replace B := balloc (bthen B b) (.cells #[.slice (some ⟨g0, 0, none⟩) len c0, .slice (some ⟨g1, 0, none⟩) T c1, .slice (some ⟨g2, 0, none⟩) T c2, .slice (some ⟨g3, 0, none⟩) T c3, .slice (some ⟨g4, 0, none⟩) T c4] 30); clear b; obtain ⟨x0, x1, x2, x3, x4, _, _, _, _, _⟩ := id X)
    | (go_at_call 8; refine (st _).mono ?_; clear st x0 x1 x2 x3 x4; rintro e v2 ⟨ga, ca, rfl, -, hA, b⟩; replace P := P.kept b; replace hS := hk.out _ _ _ _ _ _ _ hS b; replace X := X.kept b; replace B := bthen B b; clear b; obtain ⟨x0, x1, x2, x3, x4, _, _, _, _, _⟩ := id X)
    | (go_at_call 9; refine (ld _).mono ?_; clear ld x0 x1 x2 x3 x4; rintro e v3 ⟨rfl, b⟩; replace hA : ∀ i s, L[i]? = some s → Sat _ ga (i * 14) s := fun i s hi => (hA i s hi).kept (b); replace P := P.kept b; replace hS := hk.out _ _ _ _ _ _ _ hS b; replace X := X.kept b; replace B := bthen B b; clear b; obtain ⟨x0, x1, x2, x3, x4, _, _, _, _, _⟩ := id X)
    | (go_at_call 10; refine (gr _).mono ?_; clear gr x0 x1 x2 x3 x4 X; rintro e v4 ⟨rfl, b⟩; have Q := Cls.new v4 #[.int .i64 0, .slice none 0 0] 40; replace hA : ∀ i s, L[i]? = some s → Sat _ ga (i * 14) s := fun i s hi => (hA i s hi).kept (balloc b (.cells #[.int .i64 0, .slice none 0 0] 40)); replace P := P.kept (balloc b (.cells #[.int .i64 0, .slice none 0 0] 40)); replace hS := hk.out _ _ _ _ _ _ _ hS (balloc b (.cells #[.int .i64 0, .slice none 0 0] 40)); replace B := balloc (bthen B b) (.cells #[.int .i64 0, .slice none 0 0] 40); clear b; have p0 := P.c 0 _ rfl)
    | (go_at_call 11; refine (equal_states _ _ _ _ _ L hlen.out hl3 _ hA (hs.out _ _ _ _ _ _ hS)).mono ?_; clear p0 hA; rintro e v5 ⟨rfl, b⟩; replace Q := Q.kept b; replace P := P.kept b; replace hS := hk.out _ _ _ _ _ _ _ hS b; replace B := bthen B b; clear b; have p0 := P.c 0 _ rfl; have p1 := P.c 1 _ rfl; have p2 := P.c 2 _ rfl; have p3 := P.c 3 _ rfl; have p4 := P.c 4 _ rfl; have q0 := Q.c 0 _ rfl; have q1 := Q.c 1 _ rfl))
  go_ret
  exact ⟨rfl, B⟩

set_option maxHeartbeats 6400000 in
theorem tells_hi4 (r : Ru) (n who ratio : Int) (T len : Nat) (L : List Sx) (hlen : L.length = len) (hl3 : len ≤ 300) (hT4 : T ≤ 4800) (b1 : 0 ≤ who ∧ who ≤ 1) (b2 : 100 < ratio) (w : World)
    (S : Nat → Nat → Nat → Nat → Nat → World → Prop) (hk : ∀ g0 g1 g2 g3 g4 v v', S g0 g1 g2 g3 g4 v → Below v.heap.size v v' → S g0 g1 g2 g3 g4 v') (hs : ∀ g0 g1 g2 g3 g4 v, S g0 g1 g2 g3 g4 v → ∀ i s, L[i]? = some s → Sat v g0 (i * 14) s)
    (so : ∀ v, Calls Try.prog 7 #[.agg #[.int .i64 r.k0, .int .i64 r.k1, .int .i64 r.r, .int .i64 r.m, .int .i64 r.j]] v fun e w' => ∃ g0 c0 g1 c1 g2 c2 g3 c3 g4 c4, e = .returned (.tuple #[.agg #[.slice (some ⟨g0, 0, none⟩) len c0, .slice (some ⟨g1, 0, none⟩) T c1, .slice (some ⟨g2, 0, none⟩) T c2, .slice (some ⟨g3, 0, none⟩) T c3, .slice (some ⟨g4, 0, none⟩) T c4], .int .i64 0]) ∧ S g0 g1 g2 g3 g4 w' ∧ Below v.heap.size v w')
    (st : ∀ v, Calls Try.prog 8 #[.agg #[.int .i64 r.k0, .int .i64 r.k1, .int .i64 r.r, .int .i64 r.m, .int .i64 r.j]] v fun e w' => ∃ g cp, e = .returned (.tuple #[.slice (some ⟨g, 0, none⟩) len cp, .int .i64 0]) ∧ len ≤ cp ∧ (∀ i s, L[i]? = some s → Sat w' g (i * 14) s) ∧ Below v.heap.size v w')
    (d5 : (len : Int) ≤ n)
    (ld : ∀ v, Calls Try.prog 9 #[.agg #[.int .i64 r.k0, .int .i64 r.k1, .int .i64 r.r, .int .i64 r.m, .int .i64 r.j], .int .i64 n] v fun e w' => e = .returned (.tuple #[.slice none 0 0, .int .i64 3]) ∧ Below v.heap.size v w')
    (gr : ∀ v, Calls Try.prog 10 #[.agg #[.int .i64 r.k0, .int .i64 r.k1, .int .i64 r.r, .int .i64 r.m, .int .i64 r.j], .int .i64 who, .int .i64 ratio] v fun e w' => e = .returned (.tuple #[.agg #[.int .i64 0, .slice none 0 0], .int .i64 2]) ∧ Below v.heap.size v w') :
    Calls Try.prog 3 #[.agg #[.int .i64 r.k0, .int .i64 r.k1, .int .i64 r.r, .int .i64 r.m, .int .i64 r.j], .int .i64 n, .int .i64 who, .int .i64 ratio] w fun e w' => e = .returned (.bool true) ∧ Below w.heap.size w w' := by
  have X := Rul.new w _ rfl r.k0 r.k1 r.r r.m r.j
  have B : Below w.heap.size w (w.alloc (.cells #[.int .i64 r.k0, .int .i64 r.k1, .int .i64 r.r, .int .i64 r.m, .int .i64 r.j] 24)) := balloc (Below.refl _ _) _
  obtain ⟨x0, x1, x2, x3, x4, _, _, _, _, _⟩ := id X
  have d1 : decide (who < 0) = false := decide_eq_false (by omega)
  have d2 : decide (1 < who) = false := decide_eq_false (by omega)
  have d3 : decide (ratio < 1) = false := decide_eq_false (by omega)
  have d4 : decide (100 < ratio) = true := decide_eq_true b2
  have e5 : decide (n < 0) = false := decide_eq_false (by omega)
  have e6 : decide ((len : Int) ≤ n) = true := decide_eq_true d5
  replace hlen : Hid _ := hlen
  replace hk : Hid _ := hk
  replace hs : Hid _ := hs
  go_enter Try.func3, Try.ntmps3
  go_wp2_with (first
    | (go_at_call 7; refine (so _).mono ?_; clear so x0 x1 x2 x3 x4; rintro e v1 ⟨g0, c0, g1, c1, g2, c2, g3, c3, g4, c4, rfl, hS, b⟩; have P := Cls.new v1 #[.slice (some ⟨g0, 0, none⟩) len c0, .slice (some ⟨g1, 0, none⟩) T c1, .slice (some ⟨g2, 0, none⟩) T c2, .slice (some ⟨g3, 0, none⟩) T c3, .slice (some ⟨g4, 0, none⟩) T c4] 30; replace hS := hk.out _ _ _ _ _ _ _ hS (balloc (Below.refl _ _) (.cells #[.slice (some ⟨g0, 0, none⟩) len c0, .slice (some ⟨g1, 0, none⟩) T c1, .slice (some ⟨g2, 0, none⟩) T c2, .slice (some ⟨g3, 0, none⟩) T c3, .slice (some ⟨g4, 0, none⟩) T c4] 30)); replace X := X.kept (balloc b (.cells #[.slice (some ⟨g0, 0, none⟩) len c0, .slice (some ⟨g1, 0, none⟩) T c1, .slice (some ⟨g2, 0, none⟩) T c2, .slice (some ⟨g3, 0, none⟩) T c3, .slice (some ⟨g4, 0, none⟩) T c4] 30)); replace B := balloc (bthen B b) (.cells #[.slice (some ⟨g0, 0, none⟩) len c0, .slice (some ⟨g1, 0, none⟩) T c1, .slice (some ⟨g2, 0, none⟩) T c2, .slice (some ⟨g3, 0, none⟩) T c3, .slice (some ⟨g4, 0, none⟩) T c4] 30); clear b; obtain ⟨x0, x1, x2, x3, x4, _, _, _, _, _⟩ := id X)
    | (go_at_call 8; refine (st _).mono ?_; clear st x0 x1 x2 x3 x4; rintro e v2 ⟨ga, ca, rfl, -, hA, b⟩; replace P := P.kept b; replace hS := hk.out _ _ _ _ _ _ _ hS b; replace X := X.kept b; replace B := bthen B b; clear b; obtain ⟨x0, x1, x2, x3, x4, _, _, _, _, _⟩ := id X)
    | (go_at_call 9; refine (ld _).mono ?_; clear ld x0 x1 x2 x3 x4; rintro e v3 ⟨rfl, b⟩; replace hA : ∀ i s, L[i]? = some s → Sat _ ga (i * 14) s := fun i s hi => (hA i s hi).kept (b); replace P := P.kept b; replace hS := hk.out _ _ _ _ _ _ _ hS b; replace X := X.kept b; replace B := bthen B b; clear b; obtain ⟨x0, x1, x2, x3, x4, _, _, _, _, _⟩ := id X)
    | (go_at_call 10; refine (gr _).mono ?_; clear gr x0 x1 x2 x3 x4 X; rintro e v4 ⟨rfl, b⟩; have Q := Cls.new v4 #[.int .i64 0, .slice none 0 0] 40; replace hA : ∀ i s, L[i]? = some s → Sat _ ga (i * 14) s := fun i s hi => (hA i s hi).kept (balloc b (.cells #[.int .i64 0, .slice none 0 0] 40)); replace P := P.kept (balloc b (.cells #[.int .i64 0, .slice none 0 0] 40)); replace hS := hk.out _ _ _ _ _ _ _ hS (balloc b (.cells #[.int .i64 0, .slice none 0 0] 40)); replace B := balloc (bthen B b) (.cells #[.int .i64 0, .slice none 0 0] 40); clear b; have p0 := P.c 0 _ rfl)
    | (go_at_call 11; refine (equal_states _ _ _ _ _ L hlen.out hl3 _ hA (hs.out _ _ _ _ _ _ hS)).mono ?_; clear p0 hA; rintro e v5 ⟨rfl, b⟩; replace Q := Q.kept b; replace P := P.kept b; replace hS := hk.out _ _ _ _ _ _ _ hS b; replace B := bthen B b; clear b; have p0 := P.c 0 _ rfl; have p1 := P.c 1 _ rfl; have p2 := P.c 2 _ rfl; have p3 := P.c 3 _ rfl; have p4 := P.c 4 _ rfl; have q0 := Q.c 0 _ rfl; have q1 := Q.c 1 _ rfl))
  go_ret
  exact ⟨rfl, B⟩

set_option maxHeartbeats 6400000 in
theorem tells_hi5 (r : Ru) (n who ratio : Int) (T len : Nat) (L : List Sx) (hlen : L.length = len) (hl3 : len ≤ 300) (hT4 : T ≤ 4800) (b1 : 0 ≤ who ∧ who ≤ 1) (b2 : 1 ≤ ratio ∧ ratio ≤ 100) (w : World)
    (S : Nat → Nat → Nat → Nat → Nat → World → Prop) (hk : ∀ g0 g1 g2 g3 g4 v v', S g0 g1 g2 g3 g4 v → Below v.heap.size v v' → S g0 g1 g2 g3 g4 v') (hs : ∀ g0 g1 g2 g3 g4 v, S g0 g1 g2 g3 g4 v → ∀ i s, L[i]? = some s → Sat v g0 (i * 14) s)
    (so : ∀ v, Calls Try.prog 7 #[.agg #[.int .i64 r.k0, .int .i64 r.k1, .int .i64 r.r, .int .i64 r.m, .int .i64 r.j]] v fun e w' => ∃ g0 c0 g1 c1 g2 c2 g3 c3 g4 c4, e = .returned (.tuple #[.agg #[.slice (some ⟨g0, 0, none⟩) len c0, .slice (some ⟨g1, 0, none⟩) T c1, .slice (some ⟨g2, 0, none⟩) T c2, .slice (some ⟨g3, 0, none⟩) T c3, .slice (some ⟨g4, 0, none⟩) T c4], .int .i64 0]) ∧ S g0 g1 g2 g3 g4 w' ∧ Below v.heap.size v w')
    (st : ∀ v, Calls Try.prog 8 #[.agg #[.int .i64 r.k0, .int .i64 r.k1, .int .i64 r.r, .int .i64 r.m, .int .i64 r.j]] v fun e w' => ∃ g cp, e = .returned (.tuple #[.slice (some ⟨g, 0, none⟩) len cp, .int .i64 0]) ∧ len ≤ cp ∧ (∀ i s, L[i]? = some s → Sat w' g (i * 14) s) ∧ Below v.heap.size v w')
    (d5 : (len : Int) ≤ n)
    (ld : ∀ v, Calls Try.prog 9 #[.agg #[.int .i64 r.k0, .int .i64 r.k1, .int .i64 r.r, .int .i64 r.m, .int .i64 r.j], .int .i64 n] v fun e w' => e = .returned (.tuple #[.slice none 0 0, .int .i64 3]) ∧ Below v.heap.size v w')
    (F G H : Nat → Int)
    (gr : ∀ v, Calls Try.prog 10 #[.agg #[.int .i64 r.k0, .int .i64 r.k1, .int .i64 r.r, .int .i64 r.m, .int .i64 r.j], .int .i64 who, .int .i64 ratio] v fun e w' => ∃ h cp, e = .returned (.tuple #[.agg #[.int .i64 (len : Int), .slice (some ⟨h, 0, none⟩) T cp], .int .i64 0]) ∧ T ≤ cp ∧ (∀ u, u < T → EAt w' h (u * 3) (F u) (G u) (H u)) ∧ Below v.heap.size v w')
    (sg : ∀ g0 c0 g1 c1 g2 c2 g3 c3 g4 c4 v, S g0 g1 g2 g3 g4 v → Calls Try.prog 14 #[.agg #[.slice (some ⟨g0, 0, none⟩) len c0, .slice (some ⟨g1, 0, none⟩) T c1, .slice (some ⟨g2, 0, none⟩) T c2, .slice (some ⟨g3, 0, none⟩) T c3, .slice (some ⟨g4, 0, none⟩) T c4], .int .i64 who, .int .i64 ratio] v fun e w' => ∃ h cp, e = .returned (.agg #[.int .i64 (len : Int), .slice (some ⟨h, 0, none⟩) T cp]) ∧ T ≤ cp ∧ (∀ u, u < T → EAt w' h (u * 3) (F u) (G u) (H u)) ∧ Below v.heap.size v w') :
    Calls Try.prog 3 #[.agg #[.int .i64 r.k0, .int .i64 r.k1, .int .i64 r.r, .int .i64 r.m, .int .i64 r.j], .int .i64 n, .int .i64 who, .int .i64 ratio] w fun e w' => e = .returned (.bool true) ∧ Below w.heap.size w w' := by
  have X := Rul.new w _ rfl r.k0 r.k1 r.r r.m r.j
  have B : Below w.heap.size w (w.alloc (.cells #[.int .i64 r.k0, .int .i64 r.k1, .int .i64 r.r, .int .i64 r.m, .int .i64 r.j] 24)) := balloc (Below.refl _ _) _
  obtain ⟨x0, x1, x2, x3, x4, _, _, _, _, _⟩ := id X
  have d1 : decide (who < 0) = false := decide_eq_false (by omega)
  have d2 : decide (1 < who) = false := decide_eq_false (by omega)
  have d3 : decide (ratio < 1) = false := decide_eq_false (by omega)
  have d4 : decide (100 < ratio) = false := decide_eq_false (by omega)
  have e5 : decide (n < 0) = false := decide_eq_false (by omega)
  have e6 : decide ((len : Int) ≤ n) = true := decide_eq_true d5
  replace hlen : Hid _ := hlen
  replace hk : Hid _ := hk
  replace hs : Hid _ := hs
  go_enter Try.func3, Try.ntmps3
  go_wp2_with (first
    | (go_at_call 7; refine (so _).mono ?_; clear so x0 x1 x2 x3 x4; rintro e v1 ⟨g0, c0, g1, c1, g2, c2, g3, c3, g4, c4, rfl, hS, b⟩; have P := Cls.new v1 #[.slice (some ⟨g0, 0, none⟩) len c0, .slice (some ⟨g1, 0, none⟩) T c1, .slice (some ⟨g2, 0, none⟩) T c2, .slice (some ⟨g3, 0, none⟩) T c3, .slice (some ⟨g4, 0, none⟩) T c4] 30; replace hS := hk.out _ _ _ _ _ _ _ hS (balloc (Below.refl _ _) (.cells #[.slice (some ⟨g0, 0, none⟩) len c0, .slice (some ⟨g1, 0, none⟩) T c1, .slice (some ⟨g2, 0, none⟩) T c2, .slice (some ⟨g3, 0, none⟩) T c3, .slice (some ⟨g4, 0, none⟩) T c4] 30)); replace X := X.kept (balloc b (.cells #[.slice (some ⟨g0, 0, none⟩) len c0, .slice (some ⟨g1, 0, none⟩) T c1, .slice (some ⟨g2, 0, none⟩) T c2, .slice (some ⟨g3, 0, none⟩) T c3, .slice (some ⟨g4, 0, none⟩) T c4] 30)); replace B := balloc (bthen B b) (.cells #[.slice (some ⟨g0, 0, none⟩) len c0, .slice (some ⟨g1, 0, none⟩) T c1, .slice (some ⟨g2, 0, none⟩) T c2, .slice (some ⟨g3, 0, none⟩) T c3, .slice (some ⟨g4, 0, none⟩) T c4] 30); clear b; obtain ⟨x0, x1, x2, x3, x4, _, _, _, _, _⟩ := id X)
    | (go_at_call 8; refine (st _).mono ?_; clear st x0 x1 x2 x3 x4; rintro e v2 ⟨ga, ca, rfl, -, hA, b⟩; replace P := P.kept b; replace hS := hk.out _ _ _ _ _ _ _ hS b; replace X := X.kept b; replace B := bthen B b; clear b; obtain ⟨x0, x1, x2, x3, x4, _, _, _, _, _⟩ := id X)
    | (go_at_call 9; refine (ld _).mono ?_; clear ld x0 x1 x2 x3 x4; rintro e v3 ⟨rfl, b⟩; replace hA : ∀ i s, L[i]? = some s → Sat _ ga (i * 14) s := fun i s hi => (hA i s hi).kept (b); replace P := P.kept b; replace hS := hk.out _ _ _ _ _ _ _ hS b; replace X := X.kept b; replace B := bthen B b; clear b; obtain ⟨x0, x1, x2, x3, x4, _, _, _, _, _⟩ := id X)
    | (go_at_call 10; refine (gr _).mono ?_; clear gr x0 x1 x2 x3 x4 X; rintro e v4 ⟨h1, k1, rfl, -, hE1, b⟩; have Q := Cls.new v4 #[.int .i64 (len : Int), .slice (some ⟨h1, 0, none⟩) T k1] 40; replace hE1 : ∀ u, u < T → EAt _ h1 (u * 3) (F u) (G u) (H u) := fun u hu => (hE1 u hu).kept (balloc (Below.refl _ _) (.cells #[.int .i64 (len : Int), .slice (some ⟨h1, 0, none⟩) T k1] 40)); replace hA : ∀ i s, L[i]? = some s → Sat _ ga (i * 14) s := fun i s hi => (hA i s hi).kept (balloc b (.cells #[.int .i64 (len : Int), .slice (some ⟨h1, 0, none⟩) T k1] 40)); replace P := P.kept (balloc b (.cells #[.int .i64 (len : Int), .slice (some ⟨h1, 0, none⟩) T k1] 40)); replace hS := hk.out _ _ _ _ _ _ _ hS (balloc b (.cells #[.int .i64 (len : Int), .slice (some ⟨h1, 0, none⟩) T k1] 40)); replace B := balloc (bthen B b) (.cells #[.int .i64 (len : Int), .slice (some ⟨h1, 0, none⟩) T k1] 40); clear b; have p0 := P.c 0 _ rfl)
    | (go_at_call 11; refine (equal_states _ _ _ _ _ L hlen.out hl3 _ hA (hs.out _ _ _ _ _ _ hS)).mono ?_; clear p0 hA; rintro e v5 ⟨rfl, b⟩; replace Q := Q.kept b; replace P := P.kept b; replace hS := hk.out _ _ _ _ _ _ _ hS b; replace hE1 : ∀ u, u < T → EAt _ h1 (u * 3) (F u) (G u) (H u) := fun u hu => (hE1 u hu).kept (b); replace B := bthen B b; clear b; have p0 := P.c 0 _ rfl; have p1 := P.c 1 _ rfl; have p2 := P.c 2 _ rfl; have p3 := P.c 3 _ rfl; have p4 := P.c 4 _ rfl; have q0 := Q.c 0 _ rfl; have q1 := Q.c 1 _ rfl)
    | (go_at_call 14; refine (sg _ _ _ _ _ _ _ _ _ _ _ hS).mono ?_; clear sg p0 p1 p2 p3 p4 P q0 q1 hS; rintro e v8 ⟨h2, k2, rfl, -, hE2, b⟩; have Q2 := Cls.new v8 #[.int .i64 (len : Int), .slice (some ⟨h2, 0, none⟩) T k2] 40; replace hE2 : ∀ u, u < T → EAt _ h2 (u * 3) (F u) (G u) (H u) := fun u hu => (hE2 u hu).kept (balloc (Below.refl _ _) (.cells #[.int .i64 (len : Int), .slice (some ⟨h2, 0, none⟩) T k2] 40)); replace Q := Q.kept (balloc b (.cells #[.int .i64 (len : Int), .slice (some ⟨h2, 0, none⟩) T k2] 40)); replace hE1 : ∀ u, u < T → EAt _ h1 (u * 3) (F u) (G u) (H u) := fun u hu => (hE1 u hu).kept (balloc b (.cells #[.int .i64 (len : Int), .slice (some ⟨h2, 0, none⟩) T k2] 40)); replace B := balloc (bthen B b) (.cells #[.int .i64 (len : Int), .slice (some ⟨h2, 0, none⟩) T k2] 40); clear b; have q0 := Q.c 0 _ rfl; have q1 := Q.c 1 _ rfl; have r0 := Q2.c 0 _ rfl; have r1 := Q2.c 1 _ rfl)
    | (go_at_call 15; refine (equal_edges _ _ _ _ _ F G H hT4 _ hE1 hE2).mono ?_; clear Q Q2 q0 q1 r0 r1 hE1 hE2; rintro e v9 ⟨rfl, b⟩; replace B := bthen B b; clear b))
  go_ret
  exact ⟨rfl, B⟩

end Go.Proofs.Ytilpooifggofiaa.D

namespace Go.Proofs.Ytilpooifggofiaa.D
open Go.RowKit K
set_option linter.unusedVariables false

set_option maxHeartbeats 6400000 in
theorem tells_in1 (r : Ru) (n who ratio : Int) (T len : Nat) (L : List Sx) (hlen : L.length = len) (hl3 : len ≤ 300) (hT4 : T ≤ 4800) (b1 : who < 0) (w : World)
    (S : Nat → Nat → Nat → Nat → Nat → World → Prop) (hk : ∀ g0 g1 g2 g3 g4 v v', S g0 g1 g2 g3 g4 v → Below v.heap.size v v' → S g0 g1 g2 g3 g4 v') (hs : ∀ g0 g1 g2 g3 g4 v, S g0 g1 g2 g3 g4 v → ∀ i s, L[i]? = some s → Sat v g0 (i * 14) s)
    (so : ∀ v, Calls Try.prog 7 #[.agg #[.int .i64 r.k0, .int .i64 r.k1, .int .i64 r.r, .int .i64 r.m, .int .i64 r.j]] v fun e w' => ∃ g0 c0 g1 c1 g2 c2 g3 c3 g4 c4, e = .returned (.tuple #[.agg #[.slice (some ⟨g0, 0, none⟩) len c0, .slice (some ⟨g1, 0, none⟩) T c1, .slice (some ⟨g2, 0, none⟩) T c2, .slice (some ⟨g3, 0, none⟩) T c3, .slice (some ⟨g4, 0, none⟩) T c4], .int .i64 0]) ∧ S g0 g1 g2 g3 g4 w' ∧ Below v.heap.size v w')
    (st : ∀ v, Calls Try.prog 8 #[.agg #[.int .i64 r.k0, .int .i64 r.k1, .int .i64 r.r, .int .i64 r.m, .int .i64 r.j]] v fun e w' => ∃ g cp, e = .returned (.tuple #[.slice (some ⟨g, 0, none⟩) len cp, .int .i64 0]) ∧ len ≤ cp ∧ (∀ i s, L[i]? = some s → Sat w' g (i * 14) s) ∧ Below v.heap.size v w')
    (k : Nat) (ps : List (Int × Int)) (hps : ps.length = k) (hk3 : k ≤ 300) (d5 : 0 ≤ n) (d6 : n < (len : Int))
    (ld : ∀ v, Calls Try.prog 9 #[.agg #[.int .i64 r.k0, .int .i64 r.k1, .int .i64 r.r, .int .i64 r.m, .int .i64 r.j], .int .i64 n] v fun e w' => ∃ ao cp, e = .returned (.tuple #[.slice ao k cp, .int .i64 0]) ∧ VRow w' ao ps ∧ Below v.heap.size v w')
    (sl : ∀ g0 c0 g1 c1 g2 c2 g3 c3 g4 c4 v, S g0 g1 g2 g3 g4 v → Calls Try.prog 13 #[.agg #[.slice (some ⟨g0, 0, none⟩) len c0, .slice (some ⟨g1, 0, none⟩) T c1, .slice (some ⟨g2, 0, none⟩) T c2, .slice (some ⟨g3, 0, none⟩) T c3, .slice (some ⟨g4, 0, none⟩) T c4], .int .i64 n] v fun e w' => ∃ ao cp, e = .returned (.slice ao k cp) ∧ VRow w' ao ps ∧ Below v.heap.size v w')
    (gr : ∀ v, Calls Try.prog 10 #[.agg #[.int .i64 r.k0, .int .i64 r.k1, .int .i64 r.r, .int .i64 r.m, .int .i64 r.j], .int .i64 who, .int .i64 ratio] v fun e w' => e = .returned (.tuple #[.agg #[.int .i64 0, .slice none 0 0], .int .i64 2]) ∧ Below v.heap.size v w') :
    Calls Try.prog 3 #[.agg #[.int .i64 r.k0, .int .i64 r.k1, .int .i64 r.r, .int .i64 r.m, .int .i64 r.j], .int .i64 n, .int .i64 who, .int .i64 ratio] w fun e w' => e = .returned (.bool true) ∧ Below w.heap.size w w' := by
  have X := Rul.new w _ rfl r.k0 r.k1 r.r r.m r.j
  have B : Below w.heap.size w (w.alloc (.cells #[.int .i64 r.k0, .int .i64 r.k1, .int .i64 r.r, .int .i64 r.m, .int .i64 r.j] 24)) := balloc (Below.refl _ _) _
  obtain ⟨x0, x1, x2, x3, x4, _, _, _, _, _⟩ := id X
  have d1 : decide (who < 0) = true := decide_eq_true b1
  have e5 : decide (n < 0) = false := decide_eq_false (by omega)
  have e6 : decide ((len : Int) ≤ n) = false := decide_eq_false (by omega)
  replace hlen : Hid _ := hlen
  replace hk : Hid _ := hk
  replace hs : Hid _ := hs
  replace hps : Hid _ := hps
  go_enter Try.func3, Try.ntmps3
  go_wp2_with (first
    | (go_at_call 7; refine (so _).mono ?_; clear so x0 x1 x2 x3 x4; rintro e v1 ⟨g0, c0, g1, c1, g2, c2, g3, c3, g4, c4, rfl, hS, b⟩; have P := Cls.new v1 #[.slice (some ⟨g0, 0, none⟩) len c0, .slice (some ⟨g1, 0, none⟩) T c1, .slice (some ⟨g2, 0, none⟩) T c2, .slice (some ⟨g3, 0, none⟩) T c3, .slice (some ⟨g4, 0, none⟩) T c4] 30; replace hS := hk.out _ _ _ _ _ _ _ hS (balloc (Below.refl _ _) (.cells #[.slice (some ⟨g0, 0, none⟩) len c0, .slice (some ⟨g1, 0, none⟩) T c1, .slice (some ⟨g2, 0, none⟩) T c2, .slice (some ⟨g3, 0, none⟩) T c3, .slice (some ⟨g4, 0, none⟩) T c4] 30)); replace X := X.kept (balloc b (.cells #[.slice (some ⟨g0, 0, none⟩) len c0, .slice (some ⟨g1, 0, none⟩) T c1, .slice (some ⟨g2, 0, none⟩) T c2, .slice (some ⟨g3, 0, none⟩) T c3, .slice (some ⟨g4, 0, none⟩) T c4] 30)); replace B := balloc (bthen B b) (.cells #[.slice (some ⟨g0, 0, none⟩) len c0, .slice (some ⟨g1, 0, none⟩) T c1, .slice (some ⟨g2, 0, none⟩) T c2, .slice (some ⟨g3, 0, none⟩) T c3, .slice (some ⟨g4, 0, none⟩) T c4] 30); clear b; obtain ⟨x0, x1, x2, x3, x4, _, _, _, _, _⟩ := id X)
    | (go_at_call 8; refine (st _).mono ?_; clear st x0 x1 x2 x3 x4; rintro e v2 ⟨ga, ca, rfl, -, hA, b⟩; replace P := P.kept b; replace hS := hk.out _ _ _ _ _ _ _ hS b; replace X := X.kept b; replace B := bthen B b; clear b; obtain ⟨x0, x1, x2, x3, x4, _, _, _, _, _⟩ := id X)
    | (go_at_call 9; refine (ld _).mono ?_; clear ld x0 x1 x2 x3 x4; rintro e v3 ⟨ao, co, rfl, hv, b⟩; replace hA : ∀ i s, L[i]? = some s → Sat _ ga (i * 14) s := fun i s hi => (hA i s hi).kept (b); replace P := P.kept b; replace hS := hk.out _ _ _ _ _ _ _ hS b; replace X := X.kept b; replace B := bthen B b; clear b; obtain ⟨x0, x1, x2, x3, x4, _, _, _, _, _⟩ := id X)
    | (go_at_call 10; refine (gr _).mono ?_; clear gr x0 x1 x2 x3 x4 X; rintro e v4 ⟨rfl, b⟩; have Q := Cls.new v4 #[.int .i64 0, .slice none 0 0] 40; replace hA : ∀ i s, L[i]? = some s → Sat _ ga (i * 14) s := fun i s hi => (hA i s hi).kept (balloc b (.cells #[.int .i64 0, .slice none 0 0] 40)); replace hv := hv.kept (balloc b (.cells #[.int .i64 0, .slice none 0 0] 40)); replace P := P.kept (balloc b (.cells #[.int .i64 0, .slice none 0 0] 40)); replace hS := hk.out _ _ _ _ _ _ _ hS (balloc b (.cells #[.int .i64 0, .slice none 0 0] 40)); replace B := balloc (bthen B b) (.cells #[.int .i64 0, .slice none 0 0] 40); clear b; have p0 := P.c 0 _ rfl)
    | (go_at_call 11; refine (equal_states _ _ _ _ _ L hlen.out hl3 _ hA (hs.out _ _ _ _ _ _ hS)).mono ?_; clear p0 hA; rintro e v5 ⟨rfl, b⟩; replace Q := Q.kept b; replace P := P.kept b; replace hS := hk.out _ _ _ _ _ _ _ hS b; replace hv := hv.kept (b); replace B := bthen B b; clear b; have p0 := P.c 0 _ rfl; have p1 := P.c 1 _ rfl; have p2 := P.c 2 _ rfl; have p3 := P.c 3 _ rfl; have p4 := P.c 4 _ rfl; have q0 := Q.c 0 _ rfl; have q1 := Q.c 1 _ rfl)
    | (go_at_call 13; refine (sl _ _ _ _ _ _ _ _ _ _ _ hS).mono ?_; clear sl p0 p1 p2 p3 p4 q0 q1; rintro e v6 ⟨ao2, co2, rfl, hu, b⟩; replace Q := Q.kept b; replace P := P.kept b; replace hS := hk.out _ _ _ _ _ _ _ hS b; replace hv := hv.kept (b); replace B := bthen B b; clear b; have p0 := P.c 0 _ rfl; have p1 := P.c 1 _ rfl; have p2 := P.c 2 _ rfl; have p3 := P.c 3 _ rfl; have p4 := P.c 4 _ rfl; have q0 := Q.c 0 _ rfl; have q1 := Q.c 1 _ rfl)
    | (go_at_call 12; refine (equal_pairs _ _ _ _ _ ps hps.out hk3 _ hv hu).mono ?_; clear hv hu p0 p1 p2 p3 p4 q0 q1; rintro e v7 ⟨rfl, b⟩; replace Q := Q.kept b; replace P := P.kept b; replace hS := hk.out _ _ _ _ _ _ _ hS b; replace B := bthen B b; clear b; have p0 := P.c 0 _ rfl; have p1 := P.c 1 _ rfl; have p2 := P.c 2 _ rfl; have p3 := P.c 3 _ rfl; have p4 := P.c 4 _ rfl; have q0 := Q.c 0 _ rfl; have q1 := Q.c 1 _ rfl))
  go_ret
  exact ⟨rfl, B⟩

set_option maxHeartbeats 6400000 in
theorem tells_in2 (r : Ru) (n who ratio : Int) (T len : Nat) (L : List Sx) (hlen : L.length = len) (hl3 : len ≤ 300) (hT4 : T ≤ 4800) (b1 : 1 < who) (w : World)
    (S : Nat → Nat → Nat → Nat → Nat → World → Prop) (hk : ∀ g0 g1 g2 g3 g4 v v', S g0 g1 g2 g3 g4 v → Below v.heap.size v v' → S g0 g1 g2 g3 g4 v') (hs : ∀ g0 g1 g2 g3 g4 v, S g0 g1 g2 g3 g4 v → ∀ i s, L[i]? = some s → Sat v g0 (i * 14) s)
    (so : ∀ v, Calls Try.prog 7 #[.agg #[.int .i64 r.k0, .int .i64 r.k1, .int .i64 r.r, .int .i64 r.m, .int .i64 r.j]] v fun e w' => ∃ g0 c0 g1 c1 g2 c2 g3 c3 g4 c4, e = .returned (.tuple #[.agg #[.slice (some ⟨g0, 0, none⟩) len c0, .slice (some ⟨g1, 0, none⟩) T c1, .slice (some ⟨g2, 0, none⟩) T c2, .slice (some ⟨g3, 0, none⟩) T c3, .slice (some ⟨g4, 0, none⟩) T c4], .int .i64 0]) ∧ S g0 g1 g2 g3 g4 w' ∧ Below v.heap.size v w')
    (st : ∀ v, Calls Try.prog 8 #[.agg #[.int .i64 r.k0, .int .i64 r.k1, .int .i64 r.r, .int .i64 r.m, .int .i64 r.j]] v fun e w' => ∃ g cp, e = .returned (.tuple #[.slice (some ⟨g, 0, none⟩) len cp, .int .i64 0]) ∧ len ≤ cp ∧ (∀ i s, L[i]? = some s → Sat w' g (i * 14) s) ∧ Below v.heap.size v w')
    (k : Nat) (ps : List (Int × Int)) (hps : ps.length = k) (hk3 : k ≤ 300) (d5 : 0 ≤ n) (d6 : n < (len : Int))
    (ld : ∀ v, Calls Try.prog 9 #[.agg #[.int .i64 r.k0, .int .i64 r.k1, .int .i64 r.r, .int .i64 r.m, .int .i64 r.j], .int .i64 n] v fun e w' => ∃ ao cp, e = .returned (.tuple #[.slice ao k cp, .int .i64 0]) ∧ VRow w' ao ps ∧ Below v.heap.size v w')
    (sl : ∀ g0 c0 g1 c1 g2 c2 g3 c3 g4 c4 v, S g0 g1 g2 g3 g4 v → Calls Try.prog 13 #[.agg #[.slice (some ⟨g0, 0, none⟩) len c0, .slice (some ⟨g1, 0, none⟩) T c1, .slice (some ⟨g2, 0, none⟩) T c2, .slice (some ⟨g3, 0, none⟩) T c3, .slice (some ⟨g4, 0, none⟩) T c4], .int .i64 n] v fun e w' => ∃ ao cp, e = .returned (.slice ao k cp) ∧ VRow w' ao ps ∧ Below v.heap.size v w')
    (gr : ∀ v, Calls Try.prog 10 #[.agg #[.int .i64 r.k0, .int .i64 r.k1, .int .i64 r.r, .int .i64 r.m, .int .i64 r.j], .int .i64 who, .int .i64 ratio] v fun e w' => e = .returned (.tuple #[.agg #[.int .i64 0, .slice none 0 0], .int .i64 2]) ∧ Below v.heap.size v w') :
    Calls Try.prog 3 #[.agg #[.int .i64 r.k0, .int .i64 r.k1, .int .i64 r.r, .int .i64 r.m, .int .i64 r.j], .int .i64 n, .int .i64 who, .int .i64 ratio] w fun e w' => e = .returned (.bool true) ∧ Below w.heap.size w w' := by
  have X := Rul.new w _ rfl r.k0 r.k1 r.r r.m r.j
  have B : Below w.heap.size w (w.alloc (.cells #[.int .i64 r.k0, .int .i64 r.k1, .int .i64 r.r, .int .i64 r.m, .int .i64 r.j] 24)) := balloc (Below.refl _ _) _
  obtain ⟨x0, x1, x2, x3, x4, _, _, _, _, _⟩ := id X
  have d1 : decide (who < 0) = false := decide_eq_false (by omega)
  have d2 : decide (1 < who) = true := decide_eq_true b1
  have e5 : decide (n < 0) = false := decide_eq_false (by omega)
  have e6 : decide ((len : Int) ≤ n) = false := decide_eq_false (by omega)
  replace hlen : Hid _ := hlen
  replace hk : Hid _ := hk
  replace hs : Hid _ := hs
  replace hps : Hid _ := hps
  go_enter Try.func3, Try.ntmps3
  go_wp2_with (first
    | (go_at_call 7; refine (so _).mono ?_; clear so x0 x1 x2 x3 x4; rintro e v1 ⟨g0, c0, g1, c1, g2, c2, g3, c3, g4, c4, rfl, hS, b⟩; have P := Cls.new v1 #[.slice (some ⟨g0, 0, none⟩) len c0, .slice (some ⟨g1, 0, none⟩) T c1, .slice (some ⟨g2, 0, none⟩) T c2, .slice (some ⟨g3, 0, none⟩) T c3, .slice (some ⟨g4, 0, none⟩) T c4] 30; replace hS := hk.out _ _ _ _ _ _ _ hS (balloc (Below.refl _ _) (.cells #[.slice (some ⟨g0, 0, none⟩) len c0, .slice (some ⟨g1, 0, none⟩) T c1, .slice (some ⟨g2, 0, none⟩) T c2, .slice (some ⟨g3, 0, none⟩) T c3, .slice (some ⟨g4, 0, none⟩) T c4] 30)); replace X := X.kept (balloc b (.cells #[.slice (some ⟨g0, 0, none⟩) len c0, .slice (some ⟨g1, 0, none⟩) T c1, .slice (some ⟨g2, 0, none⟩) T c2, .slice (some ⟨g3, 0, none⟩) T c3, .slice (some ⟨g4, 0, none⟩) T c4] 30)); replace B := balloc (bthen B b) (.cells #[.slice (some ⟨g0, 0, none⟩) len c0, .slice (some ⟨g1, 0, none⟩) T c1, .slice (some ⟨g2, 0, none⟩) T c2, .slice (some ⟨g3, 0, none⟩) T c3, .slice (some ⟨g4, 0, none⟩) T c4] 30); clear b; obtain ⟨x0, x1, x2, x3, x4, _, _, _, _, _⟩ := id X)
    | (go_at_call 8; refine (st _).mono ?_; clear st x0 x1 x2 x3 x4; rintro e v2 ⟨ga, ca, rfl, -, hA, b⟩; replace P := P.kept b; replace hS := hk.out _ _ _ _ _ _ _ hS b; replace X := X.kept b; replace B := bthen B b; clear b; obtain ⟨x0, x1, x2, x3, x4, _, _, _, _, _⟩ := id X)
    | (go_at_call 9; refine (ld _).mono ?_; clear ld x0 x1 x2 x3 x4; rintro e v3 ⟨ao, co, rfl, hv, b⟩; replace hA : ∀ i s, L[i]? = some s → Sat _ ga (i * 14) s := fun i s hi => (hA i s hi).kept (b); replace P := P.kept b; replace hS := hk.out _ _ _ _ _ _ _ hS b; replace X := X.kept b; replace B := bthen B b; clear b; obtain ⟨x0, x1, x2, x3, x4, _, _, _, _, _⟩ := id X)
    | (go_at_call 10; refine (gr _).mono ?_; clear gr x0 x1 x2 x3 x4 X; rintro e v4 ⟨rfl, b⟩; have Q := Cls.new v4 #[.int .i64 0, .slice none 0 0] 40; replace hA : ∀ i s, L[i]? = some s → Sat _ ga (i * 14) s := fun i s hi => (hA i s hi).kept (balloc b (.cells #[.int .i64 0, .slice none 0 0] 40)); replace hv := hv.kept (balloc b (.cells #[.int .i64 0, .slice none 0 0] 40)); replace P := P.kept (balloc b (.cells #[.int .i64 0, .slice none 0 0] 40)); replace hS := hk.out _ _ _ _ _ _ _ hS (balloc b (.cells #[.int .i64 0, .slice none 0 0] 40)); replace B := balloc (bthen B b) (.cells #[.int .i64 0, .slice none 0 0] 40); clear b; have p0 := P.c 0 _ rfl)
    | (go_at_call 11; refine (equal_states _ _ _ _ _ L hlen.out hl3 _ hA (hs.out _ _ _ _ _ _ hS)).mono ?_; clear p0 hA; rintro e v5 ⟨rfl, b⟩; replace Q := Q.kept b; replace P := P.kept b; replace hS := hk.out _ _ _ _ _ _ _ hS b; replace hv := hv.kept (b); replace B := bthen B b; clear b; have p0 := P.c 0 _ rfl; have p1 := P.c 1 _ rfl; have p2 := P.c 2 _ rfl; have p3 := P.c 3 _ rfl; have p4 := P.c 4 _ rfl; have q0 := Q.c 0 _ rfl; have q1 := Q.c 1 _ rfl)
    | (go_at_call 13; refine (sl _ _ _ _ _ _ _ _ _ _ _ hS).mono ?_; clear sl p0 p1 p2 p3 p4 q0 q1; rintro e v6 ⟨ao2, co2, rfl, hu, b⟩; replace Q := Q.kept b; replace P := P.kept b; replace hS := hk.out _ _ _ _ _ _ _ hS b; replace hv := hv.kept (b); replace B := bthen B b; clear b; have p0 := P.c 0 _ rfl; have p1 := P.c 1 _ rfl; have p2 := P.c 2 _ rfl; have p3 := P.c 3 _ rfl; have p4 := P.c 4 _ rfl; have q0 := Q.c 0 _ rfl; have q1 := Q.c 1 _ rfl)
    | (go_at_call 12; refine (equal_pairs _ _ _ _ _ ps hps.out hk3 _ hv hu).mono ?_; clear hv hu p0 p1 p2 p3 p4 q0 q1; rintro e v7 ⟨rfl, b⟩; replace Q := Q.kept b; replace P := P.kept b; replace hS := hk.out _ _ _ _ _ _ _ hS b; replace B := bthen B b; clear b; have p0 := P.c 0 _ rfl; have p1 := P.c 1 _ rfl; have p2 := P.c 2 _ rfl; have p3 := P.c 3 _ rfl; have p4 := P.c 4 _ rfl; have q0 := Q.c 0 _ rfl; have q1 := Q.c 1 _ rfl))
  go_ret
  exact ⟨rfl, B⟩

set_option maxHeartbeats 6400000 in
theorem tells_in3 (r : Ru) (n who ratio : Int) (T len : Nat) (L : List Sx) (hlen : L.length = len) (hl3 : len ≤ 300) (hT4 : T ≤ 4800) (b1 : 0 ≤ who ∧ who ≤ 1) (b2 : ratio < 1) (w : World)
    (S : Nat → Nat → Nat → Nat → Nat → World → Prop) (hk : ∀ g0 g1 g2 g3 g4 v v', S g0 g1 g2 g3 g4 v → Below v.heap.size v v' → S g0 g1 g2 g3 g4 v') (hs : ∀ g0 g1 g2 g3 g4 v, S g0 g1 g2 g3 g4 v → ∀ i s, L[i]? = some s → Sat v g0 (i * 14) s)
    (so : ∀ v, Calls Try.prog 7 #[.agg #[.int .i64 r.k0, .int .i64 r.k1, .int .i64 r.r, .int .i64 r.m, .int .i64 r.j]] v fun e w' => ∃ g0 c0 g1 c1 g2 c2 g3 c3 g4 c4, e = .returned (.tuple #[.agg #[.slice (some ⟨g0, 0, none⟩) len c0, .slice (some ⟨g1, 0, none⟩) T c1, .slice (some ⟨g2, 0, none⟩) T c2, .slice (some ⟨g3, 0, none⟩) T c3, .slice (some ⟨g4, 0, none⟩) T c4], .int .i64 0]) ∧ S g0 g1 g2 g3 g4 w' ∧ Below v.heap.size v w')
    (st : ∀ v, Calls Try.prog 8 #[.agg #[.int .i64 r.k0, .int .i64 r.k1, .int .i64 r.r, .int .i64 r.m, .int .i64 r.j]] v fun e w' => ∃ g cp, e = .returned (.tuple #[.slice (some ⟨g, 0, none⟩) len cp, .int .i64 0]) ∧ len ≤ cp ∧ (∀ i s, L[i]? = some s → Sat w' g (i * 14) s) ∧ Below v.heap.size v w')
    (k : Nat) (ps : List (Int × Int)) (hps : ps.length = k) (hk3 : k ≤ 300) (d5 : 0 ≤ n) (d6 : n < (len : Int))
    (ld : ∀ v, Calls Try.prog 9 #[.agg #[.int .i64 r.k0, .int .i64 r.k1, .int .i64 r.r, .int .i64 r.m, .int .i64 r.j], .int .i64 n] v fun e w' => ∃ ao cp, e = .returned (.tuple #[.slice ao k cp, .int .i64 0]) ∧ VRow w' ao ps ∧ Below v.heap.size v w')
    (sl : ∀ g0 c0 g1 c1 g2 c2 g3 c3 g4 c4 v, S g0 g1 g2 g3 g4 v → Calls Try.prog 13 #[.agg #[.slice (some ⟨g0, 0, none⟩) len c0, .slice (some ⟨g1, 0, none⟩) T c1, .slice (some ⟨g2, 0, none⟩) T c2, .slice (some ⟨g3, 0, none⟩) T c3, .slice (some ⟨g4, 0, none⟩) T c4], .int .i64 n] v fun e w' => ∃ ao cp, e = .returned (.slice ao k cp) ∧ VRow w' ao ps ∧ Below v.heap.size v w')
    (gr : ∀ v, Calls Try.prog 10 #[.agg #[.int .i64 r.k0, .int .i64 r.k1, .int .i64 r.r, .int .i64 r.m, .int .i64 r.j], .int .i64 who, .int .i64 ratio] v fun e w' => e = .returned (.tuple #[.agg #[.int .i64 0, .slice none 0 0], .int .i64 2]) ∧ Below v.heap.size v w') :
    Calls Try.prog 3 #[.agg #[.int .i64 r.k0, .int .i64 r.k1, .int .i64 r.r, .int .i64 r.m, .int .i64 r.j], .int .i64 n, .int .i64 who, .int .i64 ratio] w fun e w' => e = .returned (.bool true) ∧ Below w.heap.size w w' := by
  have X := Rul.new w _ rfl r.k0 r.k1 r.r r.m r.j
  have B : Below w.heap.size w (w.alloc (.cells #[.int .i64 r.k0, .int .i64 r.k1, .int .i64 r.r, .int .i64 r.m, .int .i64 r.j] 24)) := balloc (Below.refl _ _) _
  obtain ⟨x0, x1, x2, x3, x4, _, _, _, _, _⟩ := id X
  have d1 : decide (who < 0) = false := decide_eq_false (by omega)
  have d2 : decide (1 < who) = false := decide_eq_false (by omega)
  have d3 : decide (ratio < 1) = true := decide_eq_true b2
  have e5 : decide (n < 0) = false := decide_eq_false (by omega)
  have e6 : decide ((len : Int) ≤ n) = false := decide_eq_false (by omega)
  replace hlen : Hid _ := hlen
  replace hk : Hid _ := hk
  replace hs : Hid _ := hs
  replace hps : Hid _ := hps
  go_enter Try.func3, Try.ntmps3
  go_wp2_with (first
    | (go_at_call 7; refine (so _).mono ?_; clear so x0 x1 x2 x3 x4; rintro e v1 ⟨g0, c0, g1, c1, g2, c2, g3, c3, g4, c4, rfl, hS, b⟩; have P := Cls.new v1 #[.slice (some ⟨g0, 0, none⟩) len c0, .slice (some ⟨g1, 0, none⟩) T c1, .slice (some ⟨g2, 0, none⟩) T c2, .slice (some ⟨g3, 0, none⟩) T c3, .slice (some ⟨g4, 0, none⟩) T c4] 30; replace hS := hk.out _ _ _ _ _ _ _ hS (balloc (Below.refl _ _) (.cells #[.slice (some ⟨g0, 0, none⟩) len c0, .slice (some ⟨g1, 0, none⟩) T c1, .slice (some ⟨g2, 0, none⟩) T c2, .slice (some ⟨g3, 0, none⟩) T c3, .slice (some ⟨g4, 0, none⟩) T c4] 30)); replace X := X.kept (balloc b (.cells #[.slice (some ⟨g0, 0, none⟩) len c0, .slice (some ⟨g1, 0, none⟩) T c1, .slice (some ⟨g2, 0, none⟩) T c2, .slice (some ⟨g3, 0, none⟩) T c3, .slice (some ⟨g4, 0, none⟩) T c4] 30)); replace B := balloc (bthen B b) (.cells #[.slice (some ⟨g0, 0, none⟩) len c0, .slice (some ⟨g1, 0, none⟩) T c1, .slice (some ⟨g2, 0, none⟩) T c2, .slice (some ⟨g3, 0, none⟩) T c3, .slice (some ⟨g4, 0, none⟩) T c4] 30); clear b; obtain ⟨x0, x1, x2, x3, x4, _, _, _, _, _⟩ := id X)
    | (go_at_call 8; refine (st _).mono ?_; clear st x0 x1 x2 x3 x4; rintro e v2 ⟨ga, ca, rfl, -, hA, b⟩; replace P := P.kept b; replace hS := hk.out _ _ _ _ _ _ _ hS b; replace X := X.kept b; replace B := bthen B b; clear b; obtain ⟨x0, x1, x2, x3, x4, _, _, _, _, _⟩ := id X)
    | (go_at_call 9; refine (ld _).mono ?_; clear ld x0 x1 x2 x3 x4; rintro e v3 ⟨ao, co, rfl, hv, b⟩; replace hA : ∀ i s, L[i]? = some s → Sat _ ga (i * 14) s := fun i s hi => (hA i s hi).kept (b); replace P := P.kept b; replace hS := hk.out _ _ _ _ _ _ _ hS b; replace X := X.kept b; replace B := bthen B b; clear b; obtain ⟨x0, x1, x2, x3, x4, _, _, _, _, _⟩ := id X)
    | (go_at_call 10; refine (gr _).mono ?_; clear gr x0 x1 x2 x3 x4 X; rintro e v4 ⟨rfl, b⟩; have Q := Cls.new v4 #[.int .i64 0, .slice none 0 0] 40; replace hA : ∀ i s, L[i]? = some s → Sat _ ga (i * 14) s := fun i s hi => (hA i s hi).kept (balloc b (.cells #[.int .i64 0, .slice none 0 0] 40)); replace hv := hv.kept (balloc b (.cells #[.int .i64 0, .slice none 0 0] 40)); replace P := P.kept (balloc b (.cells #[.int .i64 0, .slice none 0 0] 40)); replace hS := hk.out _ _ _ _ _ _ _ hS (balloc b (.cells #[.int .i64 0, .slice none 0 0] 40)); replace B := balloc (bthen B b) (.cells #[.int .i64 0, .slice none 0 0] 40); clear b; have p0 := P.c 0 _ rfl)
    | (go_at_call 11; refine (equal_states _ _ _ _ _ L hlen.out hl3 _ hA (hs.out _ _ _ _ _ _ hS)).mono ?_; clear p0 hA; rintro e v5 ⟨rfl, b⟩; replace Q := Q.kept b; replace P := P.kept b; replace hS := hk.out _ _ _ _ _ _ _ hS b; replace hv := hv.kept (b); replace B := bthen B b; clear b; have p0 := P.c 0 _ rfl; have p1 := P.c 1 _ rfl; have p2 := P.c 2 _ rfl; have p3 := P.c 3 _ rfl; have p4 := P.c 4 _ rfl; have q0 := Q.c 0 _ rfl; have q1 := Q.c 1 _ rfl)
    | (go_at_call 13; refine (sl _ _ _ _ _ _ _ _ _ _ _ hS).mono ?_; clear sl p0 p1 p2 p3 p4 q0 q1; rintro e v6 ⟨ao2, co2, rfl, hu, b⟩; replace Q := Q.kept b; replace P := P.kept b; replace hS := hk.out _ _ _ _ _ _ _ hS b; replace hv := hv.kept (b); replace B := bthen B b; clear b; have p0 := P.c 0 _ rfl; have p1 := P.c 1 _ rfl; have p2 := P.c 2 _ rfl; have p3 := P.c 3 _ rfl; have p4 := P.c 4 _ rfl; have q0 := Q.c 0 _ rfl; have q1 := Q.c 1 _ rfl)
    | (go_at_call 12; refine (equal_pairs _ _ _ _ _ ps hps.out hk3 _ hv hu).mono ?_; clear hv hu p0 p1 p2 p3 p4 q0 q1; rintro e v7 ⟨rfl, b⟩; replace Q := Q.kept b; replace P := P.kept b; replace hS := hk.out _ _ _ _ _ _ _ hS b; replace B := bthen B b; clear b; have p0 := P.c 0 _ rfl; have p1 := P.c 1 _ rfl; have p2 := P.c 2 _ rfl; have p3 := P.c 3 _ rfl; have p4 := P.c 4 _ rfl; have q0 := Q.c 0 _ rfl; have q1 := Q.c 1 _ rfl))
  go_ret
  exact ⟨rfl, B⟩

set_option maxHeartbeats 6400000 in
theorem tells_in4 (r : Ru) (n who ratio : Int) (T len : Nat) (L : List Sx) (hlen : L.length = len) (hl3 : len ≤ 300) (hT4 : T ≤ 4800) (b1 : 0 ≤ who ∧ who ≤ 1) (b2 : 100 < ratio) (w : World)
    (S : Nat → Nat → Nat → Nat → Nat → World → Prop) (hk : ∀ g0 g1 g2 g3 g4 v v', S g0 g1 g2 g3 g4 v → Below v.heap.size v v' → S g0 g1 g2 g3 g4 v') (hs : ∀ g0 g1 g2 g3 g4 v, S g0 g1 g2 g3 g4 v → ∀ i s, L[i]? = some s → Sat v g0 (i * 14) s)
    (so : ∀ v, Calls Try.prog 7 #[.agg #[.int .i64 r.k0, .int .i64 r.k1, .int .i64 r.r, .int .i64 r.m, .int .i64 r.j]] v fun e w' => ∃ g0 c0 g1 c1 g2 c2 g3 c3 g4 c4, e = .returned (.tuple #[.agg #[.slice (some ⟨g0, 0, none⟩) len c0, .slice (some ⟨g1, 0, none⟩) T c1, .slice (some ⟨g2, 0, none⟩) T c2, .slice (some ⟨g3, 0, none⟩) T c3, .slice (some ⟨g4, 0, none⟩) T c4], .int .i64 0]) ∧ S g0 g1 g2 g3 g4 w' ∧ Below v.heap.size v w')
    (st : ∀ v, Calls Try.prog 8 #[.agg #[.int .i64 r.k0, .int .i64 r.k1, .int .i64 r.r, .int .i64 r.m, .int .i64 r.j]] v fun e w' => ∃ g cp, e = .returned (.tuple #[.slice (some ⟨g, 0, none⟩) len cp, .int .i64 0]) ∧ len ≤ cp ∧ (∀ i s, L[i]? = some s → Sat w' g (i * 14) s) ∧ Below v.heap.size v w')
    (k : Nat) (ps : List (Int × Int)) (hps : ps.length = k) (hk3 : k ≤ 300) (d5 : 0 ≤ n) (d6 : n < (len : Int))
    (ld : ∀ v, Calls Try.prog 9 #[.agg #[.int .i64 r.k0, .int .i64 r.k1, .int .i64 r.r, .int .i64 r.m, .int .i64 r.j], .int .i64 n] v fun e w' => ∃ ao cp, e = .returned (.tuple #[.slice ao k cp, .int .i64 0]) ∧ VRow w' ao ps ∧ Below v.heap.size v w')
    (sl : ∀ g0 c0 g1 c1 g2 c2 g3 c3 g4 c4 v, S g0 g1 g2 g3 g4 v → Calls Try.prog 13 #[.agg #[.slice (some ⟨g0, 0, none⟩) len c0, .slice (some ⟨g1, 0, none⟩) T c1, .slice (some ⟨g2, 0, none⟩) T c2, .slice (some ⟨g3, 0, none⟩) T c3, .slice (some ⟨g4, 0, none⟩) T c4], .int .i64 n] v fun e w' => ∃ ao cp, e = .returned (.slice ao k cp) ∧ VRow w' ao ps ∧ Below v.heap.size v w')
    (gr : ∀ v, Calls Try.prog 10 #[.agg #[.int .i64 r.k0, .int .i64 r.k1, .int .i64 r.r, .int .i64 r.m, .int .i64 r.j], .int .i64 who, .int .i64 ratio] v fun e w' => e = .returned (.tuple #[.agg #[.int .i64 0, .slice none 0 0], .int .i64 2]) ∧ Below v.heap.size v w') :
    Calls Try.prog 3 #[.agg #[.int .i64 r.k0, .int .i64 r.k1, .int .i64 r.r, .int .i64 r.m, .int .i64 r.j], .int .i64 n, .int .i64 who, .int .i64 ratio] w fun e w' => e = .returned (.bool true) ∧ Below w.heap.size w w' := by
  have X := Rul.new w _ rfl r.k0 r.k1 r.r r.m r.j
  have B : Below w.heap.size w (w.alloc (.cells #[.int .i64 r.k0, .int .i64 r.k1, .int .i64 r.r, .int .i64 r.m, .int .i64 r.j] 24)) := balloc (Below.refl _ _) _
  obtain ⟨x0, x1, x2, x3, x4, _, _, _, _, _⟩ := id X
  have d1 : decide (who < 0) = false := decide_eq_false (by omega)
  have d2 : decide (1 < who) = false := decide_eq_false (by omega)
  have d3 : decide (ratio < 1) = false := decide_eq_false (by omega)
  have d4 : decide (100 < ratio) = true := decide_eq_true b2
  have e5 : decide (n < 0) = false := decide_eq_false (by omega)
  have e6 : decide ((len : Int) ≤ n) = false := decide_eq_false (by omega)
  replace hlen : Hid _ := hlen
  replace hk : Hid _ := hk
  replace hs : Hid _ := hs
  replace hps : Hid _ := hps
  go_enter Try.func3, Try.ntmps3
  go_wp2_with (first
    | (go_at_call 7; refine (so _).mono ?_; clear so x0 x1 x2 x3 x4; rintro e v1 ⟨g0, c0, g1, c1, g2, c2, g3, c3, g4, c4, rfl, hS, b⟩; have P := Cls.new v1 #[.slice (some ⟨g0, 0, none⟩) len c0, .slice (some ⟨g1, 0, none⟩) T c1, .slice (some ⟨g2, 0, none⟩) T c2, .slice (some ⟨g3, 0, none⟩) T c3, .slice (some ⟨g4, 0, none⟩) T c4] 30; replace hS := hk.out _ _ _ _ _ _ _ hS (balloc (Below.refl _ _) (.cells #[.slice (some ⟨g0, 0, none⟩) len c0, .slice (some ⟨g1, 0, none⟩) T c1, .slice (some ⟨g2, 0, none⟩) T c2, .slice (some ⟨g3, 0, none⟩) T c3, .slice (some ⟨g4, 0, none⟩) T c4] 30)); replace X := X.kept (balloc b (.cells #[.slice (some ⟨g0, 0, none⟩) len c0, .slice (some ⟨g1, 0, none⟩) T c1, .slice (some ⟨g2, 0, none⟩) T c2, .slice (some ⟨g3, 0, none⟩) T c3, .slice (some ⟨g4, 0, none⟩) T c4] 30)); replace B := balloc (bthen B b) (.cells #[.slice (some ⟨g0, 0, none⟩) len c0, .slice (some ⟨g1, 0, none⟩) T c1, .slice (some ⟨g2, 0, none⟩) T c2, .slice (some ⟨g3, 0, none⟩) T c3, .slice (some ⟨g4, 0, none⟩) T c4] 30); clear b; obtain ⟨x0, x1, x2, x3, x4, _, _, _, _, _⟩ := id X)
    | (go_at_call 8; refine (st _).mono ?_; clear st x0 x1 x2 x3 x4; rintro e v2 ⟨ga, ca, rfl, -, hA, b⟩; replace P := P.kept b; replace hS := hk.out _ _ _ _ _ _ _ hS b; replace X := X.kept b; replace B := bthen B b; clear b; obtain ⟨x0, x1, x2, x3, x4, _, _, _, _, _⟩ := id X)
    | (go_at_call 9; refine (ld _).mono ?_; clear ld x0 x1 x2 x3 x4; rintro e v3 ⟨ao, co, rfl, hv, b⟩; replace hA : ∀ i s, L[i]? = some s → Sat _ ga (i * 14) s := fun i s hi => (hA i s hi).kept (b); replace P := P.kept b; replace hS := hk.out _ _ _ _ _ _ _ hS b; replace X := X.kept b; replace B := bthen B b; clear b; obtain ⟨x0, x1, x2, x3, x4, _, _, _, _, _⟩ := id X)
    | (go_at_call 10; refine (gr _).mono ?_; clear gr x0 x1 x2 x3 x4 X; rintro e v4 ⟨rfl, b⟩; have Q := Cls.new v4 #[.int .i64 0, .slice none 0 0] 40; replace hA : ∀ i s, L[i]? = some s → Sat _ ga (i * 14) s := fun i s hi => (hA i s hi).kept (balloc b (.cells #[.int .i64 0, .slice none 0 0] 40)); replace hv := hv.kept (balloc b (.cells #[.int .i64 0, .slice none 0 0] 40)); replace P := P.kept (balloc b (.cells #[.int .i64 0, .slice none 0 0] 40)); replace hS := hk.out _ _ _ _ _ _ _ hS (balloc b (.cells #[.int .i64 0, .slice none 0 0] 40)); replace B := balloc (bthen B b) (.cells #[.int .i64 0, .slice none 0 0] 40); clear b; have p0 := P.c 0 _ rfl)
    | (go_at_call 11; refine (equal_states _ _ _ _ _ L hlen.out hl3 _ hA (hs.out _ _ _ _ _ _ hS)).mono ?_; clear p0 hA; rintro e v5 ⟨rfl, b⟩; replace Q := Q.kept b; replace P := P.kept b; replace hS := hk.out _ _ _ _ _ _ _ hS b; replace hv := hv.kept (b); replace B := bthen B b; clear b; have p0 := P.c 0 _ rfl; have p1 := P.c 1 _ rfl; have p2 := P.c 2 _ rfl; have p3 := P.c 3 _ rfl; have p4 := P.c 4 _ rfl; have q0 := Q.c 0 _ rfl; have q1 := Q.c 1 _ rfl)
    | (go_at_call 13; refine (sl _ _ _ _ _ _ _ _ _ _ _ hS).mono ?_; clear sl p0 p1 p2 p3 p4 q0 q1; rintro e v6 ⟨ao2, co2, rfl, hu, b⟩; replace Q := Q.kept b; replace P := P.kept b; replace hS := hk.out _ _ _ _ _ _ _ hS b; replace hv := hv.kept (b); replace B := bthen B b; clear b; have p0 := P.c 0 _ rfl; have p1 := P.c 1 _ rfl; have p2 := P.c 2 _ rfl; have p3 := P.c 3 _ rfl; have p4 := P.c 4 _ rfl; have q0 := Q.c 0 _ rfl; have q1 := Q.c 1 _ rfl)
    | (go_at_call 12; refine (equal_pairs _ _ _ _ _ ps hps.out hk3 _ hv hu).mono ?_; clear hv hu p0 p1 p2 p3 p4 q0 q1; rintro e v7 ⟨rfl, b⟩; replace Q := Q.kept b; replace P := P.kept b; replace hS := hk.out _ _ _ _ _ _ _ hS b; replace B := bthen B b; clear b; have p0 := P.c 0 _ rfl; have p1 := P.c 1 _ rfl; have p2 := P.c 2 _ rfl; have p3 := P.c 3 _ rfl; have p4 := P.c 4 _ rfl; have q0 := Q.c 0 _ rfl; have q1 := Q.c 1 _ rfl))
  go_ret
  exact ⟨rfl, B⟩

set_option maxHeartbeats 6400000 in
theorem tells_in5 (r : Ru) (n who ratio : Int) (T len : Nat) (L : List Sx) (hlen : L.length = len) (hl3 : len ≤ 300) (hT4 : T ≤ 4800) (b1 : 0 ≤ who ∧ who ≤ 1) (b2 : 1 ≤ ratio ∧ ratio ≤ 100) (w : World)
    (S : Nat → Nat → Nat → Nat → Nat → World → Prop) (hk : ∀ g0 g1 g2 g3 g4 v v', S g0 g1 g2 g3 g4 v → Below v.heap.size v v' → S g0 g1 g2 g3 g4 v') (hs : ∀ g0 g1 g2 g3 g4 v, S g0 g1 g2 g3 g4 v → ∀ i s, L[i]? = some s → Sat v g0 (i * 14) s)
    (so : ∀ v, Calls Try.prog 7 #[.agg #[.int .i64 r.k0, .int .i64 r.k1, .int .i64 r.r, .int .i64 r.m, .int .i64 r.j]] v fun e w' => ∃ g0 c0 g1 c1 g2 c2 g3 c3 g4 c4, e = .returned (.tuple #[.agg #[.slice (some ⟨g0, 0, none⟩) len c0, .slice (some ⟨g1, 0, none⟩) T c1, .slice (some ⟨g2, 0, none⟩) T c2, .slice (some ⟨g3, 0, none⟩) T c3, .slice (some ⟨g4, 0, none⟩) T c4], .int .i64 0]) ∧ S g0 g1 g2 g3 g4 w' ∧ Below v.heap.size v w')
    (st : ∀ v, Calls Try.prog 8 #[.agg #[.int .i64 r.k0, .int .i64 r.k1, .int .i64 r.r, .int .i64 r.m, .int .i64 r.j]] v fun e w' => ∃ g cp, e = .returned (.tuple #[.slice (some ⟨g, 0, none⟩) len cp, .int .i64 0]) ∧ len ≤ cp ∧ (∀ i s, L[i]? = some s → Sat w' g (i * 14) s) ∧ Below v.heap.size v w')
    (k : Nat) (ps : List (Int × Int)) (hps : ps.length = k) (hk3 : k ≤ 300) (d5 : 0 ≤ n) (d6 : n < (len : Int))
    (ld : ∀ v, Calls Try.prog 9 #[.agg #[.int .i64 r.k0, .int .i64 r.k1, .int .i64 r.r, .int .i64 r.m, .int .i64 r.j], .int .i64 n] v fun e w' => ∃ ao cp, e = .returned (.tuple #[.slice ao k cp, .int .i64 0]) ∧ VRow w' ao ps ∧ Below v.heap.size v w')
    (sl : ∀ g0 c0 g1 c1 g2 c2 g3 c3 g4 c4 v, S g0 g1 g2 g3 g4 v → Calls Try.prog 13 #[.agg #[.slice (some ⟨g0, 0, none⟩) len c0, .slice (some ⟨g1, 0, none⟩) T c1, .slice (some ⟨g2, 0, none⟩) T c2, .slice (some ⟨g3, 0, none⟩) T c3, .slice (some ⟨g4, 0, none⟩) T c4], .int .i64 n] v fun e w' => ∃ ao cp, e = .returned (.slice ao k cp) ∧ VRow w' ao ps ∧ Below v.heap.size v w')
    (F G H : Nat → Int)
    (gr : ∀ v, Calls Try.prog 10 #[.agg #[.int .i64 r.k0, .int .i64 r.k1, .int .i64 r.r, .int .i64 r.m, .int .i64 r.j], .int .i64 who, .int .i64 ratio] v fun e w' => ∃ h cp, e = .returned (.tuple #[.agg #[.int .i64 (len : Int), .slice (some ⟨h, 0, none⟩) T cp], .int .i64 0]) ∧ T ≤ cp ∧ (∀ u, u < T → EAt w' h (u * 3) (F u) (G u) (H u)) ∧ Below v.heap.size v w')
    (sg : ∀ g0 c0 g1 c1 g2 c2 g3 c3 g4 c4 v, S g0 g1 g2 g3 g4 v → Calls Try.prog 14 #[.agg #[.slice (some ⟨g0, 0, none⟩) len c0, .slice (some ⟨g1, 0, none⟩) T c1, .slice (some ⟨g2, 0, none⟩) T c2, .slice (some ⟨g3, 0, none⟩) T c3, .slice (some ⟨g4, 0, none⟩) T c4], .int .i64 who, .int .i64 ratio] v fun e w' => ∃ h cp, e = .returned (.agg #[.int .i64 (len : Int), .slice (some ⟨h, 0, none⟩) T cp]) ∧ T ≤ cp ∧ (∀ u, u < T → EAt w' h (u * 3) (F u) (G u) (H u)) ∧ Below v.heap.size v w') :
    Calls Try.prog 3 #[.agg #[.int .i64 r.k0, .int .i64 r.k1, .int .i64 r.r, .int .i64 r.m, .int .i64 r.j], .int .i64 n, .int .i64 who, .int .i64 ratio] w fun e w' => e = .returned (.bool true) ∧ Below w.heap.size w w' := by
  have X := Rul.new w _ rfl r.k0 r.k1 r.r r.m r.j
  have B : Below w.heap.size w (w.alloc (.cells #[.int .i64 r.k0, .int .i64 r.k1, .int .i64 r.r, .int .i64 r.m, .int .i64 r.j] 24)) := balloc (Below.refl _ _) _
  obtain ⟨x0, x1, x2, x3, x4, _, _, _, _, _⟩ := id X
  have d1 : decide (who < 0) = false := decide_eq_false (by omega)
  have d2 : decide (1 < who) = false := decide_eq_false (by omega)
  have d3 : decide (ratio < 1) = false := decide_eq_false (by omega)
  have d4 : decide (100 < ratio) = false := decide_eq_false (by omega)
  have e5 : decide (n < 0) = false := decide_eq_false (by omega)
  have e6 : decide ((len : Int) ≤ n) = false := decide_eq_false (by omega)
  replace hlen : Hid _ := hlen
  replace hk : Hid _ := hk
  replace hs : Hid _ := hs
  replace hps : Hid _ := hps
  go_enter Try.func3, Try.ntmps3
  go_wp2_with (first
    | (go_at_call 7; refine (so _).mono ?_; clear so x0 x1 x2 x3 x4; rintro e v1 ⟨g0, c0, g1, c1, g2, c2, g3, c3, g4, c4, rfl, hS, b⟩; have P := Cls.new v1 #[.slice (some ⟨g0, 0, none⟩) len c0, .slice (some ⟨g1, 0, none⟩) T c1, .slice (some ⟨g2, 0, none⟩) T c2, .slice (some ⟨g3, 0, none⟩) T c3, .slice (some ⟨g4, 0, none⟩) T c4] 30; replace hS := hk.out _ _ _ _ _ _ _ hS (balloc (Below.refl _ _) (.cells #[.slice (some ⟨g0, 0, none⟩) len c0, .slice (some ⟨g1, 0, none⟩) T c1, .slice (some ⟨g2, 0, none⟩) T c2, .slice (some ⟨g3, 0, none⟩) T c3, .slice (some ⟨g4, 0, none⟩) T c4] 30)); replace X := X.kept (balloc b (.cells #[.slice (some ⟨g0, 0, none⟩) len c0, .slice (some ⟨g1, 0, none⟩) T c1, .slice (some ⟨g2, 0, none⟩) T c2, .slice (some ⟨g3, 0, none⟩) T c3, .slice (some ⟨g4, 0, none⟩) T c4] 30)); replace B := balloc (bthen B b) (.cells #[.slice (some ⟨g0, 0, none⟩) len c0, .slice (some ⟨g1, 0, none⟩) T c1, .slice (some ⟨g2, 0, none⟩) T c2, .slice (some ⟨g3, 0, none⟩) T c3, .slice (some ⟨g4, 0, none⟩) T c4] 30); clear b; obtain ⟨x0, x1, x2, x3, x4, _, _, _, _, _⟩ := id X)
    | (go_at_call 8; refine (st _).mono ?_; clear st x0 x1 x2 x3 x4; rintro e v2 ⟨ga, ca, rfl, -, hA, b⟩; replace P := P.kept b; replace hS := hk.out _ _ _ _ _ _ _ hS b; replace X := X.kept b; replace B := bthen B b; clear b; obtain ⟨x0, x1, x2, x3, x4, _, _, _, _, _⟩ := id X)
    | (go_at_call 9; refine (ld _).mono ?_; clear ld x0 x1 x2 x3 x4; rintro e v3 ⟨ao, co, rfl, hv, b⟩; replace hA : ∀ i s, L[i]? = some s → Sat _ ga (i * 14) s := fun i s hi => (hA i s hi).kept (b); replace P := P.kept b; replace hS := hk.out _ _ _ _ _ _ _ hS b; replace X := X.kept b; replace B := bthen B b; clear b; obtain ⟨x0, x1, x2, x3, x4, _, _, _, _, _⟩ := id X)
    | (go_at_call 10; refine (gr _).mono ?_; clear gr x0 x1 x2 x3 x4 X; rintro e v4 ⟨h1, k1, rfl, -, hE1, b⟩; have Q := Cls.new v4 #[.int .i64 (len : Int), .slice (some ⟨h1, 0, none⟩) T k1] 40; replace hE1 : ∀ u, u < T → EAt _ h1 (u * 3) (F u) (G u) (H u) := fun u hu => (hE1 u hu).kept (balloc (Below.refl _ _) (.cells #[.int .i64 (len : Int), .slice (some ⟨h1, 0, none⟩) T k1] 40)); replace hA : ∀ i s, L[i]? = some s → Sat _ ga (i * 14) s := fun i s hi => (hA i s hi).kept (balloc b (.cells #[.int .i64 (len : Int), .slice (some ⟨h1, 0, none⟩) T k1] 40)); replace hv := hv.kept (balloc b (.cells #[.int .i64 (len : Int), .slice (some ⟨h1, 0, none⟩) T k1] 40)); replace P := P.kept (balloc b (.cells #[.int .i64 (len : Int), .slice (some ⟨h1, 0, none⟩) T k1] 40)); replace hS := hk.out _ _ _ _ _ _ _ hS (balloc b (.cells #[.int .i64 (len : Int), .slice (some ⟨h1, 0, none⟩) T k1] 40)); replace B := balloc (bthen B b) (.cells #[.int .i64 (len : Int), .slice (some ⟨h1, 0, none⟩) T k1] 40); clear b; have p0 := P.c 0 _ rfl)
    | (go_at_call 11; refine (equal_states _ _ _ _ _ L hlen.out hl3 _ hA (hs.out _ _ _ _ _ _ hS)).mono ?_; clear p0 hA; rintro e v5 ⟨rfl, b⟩; replace Q := Q.kept b; replace P := P.kept b; replace hS := hk.out _ _ _ _ _ _ _ hS b; replace hE1 : ∀ u, u < T → EAt _ h1 (u * 3) (F u) (G u) (H u) := fun u hu => (hE1 u hu).kept (b); replace hv := hv.kept (b); replace B := bthen B b; clear b; have p0 := P.c 0 _ rfl; have p1 := P.c 1 _ rfl; have p2 := P.c 2 _ rfl; have p3 := P.c 3 _ rfl; have p4 := P.c 4 _ rfl; have q0 := Q.c 0 _ rfl; have q1 := Q.c 1 _ rfl)
    | (go_at_call 13; refine (sl _ _ _ _ _ _ _ _ _ _ _ hS).mono ?_; clear sl p0 p1 p2 p3 p4 q0 q1; rintro e v6 ⟨ao2, co2, rfl, hu, b⟩; replace Q := Q.kept b; replace P := P.kept b; replace hS := hk.out _ _ _ _ _ _ _ hS b; replace hE1 : ∀ u, u < T → EAt _ h1 (u * 3) (F u) (G u) (H u) := fun u hu => (hE1 u hu).kept (b); replace hv := hv.kept (b); replace B := bthen B b; clear b; have p0 := P.c 0 _ rfl; have p1 := P.c 1 _ rfl; have p2 := P.c 2 _ rfl; have p3 := P.c 3 _ rfl; have p4 := P.c 4 _ rfl; have q0 := Q.c 0 _ rfl; have q1 := Q.c 1 _ rfl)
    | (go_at_call 12; refine (equal_pairs _ _ _ _ _ ps hps.out hk3 _ hv hu).mono ?_; clear hv hu p0 p1 p2 p3 p4 q0 q1; rintro e v7 ⟨rfl, b⟩; replace Q := Q.kept b; replace P := P.kept b; replace hS := hk.out _ _ _ _ _ _ _ hS b; replace hE1 : ∀ u, u < T → EAt _ h1 (u * 3) (F u) (G u) (H u) := fun u hu => (hE1 u hu).kept (b); replace B := bthen B b; clear b; have p0 := P.c 0 _ rfl; have p1 := P.c 1 _ rfl; have p2 := P.c 2 _ rfl; have p3 := P.c 3 _ rfl; have p4 := P.c 4 _ rfl; have q0 := Q.c 0 _ rfl; have q1 := Q.c 1 _ rfl)
    | (go_at_call 14; refine (sg _ _ _ _ _ _ _ _ _ _ _ hS).mono ?_; clear sg p0 p1 p2 p3 p4 P q0 q1 hS; rintro e v8 ⟨h2, k2, rfl, -, hE2, b⟩; have Q2 := Cls.new v8 #[.int .i64 (len : Int), .slice (some ⟨h2, 0, none⟩) T k2] 40; replace hE2 : ∀ u, u < T → EAt _ h2 (u * 3) (F u) (G u) (H u) := fun u hu => (hE2 u hu).kept (balloc (Below.refl _ _) (.cells #[.int .i64 (len : Int), .slice (some ⟨h2, 0, none⟩) T k2] 40)); replace Q := Q.kept (balloc b (.cells #[.int .i64 (len : Int), .slice (some ⟨h2, 0, none⟩) T k2] 40)); replace hE1 : ∀ u, u < T → EAt _ h1 (u * 3) (F u) (G u) (H u) := fun u hu => (hE1 u hu).kept (balloc b (.cells #[.int .i64 (len : Int), .slice (some ⟨h2, 0, none⟩) T k2] 40)); replace B := balloc (bthen B b) (.cells #[.int .i64 (len : Int), .slice (some ⟨h2, 0, none⟩) T k2] 40); clear b; have q0 := Q.c 0 _ rfl; have q1 := Q.c 1 _ rfl; have r0 := Q2.c 0 _ rfl; have r1 := Q2.c 1 _ rfl)
    | (go_at_call 15; refine (equal_edges _ _ _ _ _ F G H hT4 _ hE1 hE2).mono ?_; clear Q Q2 q0 q1 r0 r1 hE1 hE2; rintro e v9 ⟨rfl, b⟩; replace B := bthen B b; clear b))
  go_ret
  exact ⟨rfl, B⟩

end Go.Proofs.Ytilpooifggofiaa.D
