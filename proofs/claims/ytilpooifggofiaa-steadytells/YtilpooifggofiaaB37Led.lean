/- PROVED: tidewaitkeep.SteadyLead, over what States, Lead and Play answer. CONDITIONS: what States, Lead and alive19 answer. -/
import Derived.Test.YtilpooifggofiaaB19Sr
import Derived.Test.YtilpooifggofiaaB35DPlay
import Derived.Test.YtilpooifggofiaaB36DEq
import Derived.BigQuiet
namespace Go.Proofs.Ytilpooifggofiaa.D
open Go.RowKit K
set_option linter.unusedVariables false

theorem neX (x y : Sx) (w : World) : (binOp .neq 48 (.agg #[.int .i64 x.f0.k, .int .i64 x.f0.n, .int .i64 x.f0.b, .int .i64 x.f0.a, .int .i64 x.f0.s, .int .i64 x.f0.q, .int .i64 x.f1.k, .int .i64 x.f1.n, .int .i64 x.f1.b, .int .i64 x.f1.a, .int .i64 x.f1.s, .int .i64 x.f1.q, .int .i64 x.w0, .int .i64 x.w1]) (.agg #[.int .i64 y.f0.k, .int .i64 y.f0.n, .int .i64 y.f0.b, .int .i64 y.f0.a, .int .i64 y.f0.s, .int .i64 y.f0.q, .int .i64 y.f1.k, .int .i64 y.f1.n, .int .i64 y.f1.b, .int .i64 y.f1.a, .int .i64 y.f1.s, .int .i64 y.f1.q, .int .i64 y.w0, .int .i64 y.w1])).run Try.prog w = .ok (.bool (!decide (x = y))) w := by
  have h := eqX x y w
  rw [run_eql_struct] at h
  rw [run_neq_struct]
  generalize (Op.equalIn 10000 48 (.agg #[.int .i64 x.f0.k, .int .i64 x.f0.n, .int .i64 x.f0.b, .int .i64 x.f0.a, .int .i64 x.f0.s, .int .i64 x.f0.q, .int .i64 x.f1.k, .int .i64 x.f1.n, .int .i64 x.f1.b, .int .i64 x.f1.a, .int .i64 x.f1.s, .int .i64 x.f1.q, .int .i64 x.w0, .int .i64 x.w1]) (.agg #[.int .i64 y.f0.k, .int .i64 y.f0.n, .int .i64 y.f0.b, .int .i64 y.f0.a, .int .i64 y.f0.s, .int .i64 y.f0.q, .int .i64 y.f1.k, .int .i64 y.f1.n, .int .i64 y.f1.b, .int .i64 y.f1.a, .int .i64 y.f1.s, .int .i64 y.f1.q, .int .i64 y.w0, .int .i64 y.w1])).run Try.prog w = q at h ⊢
  cases q with
  | ok v w' => simp at h ⊢; exact ⟨by rw [h.1], h.2⟩
  | halt v w' => simp at h

set_option maxHeartbeats 6400000 in
theorem led_err (r : Ru) (n : Int) (E G : Int) (hE : (E != 0) = true) (hG : (G != 0) = true) (a : Option Addr) (cap z : Nat) (ls : List (Int × Int)) (w : World) (hv : VRow w a ls)
    (al : ∀ v, Calls Try.prog 16 #[] v fun e w' => e = .returned (.bool true) ∧ Below v.heap.size v w')
    (st : ∀ v, Calls Try.prog 8 #[.agg #[.int .i64 r.k0, .int .i64 r.k1, .int .i64 r.r, .int .i64 r.m, .int .i64 r.j]] v fun e w' => e = .returned (.tuple #[.slice none 0 0, .int .i64 E]) ∧ Below v.heap.size v w')
    (ld : ∀ v, Calls Try.prog 9 #[.agg #[.int .i64 r.k0, .int .i64 r.k1, .int .i64 r.r, .int .i64 r.m, .int .i64 r.j], .int .i64 n] v fun e w' => ∃ ao m cp, e = .returned (.tuple #[.slice ao m cp, .int .i64 G]) ∧ Below v.heap.size v w') :
    Calls Try.prog 5 #[.agg #[.int .i64 r.k0, .int .i64 r.k1, .int .i64 r.r, .int .i64 r.m, .int .i64 r.j], .int .i64 n, .slice a z cap] w fun e w' => e = .returned (.bool true) ∧ Below w.heap.size w w' := by
  have X := Rul.new w _ rfl r.k0 r.k1 r.r r.m r.j
  have B : Below w.heap.size w (w.alloc (.cells #[.int .i64 r.k0, .int .i64 r.k1, .int .i64 r.r, .int .i64 r.m, .int .i64 r.j] 24)) := balloc (Below.refl _ _) _
  replace hv := hv.alloc (.cells #[.int .i64 r.k0, .int .i64 r.k1, .int .i64 r.r, .int .i64 r.m, .int .i64 r.j] 24)
  obtain ⟨x0, x1, x2, x3, x4, _, _, _, _, _⟩ := id X
  go_enter Try.func5, Try.ntmps5
  go_wp2_with (first
    | (go_at_call 16; refine (al _).mono ?_; clear al x0 x1 x2 x3 x4; rintro e v1 ⟨rfl, b⟩; replace X := X.kept b; replace hv := hv.kept b; replace B := bthen B b; obtain ⟨x0, x1, x2, x3, x4, _, _, _, _, _⟩ := id X)
    | (go_at_call 8; refine (st _).mono ?_; clear st x0 x1 x2 x3 x4; rintro e v1 ⟨rfl, b⟩; replace X := X.kept b; replace hv := hv.kept b; replace B := bthen B b; obtain ⟨x0, x1, x2, x3, x4, _, _, _, _, _⟩ := id X)
    | (go_at_call 9; refine (ld _).mono ?_; clear ld x0 x1 x2 x3 x4; rintro e v1 ⟨ao, m, cp1, rfl, b⟩; replace B := bthen B b; clear X hv))
  go_ret
  exact ⟨rfl, B⟩

set_option maxHeartbeats 6400000 in
theorem led_out (r : Ru) (n : Int) (G : Int) (hG : (G != 0) = true) (L : List Sx) (len : Nat) (hn : n < 0 ∨ (len : Int) ≤ n) (a : Option Addr) (cap z : Nat) (ls : List (Int × Int)) (w : World) (hv : VRow w a ls)
    (al : ∀ v, Calls Try.prog 16 #[] v fun e w' => e = .returned (.bool true) ∧ Below v.heap.size v w')
    (st : ∀ v, Calls Try.prog 8 #[.agg #[.int .i64 r.k0, .int .i64 r.k1, .int .i64 r.r, .int .i64 r.m, .int .i64 r.j]] v fun e w' => ∃ g cp, e = .returned (.tuple #[.slice (some ⟨g, 0, none⟩) len cp, .int .i64 0]) ∧ len ≤ cp ∧ (∀ i s, L[i]? = some s → Sat w' g (i * 14) s) ∧ Below v.heap.size v w')
    (ld : ∀ v, Calls Try.prog 9 #[.agg #[.int .i64 r.k0, .int .i64 r.k1, .int .i64 r.r, .int .i64 r.m, .int .i64 r.j], .int .i64 n] v fun e w' => ∃ ao m cp, e = .returned (.tuple #[.slice ao m cp, .int .i64 G]) ∧ Below v.heap.size v w') :
    Calls Try.prog 5 #[.agg #[.int .i64 r.k0, .int .i64 r.k1, .int .i64 r.r, .int .i64 r.m, .int .i64 r.j], .int .i64 n, .slice a z cap] w fun e w' => e = .returned (.bool true) ∧ Below w.heap.size w w' := by
  have X := Rul.new w _ rfl r.k0 r.k1 r.r r.m r.j
  have B : Below w.heap.size w (w.alloc (.cells #[.int .i64 r.k0, .int .i64 r.k1, .int .i64 r.r, .int .i64 r.m, .int .i64 r.j] 24)) := balloc (Below.refl _ _) _
  replace hv := hv.alloc (.cells #[.int .i64 r.k0, .int .i64 r.k1, .int .i64 r.r, .int .i64 r.m, .int .i64 r.j] 24)
  obtain ⟨x0, x1, x2, x3, x4, _, _, _, _, _⟩ := id X
  rcases hn with hn | hn
  · have hd : decide (n < 0) = true := decide_eq_true hn
    go_enter Try.func5, Try.ntmps5
    go_wp2_with (first
      | (go_at_call 16; refine (al _).mono ?_; clear al x0 x1 x2 x3 x4; rintro e v1 ⟨rfl, b⟩; replace X := X.kept b; replace hv := hv.kept b; replace B := bthen B b; obtain ⟨x0, x1, x2, x3, x4, _, _, _, _, _⟩ := id X)
      | (go_at_call 8; refine (st _).mono ?_; clear st x0 x1 x2 x3 x4; rintro e v1 ⟨g, cp, rfl, hcp, hsts, b⟩; clear hsts; replace X := X.kept b; replace hv := hv.kept b; replace B := bthen B b; obtain ⟨x0, x1, x2, x3, x4, _, _, _, _, _⟩ := id X)
      | (go_at_call 9; refine (ld _).mono ?_; clear ld x0 x1 x2 x3 x4; rintro e v1 ⟨ao, m, cp1, rfl, b⟩; replace B := bthen B b; clear X hv))
    go_ret
    exact ⟨rfl, B⟩
  · have hd : decide (n < 0) = false := decide_eq_false (by omega)
    have hd2 : decide ((len : Int) ≤ n) = true := decide_eq_true hn
    go_enter Try.func5, Try.ntmps5
    go_wp2_with (first
      | (go_at_call 16; refine (al _).mono ?_; clear al x0 x1 x2 x3 x4; rintro e v1 ⟨rfl, b⟩; replace X := X.kept b; replace hv := hv.kept b; replace B := bthen B b; obtain ⟨x0, x1, x2, x3, x4, _, _, _, _, _⟩ := id X)
      | (go_at_call 8; refine (st _).mono ?_; clear st x0 x1 x2 x3 x4; rintro e v1 ⟨g, cp, rfl, hcp, hsts, b⟩; clear hsts; replace X := X.kept b; replace hv := hv.kept b; replace B := bthen B b; obtain ⟨x0, x1, x2, x3, x4, _, _, _, _, _⟩ := id X)
      | (go_at_call 9; refine (ld _).mono ?_; clear ld x0 x1 x2 x3 x4; rintro e v1 ⟨ao, m, cp1, rfl, b⟩; replace B := bthen B b; clear X hv))
    go_ret
    exact ⟨rfl, B⟩

set_option maxHeartbeats 6400000 in
theorem led_fail (r : Ru) (n : Int) (L : List Sx) (len N : Nat) (hn : n = (N : Int)) (s t : Sx) (hs : L[N]? = some s) (hN : N < len) (hl3 : len ≤ 300) (H : Int) (ps : List (Int × Int)) (k : Nat) (hH : (H != 0) = true) (a : Option Addr) (cap z : Nat) (ls : List (Int × Int)) (w : World) (hv : VRow w a ls)
    (al : ∀ v, Calls Try.prog 16 #[] v fun e w' => e = .returned (.bool true) ∧ Below v.heap.size v w')
    (st : ∀ v, Calls Try.prog 8 #[.agg #[.int .i64 r.k0, .int .i64 r.k1, .int .i64 r.r, .int .i64 r.m, .int .i64 r.j]] v fun e w' => ∃ g cp, e = .returned (.tuple #[.slice (some ⟨g, 0, none⟩) len cp, .int .i64 0]) ∧ len ≤ cp ∧ (∀ i s, L[i]? = some s → Sat w' g (i * 14) s) ∧ Below v.heap.size v w')
    (ld : ∀ v, Calls Try.prog 9 #[.agg #[.int .i64 r.k0, .int .i64 r.k1, .int .i64 r.r, .int .i64 r.m, .int .i64 r.j], .int .i64 n] v fun e w' => ∃ ao cp, e = .returned (.tuple #[.slice ao k cp, .int .i64 0]) ∧ VRow w' ao ps ∧ Below v.heap.size v w')
    (pl : ∀ ao cp v, VRow v ao ps → Calls Try.prog 17 #[.agg #[.int .i64 r.k0, .int .i64 r.k1, .int .i64 r.r, .int .i64 r.m, .int .i64 r.j], .slice ao k cp] v fun e w' => ∃ ao rn rc, e = .returned (.tuple #[.slice ao rn rc, .agg #[.int .i64 s.f0.k, .int .i64 s.f0.n, .int .i64 s.f0.b, .int .i64 s.f0.a, .int .i64 s.f0.s, .int .i64 s.f0.q, .int .i64 s.f1.k, .int .i64 s.f1.n, .int .i64 s.f1.b, .int .i64 s.f1.a, .int .i64 s.f1.s, .int .i64 s.f1.q, .int .i64 s.w0, .int .i64 s.w1], .int .i64 0]) ∧ Below v.heap.size v w')
    (pm : ∀ v, VRow v a ls → Calls Try.prog 17 #[.agg #[.int .i64 r.k0, .int .i64 r.k1, .int .i64 r.r, .int .i64 r.m, .int .i64 r.j], .slice a z cap] v fun e w' => ∃ ao rn rc, e = .returned (.tuple #[.slice ao rn rc, .agg #[.int .i64 t.f0.k, .int .i64 t.f0.n, .int .i64 t.f0.b, .int .i64 t.f0.a, .int .i64 t.f0.s, .int .i64 t.f0.q, .int .i64 t.f1.k, .int .i64 t.f1.n, .int .i64 t.f1.b, .int .i64 t.f1.a, .int .i64 t.f1.s, .int .i64 t.f1.q, .int .i64 t.w0, .int .i64 t.w1], .int .i64 H]) ∧ Below v.heap.size v w') :
    Calls Try.prog 5 #[.agg #[.int .i64 r.k0, .int .i64 r.k1, .int .i64 r.r, .int .i64 r.m, .int .i64 r.j], .int .i64 n, .slice a z cap] w fun e w' => e = .returned (.bool true) ∧ Below w.heap.size w w' := by
  have X := Rul.new w _ rfl r.k0 r.k1 r.r r.m r.j
  have B : Below w.heap.size w (w.alloc (.cells #[.int .i64 r.k0, .int .i64 r.k1, .int .i64 r.r, .int .i64 r.m, .int .i64 r.j] 24)) := balloc (Below.refl _ _) _
  replace hv := hv.alloc (.cells #[.int .i64 r.k0, .int .i64 r.k1, .int .i64 r.r, .int .i64 r.m, .int .i64 r.j] 24)
  obtain ⟨x0, x1, x2, x3, x4, _, _, _, _, _⟩ := id X
  obtain rfl : n = (N : Int) := hn
  replace hs : Hid _ := hs
  go_enter Try.func5, Try.ntmps5
  go_wp2_with (first
    | (go_at_call 16; refine (al _).mono ?_; clear al x0 x1 x2 x3 x4; rintro e v1 ⟨rfl, b⟩; replace X := X.kept b; replace hv := hv.kept b; replace B := bthen B b; obtain ⟨x0, x1, x2, x3, x4, _, _, _, _, _⟩ := id X)
    | (go_at_call 8; refine (st _).mono ?_; clear st x0 x1 x2 x3 x4; rintro e v1 ⟨g, cp, rfl, hcp, hsts, b⟩; replace hsts : Sat v1 g (N * 14) s := hsts N s hs.out; replace X := X.kept b; replace hv := hv.kept b; replace B := bthen B b; obtain ⟨x0, x1, x2, x3, x4, _, _, _, _, _⟩ := id X)
    | (go_at_call 9; refine (ld _).mono ?_; clear ld x0 x1 x2 x3 x4; rintro e v1 ⟨ao, cp1, rfl, hp, b⟩; replace hsts := hsts.kept b; replace X := X.kept b; replace hv := hv.kept b; replace B := bthen B b; obtain ⟨x0, x1, x2, x3, x4, _, _, _, _, _⟩ := id X)
    | (go_at_call 17; refine (pl _ _ _ hp).mono ?_; clear pl x0 x1 x2 x3 x4 hp; rintro e v2 ⟨ao1, rn1, rc1, rfl, b⟩; have sS := Sta.new v2 v2.heap.size rfl (s.f0.k) (s.f0.n) (s.f0.b) (s.f0.a) (s.f0.s) (s.f0.q) (s.f1.k) (s.f1.n) (s.f1.b) (s.f1.a) (s.f1.s) (s.f1.q) (s.w0) (s.w1); replace hsts := hsts.kept (balloc b (.cells #[.int .i64 s.f0.k, .int .i64 s.f0.n, .int .i64 s.f0.b, .int .i64 s.f0.a, .int .i64 s.f0.s, .int .i64 s.f0.q, .int .i64 s.f1.k, .int .i64 s.f1.n, .int .i64 s.f1.b, .int .i64 s.f1.a, .int .i64 s.f1.s, .int .i64 s.f1.q, .int .i64 s.w0, .int .i64 s.w1] 48)); replace X := X.kept (balloc b (.cells #[.int .i64 s.f0.k, .int .i64 s.f0.n, .int .i64 s.f0.b, .int .i64 s.f0.a, .int .i64 s.f0.s, .int .i64 s.f0.q, .int .i64 s.f1.k, .int .i64 s.f1.n, .int .i64 s.f1.b, .int .i64 s.f1.a, .int .i64 s.f1.s, .int .i64 s.f1.q, .int .i64 s.w0, .int .i64 s.w1] 48)); replace hv := hv.kept (balloc b (.cells #[.int .i64 s.f0.k, .int .i64 s.f0.n, .int .i64 s.f0.b, .int .i64 s.f0.a, .int .i64 s.f0.s, .int .i64 s.f0.q, .int .i64 s.f1.k, .int .i64 s.f1.n, .int .i64 s.f1.b, .int .i64 s.f1.a, .int .i64 s.f1.s, .int .i64 s.f1.q, .int .i64 s.w0, .int .i64 s.w1] 48)); replace B := balloc (bthen B b) (.cells #[.int .i64 s.f0.k, .int .i64 s.f0.n, .int .i64 s.f0.b, .int .i64 s.f0.a, .int .i64 s.f0.s, .int .i64 s.f0.q, .int .i64 s.f1.k, .int .i64 s.f1.n, .int .i64 s.f1.b, .int .i64 s.f1.a, .int .i64 s.f1.s, .int .i64 s.f1.q, .int .i64 s.w0, .int .i64 s.w1] 48); obtain ⟨x0, x1, x2, x3, x4, _, _, _, _, _⟩ := id X)
    | (go_at_call 17; refine (pm _ hv).mono ?_; clear pm x0 x1 x2 x3 x4 X hv; rintro e v3 ⟨ao2, rn2, rc2, rfl, b⟩; have sT := Sta.new v3 v3.heap.size rfl (t.f0.k) (t.f0.n) (t.f0.b) (t.f0.a) (t.f0.s) (t.f0.q) (t.f1.k) (t.f1.n) (t.f1.b) (t.f1.a) (t.f1.s) (t.f1.q) (t.w0) (t.w1); replace hsts := hsts.kept (balloc b (.cells #[.int .i64 t.f0.k, .int .i64 t.f0.n, .int .i64 t.f0.b, .int .i64 t.f0.a, .int .i64 t.f0.s, .int .i64 t.f0.q, .int .i64 t.f1.k, .int .i64 t.f1.n, .int .i64 t.f1.b, .int .i64 t.f1.a, .int .i64 t.f1.s, .int .i64 t.f1.q, .int .i64 t.w0, .int .i64 t.w1] 48)); replace sS := sS.kept (balloc b (.cells #[.int .i64 t.f0.k, .int .i64 t.f0.n, .int .i64 t.f0.b, .int .i64 t.f0.a, .int .i64 t.f0.s, .int .i64 t.f0.q, .int .i64 t.f1.k, .int .i64 t.f1.n, .int .i64 t.f1.b, .int .i64 t.f1.a, .int .i64 t.f1.s, .int .i64 t.f1.q, .int .i64 t.w0, .int .i64 t.w1] 48)); replace B := balloc (bthen B b) (.cells #[.int .i64 t.f0.k, .int .i64 t.f0.n, .int .i64 t.f0.b, .int .i64 t.f0.a, .int .i64 t.f0.s, .int .i64 t.f0.q, .int .i64 t.f1.k, .int .i64 t.f1.n, .int .i64 t.f1.b, .int .i64 t.f1.a, .int .i64 t.f1.s, .int .i64 t.f1.q, .int .i64 t.w0, .int .i64 t.w1] 48)))
  have heq := eqX s s
  rw [decide_eq_true rfl] at heq
  obtain ⟨c0, c1, c2, c3, c4, c5, c6, c7, c8, c9, c10, c11, c12, c13⟩ := id hsts
  obtain ⟨e0, e1, e2, e3, e4, e5, e6, e7, e8, e9, e10, e11, e12, e13, _⟩ := id sS
  obtain ⟨d0, d1, d2, d3, d4, d5, d6, d7, d8, d9, d10, d11, d12, d13, _⟩ := id sT
  go_quiet (fail)
  go_wp2
  go_ret
  exact ⟨rfl, below_drewN B _⟩

set_option maxHeartbeats 6400000 in
theorem led_other (r : Ru) (n : Int) (L : List Sx) (len N : Nat) (hn : n = (N : Int)) (s t : Sx) (hs : L[N]? = some s) (hN : N < len) (hl3 : len ≤ 300) (H : Int) (ps : List (Int × Int)) (k : Nat) (hH : H = 0) (hst : ¬ t = s) (a : Option Addr) (cap z : Nat) (ls : List (Int × Int)) (w : World) (hv : VRow w a ls)
    (al : ∀ v, Calls Try.prog 16 #[] v fun e w' => e = .returned (.bool true) ∧ Below v.heap.size v w')
    (st : ∀ v, Calls Try.prog 8 #[.agg #[.int .i64 r.k0, .int .i64 r.k1, .int .i64 r.r, .int .i64 r.m, .int .i64 r.j]] v fun e w' => ∃ g cp, e = .returned (.tuple #[.slice (some ⟨g, 0, none⟩) len cp, .int .i64 0]) ∧ len ≤ cp ∧ (∀ i s, L[i]? = some s → Sat w' g (i * 14) s) ∧ Below v.heap.size v w')
    (ld : ∀ v, Calls Try.prog 9 #[.agg #[.int .i64 r.k0, .int .i64 r.k1, .int .i64 r.r, .int .i64 r.m, .int .i64 r.j], .int .i64 n] v fun e w' => ∃ ao cp, e = .returned (.tuple #[.slice ao k cp, .int .i64 0]) ∧ VRow w' ao ps ∧ Below v.heap.size v w')
    (pl : ∀ ao cp v, VRow v ao ps → Calls Try.prog 17 #[.agg #[.int .i64 r.k0, .int .i64 r.k1, .int .i64 r.r, .int .i64 r.m, .int .i64 r.j], .slice ao k cp] v fun e w' => ∃ ao rn rc, e = .returned (.tuple #[.slice ao rn rc, .agg #[.int .i64 s.f0.k, .int .i64 s.f0.n, .int .i64 s.f0.b, .int .i64 s.f0.a, .int .i64 s.f0.s, .int .i64 s.f0.q, .int .i64 s.f1.k, .int .i64 s.f1.n, .int .i64 s.f1.b, .int .i64 s.f1.a, .int .i64 s.f1.s, .int .i64 s.f1.q, .int .i64 s.w0, .int .i64 s.w1], .int .i64 0]) ∧ Below v.heap.size v w')
    (pm : ∀ v, VRow v a ls → Calls Try.prog 17 #[.agg #[.int .i64 r.k0, .int .i64 r.k1, .int .i64 r.r, .int .i64 r.m, .int .i64 r.j], .slice a z cap] v fun e w' => ∃ ao rn rc, e = .returned (.tuple #[.slice ao rn rc, .agg #[.int .i64 t.f0.k, .int .i64 t.f0.n, .int .i64 t.f0.b, .int .i64 t.f0.a, .int .i64 t.f0.s, .int .i64 t.f0.q, .int .i64 t.f1.k, .int .i64 t.f1.n, .int .i64 t.f1.b, .int .i64 t.f1.a, .int .i64 t.f1.s, .int .i64 t.f1.q, .int .i64 t.w0, .int .i64 t.w1], .int .i64 H]) ∧ Below v.heap.size v w') :
    Calls Try.prog 5 #[.agg #[.int .i64 r.k0, .int .i64 r.k1, .int .i64 r.r, .int .i64 r.m, .int .i64 r.j], .int .i64 n, .slice a z cap] w fun e w' => e = .returned (.bool true) ∧ Below w.heap.size w w' := by
  have X := Rul.new w _ rfl r.k0 r.k1 r.r r.m r.j
  have B : Below w.heap.size w (w.alloc (.cells #[.int .i64 r.k0, .int .i64 r.k1, .int .i64 r.r, .int .i64 r.m, .int .i64 r.j] 24)) := balloc (Below.refl _ _) _
  replace hv := hv.alloc (.cells #[.int .i64 r.k0, .int .i64 r.k1, .int .i64 r.r, .int .i64 r.m, .int .i64 r.j] 24)
  obtain ⟨x0, x1, x2, x3, x4, _, _, _, _, _⟩ := id X
  obtain rfl : n = (N : Int) := hn
  subst hH
  replace hs : Hid _ := hs
  go_enter Try.func5, Try.ntmps5
  go_wp2_with (first
    | (go_at_call 16; refine (al _).mono ?_; clear al x0 x1 x2 x3 x4; rintro e v1 ⟨rfl, b⟩; replace X := X.kept b; replace hv := hv.kept b; replace B := bthen B b; obtain ⟨x0, x1, x2, x3, x4, _, _, _, _, _⟩ := id X)
    | (go_at_call 8; refine (st _).mono ?_; clear st x0 x1 x2 x3 x4; rintro e v1 ⟨g, cp, rfl, hcp, hsts, b⟩; replace hsts : Sat v1 g (N * 14) s := hsts N s hs.out; replace X := X.kept b; replace hv := hv.kept b; replace B := bthen B b; obtain ⟨x0, x1, x2, x3, x4, _, _, _, _, _⟩ := id X)
    | (go_at_call 9; refine (ld _).mono ?_; clear ld x0 x1 x2 x3 x4; rintro e v1 ⟨ao, cp1, rfl, hp, b⟩; replace hsts := hsts.kept b; replace X := X.kept b; replace hv := hv.kept b; replace B := bthen B b; obtain ⟨x0, x1, x2, x3, x4, _, _, _, _, _⟩ := id X)
    | (go_at_call 17; refine (pl _ _ _ hp).mono ?_; clear pl x0 x1 x2 x3 x4 hp; rintro e v2 ⟨ao1, rn1, rc1, rfl, b⟩; have sS := Sta.new v2 v2.heap.size rfl (s.f0.k) (s.f0.n) (s.f0.b) (s.f0.a) (s.f0.s) (s.f0.q) (s.f1.k) (s.f1.n) (s.f1.b) (s.f1.a) (s.f1.s) (s.f1.q) (s.w0) (s.w1); replace hsts := hsts.kept (balloc b (.cells #[.int .i64 s.f0.k, .int .i64 s.f0.n, .int .i64 s.f0.b, .int .i64 s.f0.a, .int .i64 s.f0.s, .int .i64 s.f0.q, .int .i64 s.f1.k, .int .i64 s.f1.n, .int .i64 s.f1.b, .int .i64 s.f1.a, .int .i64 s.f1.s, .int .i64 s.f1.q, .int .i64 s.w0, .int .i64 s.w1] 48)); replace X := X.kept (balloc b (.cells #[.int .i64 s.f0.k, .int .i64 s.f0.n, .int .i64 s.f0.b, .int .i64 s.f0.a, .int .i64 s.f0.s, .int .i64 s.f0.q, .int .i64 s.f1.k, .int .i64 s.f1.n, .int .i64 s.f1.b, .int .i64 s.f1.a, .int .i64 s.f1.s, .int .i64 s.f1.q, .int .i64 s.w0, .int .i64 s.w1] 48)); replace hv := hv.kept (balloc b (.cells #[.int .i64 s.f0.k, .int .i64 s.f0.n, .int .i64 s.f0.b, .int .i64 s.f0.a, .int .i64 s.f0.s, .int .i64 s.f0.q, .int .i64 s.f1.k, .int .i64 s.f1.n, .int .i64 s.f1.b, .int .i64 s.f1.a, .int .i64 s.f1.s, .int .i64 s.f1.q, .int .i64 s.w0, .int .i64 s.w1] 48)); replace B := balloc (bthen B b) (.cells #[.int .i64 s.f0.k, .int .i64 s.f0.n, .int .i64 s.f0.b, .int .i64 s.f0.a, .int .i64 s.f0.s, .int .i64 s.f0.q, .int .i64 s.f1.k, .int .i64 s.f1.n, .int .i64 s.f1.b, .int .i64 s.f1.a, .int .i64 s.f1.s, .int .i64 s.f1.q, .int .i64 s.w0, .int .i64 s.w1] 48); obtain ⟨x0, x1, x2, x3, x4, _, _, _, _, _⟩ := id X)
    | (go_at_call 17; refine (pm _ hv).mono ?_; clear pm x0 x1 x2 x3 x4 X hv; rintro e v3 ⟨ao2, rn2, rc2, rfl, b⟩; have sT := Sta.new v3 v3.heap.size rfl (t.f0.k) (t.f0.n) (t.f0.b) (t.f0.a) (t.f0.s) (t.f0.q) (t.f1.k) (t.f1.n) (t.f1.b) (t.f1.a) (t.f1.s) (t.f1.q) (t.w0) (t.w1); replace hsts := hsts.kept (balloc b (.cells #[.int .i64 t.f0.k, .int .i64 t.f0.n, .int .i64 t.f0.b, .int .i64 t.f0.a, .int .i64 t.f0.s, .int .i64 t.f0.q, .int .i64 t.f1.k, .int .i64 t.f1.n, .int .i64 t.f1.b, .int .i64 t.f1.a, .int .i64 t.f1.s, .int .i64 t.f1.q, .int .i64 t.w0, .int .i64 t.w1] 48)); replace sS := sS.kept (balloc b (.cells #[.int .i64 t.f0.k, .int .i64 t.f0.n, .int .i64 t.f0.b, .int .i64 t.f0.a, .int .i64 t.f0.s, .int .i64 t.f0.q, .int .i64 t.f1.k, .int .i64 t.f1.n, .int .i64 t.f1.b, .int .i64 t.f1.a, .int .i64 t.f1.s, .int .i64 t.f1.q, .int .i64 t.w0, .int .i64 t.w1] 48)); replace B := balloc (bthen B b) (.cells #[.int .i64 t.f0.k, .int .i64 t.f0.n, .int .i64 t.f0.b, .int .i64 t.f0.a, .int .i64 t.f0.s, .int .i64 t.f0.q, .int .i64 t.f1.k, .int .i64 t.f1.n, .int .i64 t.f1.b, .int .i64 t.f1.a, .int .i64 t.f1.s, .int .i64 t.f1.q, .int .i64 t.w0, .int .i64 t.w1] 48)))
  have heq := eqX s s
  rw [decide_eq_true rfl] at heq
  obtain ⟨c0, c1, c2, c3, c4, c5, c6, c7, c8, c9, c10, c11, c12, c13⟩ := id hsts
  obtain ⟨e0, e1, e2, e3, e4, e5, e6, e7, e8, e9, e10, e11, e12, e13, _⟩ := id sS
  obtain ⟨d0, d1, d2, d3, d4, d5, d6, d7, d8, d9, d10, d11, d12, d13, _⟩ := id sT
  have hne := neX t s
  rw [decide_eq_false hst] at hne
  simp only [Bool.not_false] at hne
  go_quiet (fail)
  go_wp2
  go_ret
  exact ⟨rfl, below_drewN B _⟩

set_option maxHeartbeats 6400000 in
theorem led_same (r : Ru) (n : Int) (L : List Sx) (len N : Nat) (hn : n = (N : Int)) (s t : Sx) (hs : L[N]? = some s) (hN : N < len) (hl3 : len ≤ 300) (H : Int) (ps : List (Int × Int)) (k : Nat) (hH : H = 0) (hst : s = t) (a : Option Addr) (cap z : Nat) (hk : k ≤ z) (ls : List (Int × Int)) (w : World) (hv : VRow w a ls)
    (al : ∀ v, Calls Try.prog 16 #[] v fun e w' => e = .returned (.bool true) ∧ Below v.heap.size v w')
    (st : ∀ v, Calls Try.prog 8 #[.agg #[.int .i64 r.k0, .int .i64 r.k1, .int .i64 r.r, .int .i64 r.m, .int .i64 r.j]] v fun e w' => ∃ g cp, e = .returned (.tuple #[.slice (some ⟨g, 0, none⟩) len cp, .int .i64 0]) ∧ len ≤ cp ∧ (∀ i s, L[i]? = some s → Sat w' g (i * 14) s) ∧ Below v.heap.size v w')
    (ld : ∀ v, Calls Try.prog 9 #[.agg #[.int .i64 r.k0, .int .i64 r.k1, .int .i64 r.r, .int .i64 r.m, .int .i64 r.j], .int .i64 n] v fun e w' => ∃ ao cp, e = .returned (.tuple #[.slice ao k cp, .int .i64 0]) ∧ VRow w' ao ps ∧ Below v.heap.size v w')
    (pl : ∀ ao cp v, VRow v ao ps → Calls Try.prog 17 #[.agg #[.int .i64 r.k0, .int .i64 r.k1, .int .i64 r.r, .int .i64 r.m, .int .i64 r.j], .slice ao k cp] v fun e w' => ∃ ao rn rc, e = .returned (.tuple #[.slice ao rn rc, .agg #[.int .i64 s.f0.k, .int .i64 s.f0.n, .int .i64 s.f0.b, .int .i64 s.f0.a, .int .i64 s.f0.s, .int .i64 s.f0.q, .int .i64 s.f1.k, .int .i64 s.f1.n, .int .i64 s.f1.b, .int .i64 s.f1.a, .int .i64 s.f1.s, .int .i64 s.f1.q, .int .i64 s.w0, .int .i64 s.w1], .int .i64 0]) ∧ Below v.heap.size v w')
    (pm : ∀ v, VRow v a ls → Calls Try.prog 17 #[.agg #[.int .i64 r.k0, .int .i64 r.k1, .int .i64 r.r, .int .i64 r.m, .int .i64 r.j], .slice a z cap] v fun e w' => ∃ ao rn rc, e = .returned (.tuple #[.slice ao rn rc, .agg #[.int .i64 t.f0.k, .int .i64 t.f0.n, .int .i64 t.f0.b, .int .i64 t.f0.a, .int .i64 t.f0.s, .int .i64 t.f0.q, .int .i64 t.f1.k, .int .i64 t.f1.n, .int .i64 t.f1.b, .int .i64 t.f1.a, .int .i64 t.f1.s, .int .i64 t.f1.q, .int .i64 t.w0, .int .i64 t.w1], .int .i64 H]) ∧ Below v.heap.size v w') :
    Calls Try.prog 5 #[.agg #[.int .i64 r.k0, .int .i64 r.k1, .int .i64 r.r, .int .i64 r.m, .int .i64 r.j], .int .i64 n, .slice a z cap] w fun e w' => e = .returned (.bool true) ∧ Below w.heap.size w w' := by
  have X := Rul.new w _ rfl r.k0 r.k1 r.r r.m r.j
  have B : Below w.heap.size w (w.alloc (.cells #[.int .i64 r.k0, .int .i64 r.k1, .int .i64 r.r, .int .i64 r.m, .int .i64 r.j] 24)) := balloc (Below.refl _ _) _
  replace hv := hv.alloc (.cells #[.int .i64 r.k0, .int .i64 r.k1, .int .i64 r.r, .int .i64 r.m, .int .i64 r.j] 24)
  obtain ⟨x0, x1, x2, x3, x4, _, _, _, _, _⟩ := id X
  obtain rfl : n = (N : Int) := hn
  subst hH
  replace hst : Hid _ := hst
  replace hs : Hid _ := hs
  go_enter Try.func5, Try.ntmps5
  go_wp2_with (first
    | (go_at_call 16; refine (al _).mono ?_; clear al x0 x1 x2 x3 x4; rintro e v1 ⟨rfl, b⟩; replace X := X.kept b; replace hv := hv.kept b; replace B := bthen B b; obtain ⟨x0, x1, x2, x3, x4, _, _, _, _, _⟩ := id X)
    | (go_at_call 8; refine (st _).mono ?_; clear st x0 x1 x2 x3 x4; rintro e v1 ⟨g, cp, rfl, hcp, hsts, b⟩; replace hsts : Sat v1 g (N * 14) s := hsts N s hs.out; replace X := X.kept b; replace hv := hv.kept b; replace B := bthen B b; obtain ⟨x0, x1, x2, x3, x4, _, _, _, _, _⟩ := id X)
    | (go_at_call 9; refine (ld _).mono ?_; clear ld x0 x1 x2 x3 x4; rintro e v1 ⟨ao, cp1, rfl, hp, b⟩; replace hsts := hsts.kept b; replace X := X.kept b; replace hv := hv.kept b; replace B := bthen B b; obtain ⟨x0, x1, x2, x3, x4, _, _, _, _, _⟩ := id X)
    | (go_at_call 17; refine (pl _ _ _ hp).mono ?_; clear pl x0 x1 x2 x3 x4 hp; rintro e v2 ⟨ao1, rn1, rc1, rfl, b⟩; have sS := Sta.new v2 v2.heap.size rfl (s.f0.k) (s.f0.n) (s.f0.b) (s.f0.a) (s.f0.s) (s.f0.q) (s.f1.k) (s.f1.n) (s.f1.b) (s.f1.a) (s.f1.s) (s.f1.q) (s.w0) (s.w1); replace hsts := hsts.kept (balloc b (.cells #[.int .i64 s.f0.k, .int .i64 s.f0.n, .int .i64 s.f0.b, .int .i64 s.f0.a, .int .i64 s.f0.s, .int .i64 s.f0.q, .int .i64 s.f1.k, .int .i64 s.f1.n, .int .i64 s.f1.b, .int .i64 s.f1.a, .int .i64 s.f1.s, .int .i64 s.f1.q, .int .i64 s.w0, .int .i64 s.w1] 48)); replace X := X.kept (balloc b (.cells #[.int .i64 s.f0.k, .int .i64 s.f0.n, .int .i64 s.f0.b, .int .i64 s.f0.a, .int .i64 s.f0.s, .int .i64 s.f0.q, .int .i64 s.f1.k, .int .i64 s.f1.n, .int .i64 s.f1.b, .int .i64 s.f1.a, .int .i64 s.f1.s, .int .i64 s.f1.q, .int .i64 s.w0, .int .i64 s.w1] 48)); replace hv := hv.kept (balloc b (.cells #[.int .i64 s.f0.k, .int .i64 s.f0.n, .int .i64 s.f0.b, .int .i64 s.f0.a, .int .i64 s.f0.s, .int .i64 s.f0.q, .int .i64 s.f1.k, .int .i64 s.f1.n, .int .i64 s.f1.b, .int .i64 s.f1.a, .int .i64 s.f1.s, .int .i64 s.f1.q, .int .i64 s.w0, .int .i64 s.w1] 48)); replace B := balloc (bthen B b) (.cells #[.int .i64 s.f0.k, .int .i64 s.f0.n, .int .i64 s.f0.b, .int .i64 s.f0.a, .int .i64 s.f0.s, .int .i64 s.f0.q, .int .i64 s.f1.k, .int .i64 s.f1.n, .int .i64 s.f1.b, .int .i64 s.f1.a, .int .i64 s.f1.s, .int .i64 s.f1.q, .int .i64 s.w0, .int .i64 s.w1] 48); obtain ⟨x0, x1, x2, x3, x4, _, _, _, _, _⟩ := id X)
    | (go_at_call 17; refine (pm _ hv).mono ?_; clear pm x0 x1 x2 x3 x4 X hv; rintro e v3 ⟨ao2, rn2, rc2, rfl, b⟩; have sT := Sta.new v3 v3.heap.size rfl (t.f0.k) (t.f0.n) (t.f0.b) (t.f0.a) (t.f0.s) (t.f0.q) (t.f1.k) (t.f1.n) (t.f1.b) (t.f1.a) (t.f1.s) (t.f1.q) (t.w0) (t.w1); replace hsts := hsts.kept (balloc b (.cells #[.int .i64 t.f0.k, .int .i64 t.f0.n, .int .i64 t.f0.b, .int .i64 t.f0.a, .int .i64 t.f0.s, .int .i64 t.f0.q, .int .i64 t.f1.k, .int .i64 t.f1.n, .int .i64 t.f1.b, .int .i64 t.f1.a, .int .i64 t.f1.s, .int .i64 t.f1.q, .int .i64 t.w0, .int .i64 t.w1] 48)); replace sS := sS.kept (balloc b (.cells #[.int .i64 t.f0.k, .int .i64 t.f0.n, .int .i64 t.f0.b, .int .i64 t.f0.a, .int .i64 t.f0.s, .int .i64 t.f0.q, .int .i64 t.f1.k, .int .i64 t.f1.n, .int .i64 t.f1.b, .int .i64 t.f1.a, .int .i64 t.f1.s, .int .i64 t.f1.q, .int .i64 t.w0, .int .i64 t.w1] 48)); replace B := balloc (bthen B b) (.cells #[.int .i64 t.f0.k, .int .i64 t.f0.n, .int .i64 t.f0.b, .int .i64 t.f0.a, .int .i64 t.f0.s, .int .i64 t.f0.q, .int .i64 t.f1.k, .int .i64 t.f1.n, .int .i64 t.f1.b, .int .i64 t.f1.a, .int .i64 t.f1.s, .int .i64 t.f1.q, .int .i64 t.w0, .int .i64 t.w1] 48)))
  have heq := eqX s s
  rw [decide_eq_true rfl] at heq
  obtain ⟨c0, c1, c2, c3, c4, c5, c6, c7, c8, c9, c10, c11, c12, c13⟩ := id hsts
  obtain ⟨e0, e1, e2, e3, e4, e5, e6, e7, e8, e9, e10, e11, e12, e13, _⟩ := id sS
  obtain ⟨d0, d1, d2, d3, d4, d5, d6, d7, d8, d9, d10, d11, d12, d13, _⟩ := id sT
  have hne := neX t s
  rw [decide_eq_true hst.out.symm] at hne
  simp only [Bool.not_true] at hne
  have hkz : decide ((k : Int) ≤ (z : Int)) = true := decide_eq_true (by omega)
  go_quiet (fail)
  go_wp2
  go_ret
  exact ⟨rfl, below_drewN B _⟩

end Go.Proofs.Ytilpooifggofiaa.D
