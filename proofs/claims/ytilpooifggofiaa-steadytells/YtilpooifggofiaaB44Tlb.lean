/- PROVED: what slices.Equal answers of two rows of states, of pairs, of edges that are the same. SteadyTells, over what its callees answer. SteadyTells, over what its callees answer. CONDITIONS: none beyond each theorem's own. -/
import Derived.Test.YtilpooifggofiaaB37Led
import Derived.Test.YtilpooifggofiaaB38Gf
import Derived.Test.YtilpooifggofiaaB09DSame
import Derived.BigQuiet
namespace Go.Proofs.Ytilpooifggofiaa.D
open Go.RowKit K
set_option linter.unusedVariables false

theorem neA (a b : Int) (w : World) : (binOp .neq 22 (.agg #[.int .i64 a, .int .i64 b]) (.agg #[.int .i64 a, .int .i64 b])).run Try.prog w = .ok (.bool false) w := by
  have h := eqA a b a b w
  rw [run_eql_struct] at h
  rw [run_neq_struct]
  rw [sameA_self] at h
  generalize (Op.equalIn 10000 22 (.agg #[.int .i64 a, .int .i64 b]) (.agg #[.int .i64 a, .int .i64 b])).run Try.prog w = q at h ⊢
  cases q with
  | ok v w' => simp at h ⊢; exact ⟨h.1, h.2⟩
  | halt v w' => simp at h
theorem Try.fields54 : (Try.prog.fieldsOf 54).toList.map (fun f => (f.name == "_", f.type, f.offset)) = [(false, 3, 0), (false, 3, 1), (false, 3, 2)] := by kernel_rfl
theorem three {xs : List Field} (h : xs.map (fun f => (f.name == "_", f.type, f.offset)) = [(false, 3, 0), (false, 3, 1), (false, 3, 2)]) : ∃ f0 f1 f2, xs = [f0, f1, f2] := by
  have hl : xs.length = 3 := by simpa using congrArg List.length h
  match xs, hl with
  | [f0, f1, f2], _ => exact ⟨f0, f1, f2, rfl⟩
theorem eqEd (a b c : Int) (w : World) : (binOp .eql 54 (.agg #[.int .i64 a, .int .i64 b, .int .i64 c]) (.agg #[.int .i64 a, .int .i64 b, .int .i64 c])).run Try.prog w = .ok (.bool true) w := by
  rw [run_eql_struct, run_equalIn_agg (d := 9999) _ _ _ _ (by kernel_rfl) (by kernel_rfl)]
  have hf := Try.fields54
  obtain ⟨f0, f1, f2, e⟩ := three hf
  rw [e] at hf ⊢
  simp only [List.map_cons, List.map_nil, List.cons.injEq, Prod.mk.injEq, and_true] at hf
  obtain ⟨⟨a0, b0, c0⟩, ⟨a1, b1, c1⟩, ⟨a2, b2, c2⟩⟩ := hf
  rw [V.eqField _ _ f0 _ 0 a a w a0 b0 c0 rfl rfl _ (V.eqField _ _ f1 _ 1 b b w a1 b1 c1 rfl rfl _ (V.eqField _ _ f2 _ 2 c c w a2 b2 c2 rfl rfl true (by simp [Op.eqFields])))]
  simp
theorem neEd (a b c : Int) (w : World) : (binOp .neq 54 (.agg #[.int .i64 a, .int .i64 b, .int .i64 c]) (.agg #[.int .i64 a, .int .i64 b, .int .i64 c])).run Try.prog w = .ok (.bool false) w := by
  have h := eqEd a b c w
  rw [run_eql_struct] at h
  rw [run_neq_struct]
  generalize (Op.equalIn 10000 54 (.agg #[.int .i64 a, .int .i64 b, .int .i64 c]) (.agg #[.int .i64 a, .int .i64 b, .int .i64 c])).run Try.prog w = q at h ⊢
  cases q with
  | ok v w' => simp at h ⊢; exact ⟨h.1, h.2⟩
  | halt v w' => simp at h
theorem neSs (s : Sx) (w : World) : (binOp .neq 48 (.agg #[.int .i64 s.f0.k, .int .i64 s.f0.n, .int .i64 s.f0.b, .int .i64 s.f0.a, .int .i64 s.f0.s, .int .i64 s.f0.q, .int .i64 s.f1.k, .int .i64 s.f1.n, .int .i64 s.f1.b, .int .i64 s.f1.a, .int .i64 s.f1.s, .int .i64 s.f1.q, .int .i64 s.w0, .int .i64 s.w1]) (.agg #[.int .i64 s.f0.k, .int .i64 s.f0.n, .int .i64 s.f0.b, .int .i64 s.f0.a, .int .i64 s.f0.s, .int .i64 s.f0.q, .int .i64 s.f1.k, .int .i64 s.f1.n, .int .i64 s.f1.b, .int .i64 s.f1.a, .int .i64 s.f1.s, .int .i64 s.f1.q, .int .i64 s.w0, .int .i64 s.w1])).run Try.prog w = .ok (.bool false) w := by
  have := neX s s w
  simpa using this
set_option maxHeartbeats 3200000 in
theorem equal_states (g1 g2 c1 c2 n : Nat) (L : List Sx) (hn : L.length = n) (hb : n ≤ 300) (w : World) (h1 : ∀ i s, L[i]? = some s → Sat w g1 (i * 14) s) (h2 : ∀ i s, L[i]? = some s → Sat w g2 (i * 14) s) :
    Calls Try.prog 11 #[.slice (some ⟨g1, 0, none⟩) n c1, .slice (some ⟨g2, 0, none⟩) n c2] w fun e w' => e = .returned (.bool true) ∧ Below w.heap.size w w' := by
  replace hn : Hid _ := hn
  replace h1 : Hid _ := h1
  replace h2 : Hid _ := h2
  go_enter Try.func11, Try.ntmps11
  go_wp2
  go_loopw [13] (fun i wr => ∃ k q : Nat, k ≤ n ∧ i = .int .i64 k ∧ wr = w.drewN q) (fun i _ => n - (intOf i).toNat)
  case atStart => exact ⟨0, 0, Nat.zero_le _, rfl, rfl⟩
  case round =>
    obtain ⟨k, q, hk, rfl, rfl⟩ := hrel
    by_cases hlt : k < n
    · have hkI : (k : Int) < n := by omega
      have q1 := hn.out
      obtain ⟨s, hs⟩ : ∃ s, L[k]? = some s := ⟨_, List.getElem?_eq_getElem (by omega)⟩
      obtain ⟨x0, x1, x2, x3, x4, x5, x6, x7, x8, x9, x10, x11, x12, x13⟩ := h1.out k s hs
      obtain ⟨y0, y1, y2, y3, y4, y5, y6, y7, y8, y9, y10, y11, y12, y13⟩ := h2.out k s hs
      have hne := neSs s
      clear hs
      go_wp2
      go_quiet (fail)
      go_wp2
      go_roundw
      case rel => exact ⟨k + 1, q + nq, by omega, by go_num, rfl⟩
      case measure => simp [intOf]; omega
    · obtain rfl : k = n := by omega
      go_wp2
      go_ret
      exact ⟨rfl, below_drewN (Below.refl _ _) q⟩
set_option maxHeartbeats 3200000 in
theorem equal_pairs (a1 a2 : Option Addr) (c1 c2 n : Nat) (R : List (Int × Int)) (hn : R.length = n) (hb : n ≤ 300) (w : World) (h1 : VRow w a1 R) (h2 : VRow w a2 R) :
    Calls Try.prog 12 #[.slice a1 n c1, .slice a2 n c2] w fun e w' => e = .returned (.bool true) ∧ Below w.heap.size w w' := by
  replace hn : Hid _ := hn
  replace h1 : Hid _ := h1
  replace h2 : Hid _ := h2
  go_enter Try.func12, Try.ntmps12
  go_wp2
  go_loopw [13] (fun i wr => ∃ k q : Nat, k ≤ n ∧ i = .int .i64 k ∧ wr = w.drewN q) (fun i _ => n - (intOf i).toNat)
  case atStart => exact ⟨0, 0, Nat.zero_le _, rfl, rfl⟩
  case round =>
    obtain ⟨k, q, hk, rfl, rfl⟩ := hrel
    by_cases hlt : k < n
    · have hkI : (k : Int) < n := by omega
      have q1 := hn.out
      obtain ⟨g1, o1, rfl, e1⟩ := VRow.at (ps := R) (w := w) (ao := a1) h1.out (by omega)
      obtain ⟨g2, o2, rfl, e2⟩ := VRow.at (ps := R) (w := w) (ao := a2) h2.out (by omega)
      obtain ⟨x0, x1⟩ := e1 k (by omega)
      obtain ⟨y0, y1⟩ := e2 k (by omega)
      clear e1 e2
      generalize R.getD k (0, 0) = X at x0 x1 y0 y1
      obtain ⟨a, b⟩ := X
      simp only at x0 x1 y0 y1
      have hne := neA a b
      go_wp2
      go_quiet (fail)
      go_wp2
      go_roundw
      case rel => exact ⟨k + 1, q + nq, by omega, by go_num, rfl⟩
      case measure => simp [intOf]; omega
    · obtain rfl : k = n := by omega
      go_wp2
      go_ret
      exact ⟨rfl, below_drewN (Below.refl _ _) q⟩
set_option maxHeartbeats 3200000 in
theorem equal_edges (g1 g2 c1 c2 n : Nat) (F T X : Nat → Int) (hn : n ≤ 4800) (w : World) (h1 : ∀ u, u < n → EAt w g1 (u * 3) (F u) (T u) (X u)) (h2 : ∀ u, u < n → EAt w g2 (u * 3) (F u) (T u) (X u)) :
    Calls Try.prog 15 #[.slice (some ⟨g1, 0, none⟩) n c1, .slice (some ⟨g2, 0, none⟩) n c2] w fun e w' => e = .returned (.bool true) ∧ Below w.heap.size w w' := by
  replace hn : Hid _ := hn
  replace h1 : Hid _ := h1
  replace h2 : Hid _ := h2
  go_enter Try.func15, Try.ntmps15
  go_wp2
  go_loopw [13] (fun i wr => ∃ k q : Nat, k ≤ n ∧ i = .int .i64 k ∧ wr = w.drewN q) (fun i _ => n - (intOf i).toNat)
  case atStart => exact ⟨0, 0, Nat.zero_le _, rfl, rfl⟩
  case round =>
    obtain ⟨k, q, hk, rfl, rfl⟩ := hrel
    by_cases hlt : k < n
    · have hkI : (k : Int) < n := by omega
      have q1 := hn.out
      obtain ⟨x0, x1, x2⟩ := h1.out k hlt
      obtain ⟨y0, y1, y2⟩ := h2.out k hlt
      generalize F k = a at *
      generalize T k = b at *
      generalize X k = c at *
      have hne := neEd a b c
      go_wp2
      go_quiet (fail)
      go_wp2
      go_roundw
      case rel => exact ⟨k + 1, q + nq, by omega, by go_num, rfl⟩
      case measure => simp [intOf]; omega
    · obtain rfl : k = n := by omega
      go_wp2
      go_ret
      exact ⟨rfl, below_drewN (Below.refl _ _) q⟩
theorem equal_nil (w : World) : Calls Try.prog 11 #[.slice none 0 0, .slice none 0 0] w fun e w' => e = .returned (.bool true) ∧ Below w.heap.size w w' := by
  go_enter Try.func11, Try.ntmps11
  go_wp2
  go_loopw [13] (fun i wr => i = .int .i64 0 ∧ wr = w) (fun _ _ => 0)
  case atStart => exact ⟨rfl, rfl⟩
  case round =>
    obtain ⟨rfl, rfl⟩ := hrel
    go_wp2
    go_ret
    exact ⟨rfl, Below.refl _ _⟩

end Go.Proofs.Ytilpooifggofiaa.D

namespace Go.Proofs.Ytilpooifggofiaa.D
open Go.RowKit K
set_option linter.unusedVariables false

/-- what lies in a block, cell by cell -/
structure Cls (w : World) (C : Nat) (vs : List Value) : Prop where
  c : ∀ i v, vs[i]? = some v → w.cell? ⟨C, i, none⟩ = some v
theorem Cls.new (w : World) (vs : Array Value) (t : Nat) : Cls (w.alloc (.cells vs t)) w.heap.size vs.toList := ⟨fun i v h => by
  rw [World.cell?_alloc_at _ _ _ _ rfl]; simpa using h⟩
theorem Cls.kept {w w' : World} {C : Nat} {vs : List Value} (h : Cls w C vs) (b : Below w.heap.size w w') : Cls w' C vs :=
  ⟨fun i v hv => (b.cell (p := ⟨C, i, none⟩) (block_lt (h.c i v hv))).trans (h.c i v hv)⟩

set_option maxHeartbeats 6400000 in
theorem tells_err1 (r : Ru) (n who ratio E : Int) (hE : (E != 0) = true) (b1 : who < 0) (w : World)
    (so : ∀ v, Calls Try.prog 7 #[.agg #[.int .i64 r.k0, .int .i64 r.k1, .int .i64 r.r, .int .i64 r.m, .int .i64 r.j]] v fun e w' => e = .returned (.tuple #[.agg #[.slice none 0 0, .slice none 0 0, .slice none 0 0, .slice none 0 0, .slice none 0 0], .int .i64 E]) ∧ Below v.heap.size v w')
    (st : ∀ v, Calls Try.prog 8 #[.agg #[.int .i64 r.k0, .int .i64 r.k1, .int .i64 r.r, .int .i64 r.m, .int .i64 r.j]] v fun e w' => e = .returned (.tuple #[.slice none 0 0, .int .i64 E]) ∧ Below v.heap.size v w')
    (ld : ∀ v, Calls Try.prog 9 #[.agg #[.int .i64 r.k0, .int .i64 r.k1, .int .i64 r.r, .int .i64 r.m, .int .i64 r.j], .int .i64 n] v fun e w' => e = .returned (.tuple #[.slice none 0 0, .int .i64 E]) ∧ Below v.heap.size v w')
    (gr : ∀ v, Calls Try.prog 10 #[.agg #[.int .i64 r.k0, .int .i64 r.k1, .int .i64 r.r, .int .i64 r.m, .int .i64 r.j], .int .i64 who, .int .i64 ratio] v fun e w' => e = .returned (.tuple #[.agg #[.int .i64 0, .slice none 0 0], .int .i64 2]) ∧ Below v.heap.size v w') :
    Calls Try.prog 3 #[.agg #[.int .i64 r.k0, .int .i64 r.k1, .int .i64 r.r, .int .i64 r.m, .int .i64 r.j], .int .i64 n, .int .i64 who, .int .i64 ratio] w fun e w' => e = .returned (.bool true) ∧ Below w.heap.size w w' := by
  have X := Rul.new w _ rfl r.k0 r.k1 r.r r.m r.j
  have B : Below w.heap.size w (w.alloc (.cells #[.int .i64 r.k0, .int .i64 r.k1, .int .i64 r.r, .int .i64 r.m, .int .i64 r.j] 24)) := balloc (Below.refl _ _) _
  obtain ⟨x0, x1, x2, x3, x4, _, _, _, _, _⟩ := id X
  have d1 : decide (who < 0) = true := decide_eq_true b1
  go_enter Try.func3, Try.ntmps3
  go_wp2_with (first
    | (go_at_call 7; refine (so _).mono ?_; clear so x0 x1 x2 x3 x4; rintro e v1 ⟨rfl, b⟩; have P := Cls.new v1 #[.slice none 0 0, .slice none 0 0, .slice none 0 0, .slice none 0 0, .slice none 0 0] 30; replace X := X.kept (balloc b (.cells #[.slice none 0 0, .slice none 0 0, .slice none 0 0, .slice none 0 0, .slice none 0 0] 30)); replace B := balloc (bthen B b) (.cells #[.slice none 0 0, .slice none 0 0, .slice none 0 0, .slice none 0 0, .slice none 0 0] 30); clear b; obtain ⟨x0, x1, x2, x3, x4, _, _, _, _, _⟩ := id X)
    | (go_at_call 8; refine (st _).mono ?_; clear st x0 x1 x2 x3 x4; rintro e v2 ⟨rfl, b⟩; replace P := P.kept b; replace X := X.kept b; replace B := bthen B b; clear b; obtain ⟨x0, x1, x2, x3, x4, _, _, _, _, _⟩ := id X)
    | (go_at_call 9; refine (ld _).mono ?_; clear ld x0 x1 x2 x3 x4; rintro e v3 ⟨rfl, b⟩; replace P := P.kept b; replace X := X.kept b; replace B := bthen B b; clear b; obtain ⟨x0, x1, x2, x3, x4, _, _, _, _, _⟩ := id X)
    | (go_at_call 10; refine (gr _).mono ?_; clear gr x0 x1 x2 x3 x4 X; rintro e v4 ⟨rfl, b⟩; have G := Cls.new v4 #[.int .i64 0, .slice none 0 0] 40; replace P := P.kept (balloc b (.cells #[.int .i64 0, .slice none 0 0] 40)); replace B := balloc (bthen B b) (.cells #[.int .i64 0, .slice none 0 0] 40); clear b; have p0 := P.c 0 _ rfl)
    | (go_at_call 11; refine (equal_nil _).mono ?_; clear p0 P; rintro e v5 ⟨rfl, b⟩; replace G := G.kept b; replace B := bthen B b; clear b; have g1 := G.c 1 _ rfl))
  go_ret
  exact ⟨rfl, B⟩

set_option maxHeartbeats 6400000 in
theorem tells_err2 (r : Ru) (n who ratio E : Int) (hE : (E != 0) = true) (b1 : 1 < who) (w : World)
    (so : ∀ v, Calls Try.prog 7 #[.agg #[.int .i64 r.k0, .int .i64 r.k1, .int .i64 r.r, .int .i64 r.m, .int .i64 r.j]] v fun e w' => e = .returned (.tuple #[.agg #[.slice none 0 0, .slice none 0 0, .slice none 0 0, .slice none 0 0, .slice none 0 0], .int .i64 E]) ∧ Below v.heap.size v w')
    (st : ∀ v, Calls Try.prog 8 #[.agg #[.int .i64 r.k0, .int .i64 r.k1, .int .i64 r.r, .int .i64 r.m, .int .i64 r.j]] v fun e w' => e = .returned (.tuple #[.slice none 0 0, .int .i64 E]) ∧ Below v.heap.size v w')
    (ld : ∀ v, Calls Try.prog 9 #[.agg #[.int .i64 r.k0, .int .i64 r.k1, .int .i64 r.r, .int .i64 r.m, .int .i64 r.j], .int .i64 n] v fun e w' => e = .returned (.tuple #[.slice none 0 0, .int .i64 E]) ∧ Below v.heap.size v w')
    (gr : ∀ v, Calls Try.prog 10 #[.agg #[.int .i64 r.k0, .int .i64 r.k1, .int .i64 r.r, .int .i64 r.m, .int .i64 r.j], .int .i64 who, .int .i64 ratio] v fun e w' => e = .returned (.tuple #[.agg #[.int .i64 0, .slice none 0 0], .int .i64 2]) ∧ Below v.heap.size v w') :
    Calls Try.prog 3 #[.agg #[.int .i64 r.k0, .int .i64 r.k1, .int .i64 r.r, .int .i64 r.m, .int .i64 r.j], .int .i64 n, .int .i64 who, .int .i64 ratio] w fun e w' => e = .returned (.bool true) ∧ Below w.heap.size w w' := by
  have X := Rul.new w _ rfl r.k0 r.k1 r.r r.m r.j
  have B : Below w.heap.size w (w.alloc (.cells #[.int .i64 r.k0, .int .i64 r.k1, .int .i64 r.r, .int .i64 r.m, .int .i64 r.j] 24)) := balloc (Below.refl _ _) _
  obtain ⟨x0, x1, x2, x3, x4, _, _, _, _, _⟩ := id X
  have d1 : decide (who < 0) = false := decide_eq_false (by omega)
  have d2 : decide (1 < who) = true := decide_eq_true b1
  go_enter Try.func3, Try.ntmps3
  go_wp2_with (first
    | (go_at_call 7; refine (so _).mono ?_; clear so x0 x1 x2 x3 x4; rintro e v1 ⟨rfl, b⟩; have P := Cls.new v1 #[.slice none 0 0, .slice none 0 0, .slice none 0 0, .slice none 0 0, .slice none 0 0] 30; replace X := X.kept (balloc b (.cells #[.slice none 0 0, .slice none 0 0, .slice none 0 0, .slice none 0 0, .slice none 0 0] 30)); replace B := balloc (bthen B b) (.cells #[.slice none 0 0, .slice none 0 0, .slice none 0 0, .slice none 0 0, .slice none 0 0] 30); clear b; obtain ⟨x0, x1, x2, x3, x4, _, _, _, _, _⟩ := id X)
    | (go_at_call 8; refine (st _).mono ?_; clear st x0 x1 x2 x3 x4; rintro e v2 ⟨rfl, b⟩; replace P := P.kept b; replace X := X.kept b; replace B := bthen B b; clear b; obtain ⟨x0, x1, x2, x3, x4, _, _, _, _, _⟩ := id X)
    | (go_at_call 9; refine (ld _).mono ?_; clear ld x0 x1 x2 x3 x4; rintro e v3 ⟨rfl, b⟩; replace P := P.kept b; replace X := X.kept b; replace B := bthen B b; clear b; obtain ⟨x0, x1, x2, x3, x4, _, _, _, _, _⟩ := id X)
    | (go_at_call 10; refine (gr _).mono ?_; clear gr x0 x1 x2 x3 x4 X; rintro e v4 ⟨rfl, b⟩; have G := Cls.new v4 #[.int .i64 0, .slice none 0 0] 40; replace P := P.kept (balloc b (.cells #[.int .i64 0, .slice none 0 0] 40)); replace B := balloc (bthen B b) (.cells #[.int .i64 0, .slice none 0 0] 40); clear b; have p0 := P.c 0 _ rfl)
    | (go_at_call 11; refine (equal_nil _).mono ?_; clear p0 P; rintro e v5 ⟨rfl, b⟩; replace G := G.kept b; replace B := bthen B b; clear b; have g1 := G.c 1 _ rfl))
  go_ret
  exact ⟨rfl, B⟩

set_option maxHeartbeats 6400000 in
theorem tells_err3 (r : Ru) (n who ratio E : Int) (hE : (E != 0) = true) (b1 : 0 ≤ who ∧ who ≤ 1) (b2 : ratio < 1) (w : World)
    (so : ∀ v, Calls Try.prog 7 #[.agg #[.int .i64 r.k0, .int .i64 r.k1, .int .i64 r.r, .int .i64 r.m, .int .i64 r.j]] v fun e w' => e = .returned (.tuple #[.agg #[.slice none 0 0, .slice none 0 0, .slice none 0 0, .slice none 0 0, .slice none 0 0], .int .i64 E]) ∧ Below v.heap.size v w')
    (st : ∀ v, Calls Try.prog 8 #[.agg #[.int .i64 r.k0, .int .i64 r.k1, .int .i64 r.r, .int .i64 r.m, .int .i64 r.j]] v fun e w' => e = .returned (.tuple #[.slice none 0 0, .int .i64 E]) ∧ Below v.heap.size v w')
    (ld : ∀ v, Calls Try.prog 9 #[.agg #[.int .i64 r.k0, .int .i64 r.k1, .int .i64 r.r, .int .i64 r.m, .int .i64 r.j], .int .i64 n] v fun e w' => e = .returned (.tuple #[.slice none 0 0, .int .i64 E]) ∧ Below v.heap.size v w')
    (gr : ∀ v, Calls Try.prog 10 #[.agg #[.int .i64 r.k0, .int .i64 r.k1, .int .i64 r.r, .int .i64 r.m, .int .i64 r.j], .int .i64 who, .int .i64 ratio] v fun e w' => e = .returned (.tuple #[.agg #[.int .i64 0, .slice none 0 0], .int .i64 2]) ∧ Below v.heap.size v w') :
    Calls Try.prog 3 #[.agg #[.int .i64 r.k0, .int .i64 r.k1, .int .i64 r.r, .int .i64 r.m, .int .i64 r.j], .int .i64 n, .int .i64 who, .int .i64 ratio] w fun e w' => e = .returned (.bool true) ∧ Below w.heap.size w w' := by
  have X := Rul.new w _ rfl r.k0 r.k1 r.r r.m r.j
  have B : Below w.heap.size w (w.alloc (.cells #[.int .i64 r.k0, .int .i64 r.k1, .int .i64 r.r, .int .i64 r.m, .int .i64 r.j] 24)) := balloc (Below.refl _ _) _
  obtain ⟨x0, x1, x2, x3, x4, _, _, _, _, _⟩ := id X
  have d1 : decide (who < 0) = false := decide_eq_false (by omega)
  have d2 : decide (1 < who) = false := decide_eq_false (by omega)
  have d3 : decide (ratio < 1) = true := decide_eq_true b2
  go_enter Try.func3, Try.ntmps3
  go_wp2_with (first
    | (go_at_call 7; refine (so _).mono ?_; clear so x0 x1 x2 x3 x4; rintro e v1 ⟨rfl, b⟩; have P := Cls.new v1 #[.slice none 0 0, .slice none 0 0, .slice none 0 0, .slice none 0 0, .slice none 0 0] 30; replace X := X.kept (balloc b (.cells #[.slice none 0 0, .slice none 0 0, .slice none 0 0, .slice none 0 0, .slice none 0 0] 30)); replace B := balloc (bthen B b) (.cells #[.slice none 0 0, .slice none 0 0, .slice none 0 0, .slice none 0 0, .slice none 0 0] 30); clear b; obtain ⟨x0, x1, x2, x3, x4, _, _, _, _, _⟩ := id X)
    | (go_at_call 8; refine (st _).mono ?_; clear st x0 x1 x2 x3 x4; rintro e v2 ⟨rfl, b⟩; replace P := P.kept b; replace X := X.kept b; replace B := bthen B b; clear b; obtain ⟨x0, x1, x2, x3, x4, _, _, _, _, _⟩ := id X)
    | (go_at_call 9; refine (ld _).mono ?_; clear ld x0 x1 x2 x3 x4; rintro e v3 ⟨rfl, b⟩; replace P := P.kept b; replace X := X.kept b; replace B := bthen B b; clear b; obtain ⟨x0, x1, x2, x3, x4, _, _, _, _, _⟩ := id X)
    | (go_at_call 10; refine (gr _).mono ?_; clear gr x0 x1 x2 x3 x4 X; rintro e v4 ⟨rfl, b⟩; have G := Cls.new v4 #[.int .i64 0, .slice none 0 0] 40; replace P := P.kept (balloc b (.cells #[.int .i64 0, .slice none 0 0] 40)); replace B := balloc (bthen B b) (.cells #[.int .i64 0, .slice none 0 0] 40); clear b; have p0 := P.c 0 _ rfl)
    | (go_at_call 11; refine (equal_nil _).mono ?_; clear p0 P; rintro e v5 ⟨rfl, b⟩; replace G := G.kept b; replace B := bthen B b; clear b; have g1 := G.c 1 _ rfl))
  go_ret
  exact ⟨rfl, B⟩

set_option maxHeartbeats 6400000 in
theorem tells_err4 (r : Ru) (n who ratio E : Int) (hE : (E != 0) = true) (b1 : 0 ≤ who ∧ who ≤ 1) (b2 : 100 < ratio) (w : World)
    (so : ∀ v, Calls Try.prog 7 #[.agg #[.int .i64 r.k0, .int .i64 r.k1, .int .i64 r.r, .int .i64 r.m, .int .i64 r.j]] v fun e w' => e = .returned (.tuple #[.agg #[.slice none 0 0, .slice none 0 0, .slice none 0 0, .slice none 0 0, .slice none 0 0], .int .i64 E]) ∧ Below v.heap.size v w')
    (st : ∀ v, Calls Try.prog 8 #[.agg #[.int .i64 r.k0, .int .i64 r.k1, .int .i64 r.r, .int .i64 r.m, .int .i64 r.j]] v fun e w' => e = .returned (.tuple #[.slice none 0 0, .int .i64 E]) ∧ Below v.heap.size v w')
    (ld : ∀ v, Calls Try.prog 9 #[.agg #[.int .i64 r.k0, .int .i64 r.k1, .int .i64 r.r, .int .i64 r.m, .int .i64 r.j], .int .i64 n] v fun e w' => e = .returned (.tuple #[.slice none 0 0, .int .i64 E]) ∧ Below v.heap.size v w')
    (gr : ∀ v, Calls Try.prog 10 #[.agg #[.int .i64 r.k0, .int .i64 r.k1, .int .i64 r.r, .int .i64 r.m, .int .i64 r.j], .int .i64 who, .int .i64 ratio] v fun e w' => e = .returned (.tuple #[.agg #[.int .i64 0, .slice none 0 0], .int .i64 2]) ∧ Below v.heap.size v w') :
    Calls Try.prog 3 #[.agg #[.int .i64 r.k0, .int .i64 r.k1, .int .i64 r.r, .int .i64 r.m, .int .i64 r.j], .int .i64 n, .int .i64 who, .int .i64 ratio] w fun e w' => e = .returned (.bool true) ∧ Below w.heap.size w w' := by
  have X := Rul.new w _ rfl r.k0 r.k1 r.r r.m r.j
  have B : Below w.heap.size w (w.alloc (.cells #[.int .i64 r.k0, .int .i64 r.k1, .int .i64 r.r, .int .i64 r.m, .int .i64 r.j] 24)) := balloc (Below.refl _ _) _
  obtain ⟨x0, x1, x2, x3, x4, _, _, _, _, _⟩ := id X
  have d1 : decide (who < 0) = false := decide_eq_false (by omega)
  have d2 : decide (1 < who) = false := decide_eq_false (by omega)
  have d3 : decide (ratio < 1) = false := decide_eq_false (by omega)
  have d4 : decide (100 < ratio) = true := decide_eq_true b2
  go_enter Try.func3, Try.ntmps3
  go_wp2_with (first
    | (go_at_call 7; refine (so _).mono ?_; clear so x0 x1 x2 x3 x4; rintro e v1 ⟨rfl, b⟩; have P := Cls.new v1 #[.slice none 0 0, .slice none 0 0, .slice none 0 0, .slice none 0 0, .slice none 0 0] 30; replace X := X.kept (balloc b (.cells #[.slice none 0 0, .slice none 0 0, .slice none 0 0, .slice none 0 0, .slice none 0 0] 30)); replace B := balloc (bthen B b) (.cells #[.slice none 0 0, .slice none 0 0, .slice none 0 0, .slice none 0 0, .slice none 0 0] 30); clear b; obtain ⟨x0, x1, x2, x3, x4, _, _, _, _, _⟩ := id X)
    | (go_at_call 8; refine (st _).mono ?_; clear st x0 x1 x2 x3 x4; rintro e v2 ⟨rfl, b⟩; replace P := P.kept b; replace X := X.kept b; replace B := bthen B b; clear b; obtain ⟨x0, x1, x2, x3, x4, _, _, _, _, _⟩ := id X)
    | (go_at_call 9; refine (ld _).mono ?_; clear ld x0 x1 x2 x3 x4; rintro e v3 ⟨rfl, b⟩; replace P := P.kept b; replace X := X.kept b; replace B := bthen B b; clear b; obtain ⟨x0, x1, x2, x3, x4, _, _, _, _, _⟩ := id X)
    | (go_at_call 10; refine (gr _).mono ?_; clear gr x0 x1 x2 x3 x4 X; rintro e v4 ⟨rfl, b⟩; have G := Cls.new v4 #[.int .i64 0, .slice none 0 0] 40; replace P := P.kept (balloc b (.cells #[.int .i64 0, .slice none 0 0] 40)); replace B := balloc (bthen B b) (.cells #[.int .i64 0, .slice none 0 0] 40); clear b; have p0 := P.c 0 _ rfl)
    | (go_at_call 11; refine (equal_nil _).mono ?_; clear p0 P; rintro e v5 ⟨rfl, b⟩; replace G := G.kept b; replace B := bthen B b; clear b; have g1 := G.c 1 _ rfl))
  go_ret
  exact ⟨rfl, B⟩

set_option maxHeartbeats 6400000 in
theorem tells_err5 (r : Ru) (n who ratio E : Int) (hE : (E != 0) = true) (b1 : 0 ≤ who ∧ who ≤ 1) (b2 : 1 ≤ ratio ∧ ratio ≤ 100) (w : World)
    (so : ∀ v, Calls Try.prog 7 #[.agg #[.int .i64 r.k0, .int .i64 r.k1, .int .i64 r.r, .int .i64 r.m, .int .i64 r.j]] v fun e w' => e = .returned (.tuple #[.agg #[.slice none 0 0, .slice none 0 0, .slice none 0 0, .slice none 0 0, .slice none 0 0], .int .i64 E]) ∧ Below v.heap.size v w')
    (st : ∀ v, Calls Try.prog 8 #[.agg #[.int .i64 r.k0, .int .i64 r.k1, .int .i64 r.r, .int .i64 r.m, .int .i64 r.j]] v fun e w' => e = .returned (.tuple #[.slice none 0 0, .int .i64 E]) ∧ Below v.heap.size v w')
    (ld : ∀ v, Calls Try.prog 9 #[.agg #[.int .i64 r.k0, .int .i64 r.k1, .int .i64 r.r, .int .i64 r.m, .int .i64 r.j], .int .i64 n] v fun e w' => e = .returned (.tuple #[.slice none 0 0, .int .i64 E]) ∧ Below v.heap.size v w')
    (gr : ∀ v, Calls Try.prog 10 #[.agg #[.int .i64 r.k0, .int .i64 r.k1, .int .i64 r.r, .int .i64 r.m, .int .i64 r.j], .int .i64 who, .int .i64 ratio] v fun e w' => e = .returned (.tuple #[.agg #[.int .i64 0, .slice none 0 0], .int .i64 E]) ∧ Below v.heap.size v w') :
    Calls Try.prog 3 #[.agg #[.int .i64 r.k0, .int .i64 r.k1, .int .i64 r.r, .int .i64 r.m, .int .i64 r.j], .int .i64 n, .int .i64 who, .int .i64 ratio] w fun e w' => e = .returned (.bool true) ∧ Below w.heap.size w w' := by
  have X := Rul.new w _ rfl r.k0 r.k1 r.r r.m r.j
  have B : Below w.heap.size w (w.alloc (.cells #[.int .i64 r.k0, .int .i64 r.k1, .int .i64 r.r, .int .i64 r.m, .int .i64 r.j] 24)) := balloc (Below.refl _ _) _
  obtain ⟨x0, x1, x2, x3, x4, _, _, _, _, _⟩ := id X
  have d1 : decide (who < 0) = false := decide_eq_false (by omega)
  have d2 : decide (1 < who) = false := decide_eq_false (by omega)
  have d3 : decide (ratio < 1) = false := decide_eq_false (by omega)
  have d4 : decide (100 < ratio) = false := decide_eq_false (by omega)
  go_enter Try.func3, Try.ntmps3
  go_wp2_with (first
    | (go_at_call 7; refine (so _).mono ?_; clear so x0 x1 x2 x3 x4; rintro e v1 ⟨rfl, b⟩; have P := Cls.new v1 #[.slice none 0 0, .slice none 0 0, .slice none 0 0, .slice none 0 0, .slice none 0 0] 30; replace X := X.kept (balloc b (.cells #[.slice none 0 0, .slice none 0 0, .slice none 0 0, .slice none 0 0, .slice none 0 0] 30)); replace B := balloc (bthen B b) (.cells #[.slice none 0 0, .slice none 0 0, .slice none 0 0, .slice none 0 0, .slice none 0 0] 30); clear b; obtain ⟨x0, x1, x2, x3, x4, _, _, _, _, _⟩ := id X)
    | (go_at_call 8; refine (st _).mono ?_; clear st x0 x1 x2 x3 x4; rintro e v2 ⟨rfl, b⟩; replace P := P.kept b; replace X := X.kept b; replace B := bthen B b; clear b; obtain ⟨x0, x1, x2, x3, x4, _, _, _, _, _⟩ := id X)
    | (go_at_call 9; refine (ld _).mono ?_; clear ld x0 x1 x2 x3 x4; rintro e v3 ⟨rfl, b⟩; replace P := P.kept b; replace X := X.kept b; replace B := bthen B b; clear b; obtain ⟨x0, x1, x2, x3, x4, _, _, _, _, _⟩ := id X)
    | (go_at_call 10; refine (gr _).mono ?_; clear gr x0 x1 x2 x3 x4 X; rintro e v4 ⟨rfl, b⟩; have G := Cls.new v4 #[.int .i64 0, .slice none 0 0] 40; replace P := P.kept (balloc b (.cells #[.int .i64 0, .slice none 0 0] 40)); replace B := balloc (bthen B b) (.cells #[.int .i64 0, .slice none 0 0] 40); clear b; have p0 := P.c 0 _ rfl)
    | (go_at_call 11; refine (equal_nil _).mono ?_; clear p0 P; rintro e v5 ⟨rfl, b⟩; replace G := G.kept b; replace B := bthen B b; clear b; have g1 := G.c 1 _ rfl))
  go_ret
  exact ⟨rfl, B⟩

end Go.Proofs.Ytilpooifggofiaa.D

namespace Go.Proofs.Ytilpooifggofiaa.D
open Go.RowKit K
set_option linter.unusedVariables false

set_option maxHeartbeats 6400000 in
theorem tells_lo1 (r : Ru) (n who ratio : Int) (T len : Nat) (L : List Sx) (hlen : L.length = len) (hl3 : len ≤ 300) (hT4 : T ≤ 4800) (b1 : who < 0) (w : World)
    (S : Nat → Nat → Nat → Nat → Nat → World → Prop) (hk : ∀ g0 g1 g2 g3 g4 v v', S g0 g1 g2 g3 g4 v → Below v.heap.size v v' → S g0 g1 g2 g3 g4 v') (hs : ∀ g0 g1 g2 g3 g4 v, S g0 g1 g2 g3 g4 v → ∀ i s, L[i]? = some s → Sat v g0 (i * 14) s)
    (so : ∀ v, Calls Try.prog 7 #[.agg #[.int .i64 r.k0, .int .i64 r.k1, .int .i64 r.r, .int .i64 r.m, .int .i64 r.j]] v fun e w' => ∃ g0 c0 g1 c1 g2 c2 g3 c3 g4 c4, e = .returned (.tuple #[.agg #[.slice (some ⟨g0, 0, none⟩) len c0, .slice (some ⟨g1, 0, none⟩) T c1, .slice (some ⟨g2, 0, none⟩) T c2, .slice (some ⟨g3, 0, none⟩) T c3, .slice (some ⟨g4, 0, none⟩) T c4], .int .i64 0]) ∧ S g0 g1 g2 g3 g4 w' ∧ Below v.heap.size v w')
    (st : ∀ v, Calls Try.prog 8 #[.agg #[.int .i64 r.k0, .int .i64 r.k1, .int .i64 r.r, .int .i64 r.m, .int .i64 r.j]] v fun e w' => ∃ g cp, e = .returned (.tuple #[.slice (some ⟨g, 0, none⟩) len cp, .int .i64 0]) ∧ len ≤ cp ∧ (∀ i s, L[i]? = some s → Sat w' g (i * 14) s) ∧ Below v.heap.size v w')
    (d5 : n < 0)
    (ld : ∀ v, Calls Try.prog 9 #[.agg #[.int .i64 r.k0, .int .i64 r.k1, .int .i64 r.r, .int .i64 r.m, .int .i64 r.j], .int .i64 n] v fun e w' => e = .returned (.tuple #[.slice none 0 0, .int .i64 3]) ∧ Below v.heap.size v w')
    (gr : ∀ v, Calls Try.prog 10 #[.agg #[.int .i64 r.k0, .int .i64 r.k1, .int .i64 r.r, .int .i64 r.m, .int .i64 r.j], .int .i64 who, .int .i64 ratio] v fun e w' => e = .returned (.tuple #[.agg #[.int .i64 0, .slice none 0 0], .int .i64 2]) ∧ Below v.heap.size v w') :
    Calls Try.prog 3 #[.agg #[.int .i64 r.k0, .int .i64 r.k1, .int .i64 r.r, .int .i64 r.m, .int .i64 r.j], .int .i64 n, .int .i64 who, .int .i64 ratio] w fun e w' => e = .returned (.bool true) ∧ Below w.heap.size w w' := by
  have X := Rul.new w _ rfl r.k0 r.k1 r.r r.m r.j
  have B : Below w.heap.size w (w.alloc (.cells #[.int .i64 r.k0, .int .i64 r.k1, .int .i64 r.r, .int .i64 r.m, .int .i64 r.j] 24)) := balloc (Below.refl _ _) _
  obtain ⟨x0, x1, x2, x3, x4, _, _, _, _, _⟩ := id X
  have d1 : decide (who < 0) = true := decide_eq_true b1
  have e5 : decide (n < 0) = true := decide_eq_true d5
  replace hlen : Hid _ := hlen
  replace hk : Hid _ := hk
  replace hs : Hid _ := hs
  go_enter Try.func3, Try.ntmps3
  go_wp2_with (first
    | (go_at_call 7; refine (so _).mono ?_; clear so x0 x1 x2 x3 x4; rintro e v1 ⟨g0, c0, g1, c1, g2, c2, g3, c3, g4, c4, rfl, hS, b⟩; have P := Cls.new v1 #[.slice (some ⟨g0, 0, none⟩) len c0, .slice (some ⟨g1, 0, none⟩) T c1, .slice (some ⟨g2, 0, none⟩) T c2, .slice (some ⟨g3, 0, none⟩) T c3, .slice (some ⟨g4, 0, none⟩) T c4] 30; replace hS := hk.out _ _ _ _ _ _ _ hS (balloc (Below.refl _ _) (.cells #[.slice (some ⟨g0, 0, none⟩) len c0, .slice (some ⟨g1, 0, none⟩) T c1, .slice (some ⟨g2, 0, none⟩) T c2, .slice (some ⟨g3, 0, none⟩) T c3, .slice (some ⟨g4, 0, none⟩) T c4] 30)); replace X := X.kept (balloc b (.cells #[.slice (some ⟨g0, 0, none⟩) len c0, .slice (some ⟨g1, 0, none⟩) T c1, .slice (some ⟨g2, 0, none⟩) T c2, .slice (some ⟨g3, 0, none⟩) T c3, .slice (some ⟨g4, 0, none⟩) T c4] 30)); replace B := balloc (bthen B b) (.cells #[.slice (some ⟨g0, 0, none⟩) len c0, .slice (some ⟨g1, 0, none⟩) T c1, .slice (some ⟨g2, 0, none⟩) T c2, .slice (some ⟨g3, 0, none⟩) T c3, .slice (some ⟨g4, 0, none⟩) T c4] 30); clear b; obtain ⟨x0, x1, x2, x3, x4, _, _, _, _, _⟩ := id X)
    | (go_at_call 8; refine (st _).mono ?_; clear st x0 x1 x2 x3 x4; rintro e v2 ⟨ga, ca, rfl, -, hA, b⟩; replace P := P.kept b; replace hS := hk.out _ _ _ _ _ _ _ hS b; replace X := X.kept b; replace B := bthen B b; clear b; obtain ⟨x0, x1, x2, x3, x4, _, _, _, _, _⟩ := id X)
    | (go_at_call 9; refine (ld _).mono ?_; clear ld x0 x1 x2 x3 x4; rintro e v3 ⟨rfl, b⟩; replace hA : ∀ i s, L[i]? = some s → Sat _ ga (i * 14) s := fun i s hi => (hA i s hi).kept (b); replace P := P.kept b; replace hS := hk.out _ _ _ _ _ _ _ hS b; replace X := X.kept b; replace B := bthen B b; clear b; obtain ⟨x0, x1, x2, x3, x4, _, _, _, _, _⟩ := id X)
    | (go_at_call 10; refine (gr _).mono ?_; clear gr x0 x1 x2 x3 x4 X; rintro e v4 ⟨rfl, b⟩; have Q := Cls.new v4 #[.int .i64 0, .slice none 0 0] 40; replace hA : ∀ i s, L[i]? = some s → Sat _ ga (i * 14) s := fun i s hi => (hA i s hi).kept (balloc b (.cells #[.int .i64 0, .slice none 0 0] 40)); replace P := P.kept (balloc b (.cells #[.int .i64 0, .slice none 0 0] 40)); replace hS := hk.out _ _ _ _ _ _ _ hS (balloc b (.cells #[.int .i64 0, .slice none 0 0] 40)); replace B := balloc (bthen B b) (.cells #[.int .i64 0, .slice none 0 0] 40); clear b; have p0 := P.c 0 _ rfl)
    | (go_at_call 11; refine (equal_states _ _ _ _ _ L hlen.out hl3 _ hA (hs.out _ _ _ _ _ _ hS)).mono ?_; clear p0 hA; rintro e v5 ⟨rfl, b⟩; replace Q := Q.kept b; replace P := P.kept b; replace hS := hk.out _ _ _ _ _ _ _ hS b; replace B := bthen B b; clear b; have p0 := P.c 0 _ rfl; have p1 := P.c 1 _ rfl; have p2 := P.c 2 _ rfl; have p3 := P.c 3 _ rfl; have p4 := P.c 4 _ rfl; have q0 := Q.c 0 _ rfl; have q1 := Q.c 1 _ rfl))
  go_ret
  exact ⟨rfl, B⟩

set_option maxHeartbeats 6400000 in
theorem tells_lo2 (r : Ru) (n who ratio : Int) (T len : Nat) (L : List Sx) (hlen : L.length = len) (hl3 : len ≤ 300) (hT4 : T ≤ 4800) (b1 : 1 < who) (w : World)
    (S : Nat → Nat → Nat → Nat → Nat → World → Prop) (hk : ∀ g0 g1 g2 g3 g4 v v', S g0 g1 g2 g3 g4 v → Below v.heap.size v v' → S g0 g1 g2 g3 g4 v') (hs : ∀ g0 g1 g2 g3 g4 v, S g0 g1 g2 g3 g4 v → ∀ i s, L[i]? = some s → Sat v g0 (i * 14) s)
    (so : ∀ v, Calls Try.prog 7 #[.agg #[.int .i64 r.k0, .int .i64 r.k1, .int .i64 r.r, .int .i64 r.m, .int .i64 r.j]] v fun e w' => ∃ g0 c0 g1 c1 g2 c2 g3 c3 g4 c4, e = .returned (.tuple #[.agg #[.slice (some ⟨g0, 0, none⟩) len c0, .slice (some ⟨g1, 0, none⟩) T c1, .slice (some ⟨g2, 0, none⟩) T c2, .slice (some ⟨g3, 0, none⟩) T c3, .slice (some ⟨g4, 0, none⟩) T c4], .int .i64 0]) ∧ S g0 g1 g2 g3 g4 w' ∧ Below v.heap.size v w')
    (st : ∀ v, Calls Try.prog 8 #[.agg #[.int .i64 r.k0, .int .i64 r.k1, .int .i64 r.r, .int .i64 r.m, .int .i64 r.j]] v fun e w' => ∃ g cp, e = .returned (.tuple #[.slice (some ⟨g, 0, none⟩) len cp, .int .i64 0]) ∧ len ≤ cp ∧ (∀ i s, L[i]? = some s → Sat w' g (i * 14) s) ∧ Below v.heap.size v w')
    (d5 : n < 0)
    (ld : ∀ v, Calls Try.prog 9 #[.agg #[.int .i64 r.k0, .int .i64 r.k1, .int .i64 r.r, .int .i64 r.m, .int .i64 r.j], .int .i64 n] v fun e w' => e = .returned (.tuple #[.slice none 0 0, .int .i64 3]) ∧ Below v.heap.size v w')
    (gr : ∀ v, Calls Try.prog 10 #[.agg #[.int .i64 r.k0, .int .i64 r.k1, .int .i64 r.r, .int .i64 r.m, .int .i64 r.j], .int .i64 who, .int .i64 ratio] v fun e w' => e = .returned (.tuple #[.agg #[.int .i64 0, .slice none 0 0], .int .i64 2]) ∧ Below v.heap.size v w') :
    Calls Try.prog 3 #[.agg #[.int .i64 r.k0, .int .i64 r.k1, .int .i64 r.r, .int .i64 r.m, .int .i64 r.j], .int .i64 n, .int .i64 who, .int .i64 ratio] w fun e w' => e = .returned (.bool true) ∧ Below w.heap.size w w' := by
  have X := Rul.new w _ rfl r.k0 r.k1 r.r r.m r.j
  have B : Below w.heap.size w (w.alloc (.cells #[.int .i64 r.k0, .int .i64 r.k1, .int .i64 r.r, .int .i64 r.m, .int .i64 r.j] 24)) := balloc (Below.refl _ _) _
  obtain ⟨x0, x1, x2, x3, x4, _, _, _, _, _⟩ := id X
  have d1 : decide (who < 0) = false := decide_eq_false (by omega)
  have d2 : decide (1 < who) = true := decide_eq_true b1
  have e5 : decide (n < 0) = true := decide_eq_true d5
  replace hlen : Hid _ := hlen
  replace hk : Hid _ := hk
  replace hs : Hid _ := hs
  go_enter Try.func3, Try.ntmps3
  go_wp2_with (first
    | (go_at_call 7; refine (so _).mono ?_; clear so x0 x1 x2 x3 x4; rintro e v1 ⟨g0, c0, g1, c1, g2, c2, g3, c3, g4, c4, rfl, hS, b⟩; have P := Cls.new v1 #[.slice (some ⟨g0, 0, none⟩) len c0, .slice (some ⟨g1, 0, none⟩) T c1, .slice (some ⟨g2, 0, none⟩) T c2, .slice (some ⟨g3, 0, none⟩) T c3, .slice (some ⟨g4, 0, none⟩) T c4] 30; replace hS := hk.out _ _ _ _ _ _ _ hS (balloc (Below.refl _ _) (.cells #[.slice (some ⟨g0, 0, none⟩) len c0, .slice (some ⟨g1, 0, none⟩) T c1, .slice (some ⟨g2, 0, none⟩) T c2, .slice (some ⟨g3, 0, none⟩) T c3, .slice (some ⟨g4, 0, none⟩) T c4] 30)); replace X := X.kept (balloc b (.cells #[.slice (some ⟨g0, 0, none⟩) len c0, .slice (some ⟨g1, 0, none⟩) T c1, .slice (some ⟨g2, 0, none⟩) T c2, .slice (some ⟨g3, 0, none⟩) T c3, .slice (some ⟨g4, 0, none⟩) T c4] 30)); replace B := balloc (bthen B b) (.cells #[.slice (some ⟨g0, 0, none⟩) len c0, .slice (some ⟨g1, 0, none⟩) T c1, .slice (some ⟨g2, 0, none⟩) T c2, .slice (some ⟨g3, 0, none⟩) T c3, .slice (some ⟨g4, 0, none⟩) T c4] 30); clear b; obtain ⟨x0, x1, x2, x3, x4, _, _, _, _, _⟩ := id X)
    | (go_at_call 8; refine (st _).mono ?_; clear st x0 x1 x2 x3 x4; rintro e v2 ⟨ga, ca, rfl, -, hA, b⟩; replace P := P.kept b; replace hS := hk.out _ _ _ _ _ _ _ hS b; replace X := X.kept b; replace B := bthen B b; clear b; obtain ⟨x0, x1, x2, x3, x4, _, _, _, _, _⟩ := id X)
    | (go_at_call 9; refine (ld _).mono ?_; clear ld x0 x1 x2 x3 x4; rintro e v3 ⟨rfl, b⟩; replace hA : ∀ i s, L[i]? = some s → Sat _ ga (i * 14) s := fun i s hi => (hA i s hi).kept (b); replace P := P.kept b; replace hS := hk.out _ _ _ _ _ _ _ hS b; replace X := X.kept b; replace B := bthen B b; clear b; obtain ⟨x0, x1, x2, x3, x4, _, _, _, _, _⟩ := id X)
    | (go_at_call 10; refine (gr _).mono ?_; clear gr x0 x1 x2 x3 x4 X; rintro e v4 ⟨rfl, b⟩; have Q := Cls.new v4 #[.int .i64 0, .slice none 0 0] 40; replace hA : ∀ i s, L[i]? = some s → Sat _ ga (i * 14) s := fun i s hi => (hA i s hi).kept (balloc b (.cells #[.int .i64 0, .slice none 0 0] 40)); replace P := P.kept (balloc b (.cells #[.int .i64 0, .slice none 0 0] 40)); replace hS := hk.out _ _ _ _ _ _ _ hS (balloc b (.cells #[.int .i64 0, .slice none 0 0] 40)); replace B := balloc (bthen B b) (.cells #[.int .i64 0, .slice none 0 0] 40); clear b; have p0 := P.c 0 _ rfl)
    | (go_at_call 11; refine (equal_states _ _ _ _ _ L hlen.out hl3 _ hA (hs.out _ _ _ _ _ _ hS)).mono ?_; clear p0 hA; rintro e v5 ⟨rfl, b⟩; replace Q := Q.kept b; replace P := P.kept b; replace hS := hk.out _ _ _ _ _ _ _ hS b; replace B := bthen B b; clear b; have p0 := P.c 0 _ rfl; have p1 := P.c 1 _ rfl; have p2 := P.c 2 _ rfl; have p3 := P.c 3 _ rfl; have p4 := P.c 4 _ rfl; have q0 := Q.c 0 _ rfl; have q1 := Q.c 1 _ rfl))
  go_ret
  exact ⟨rfl, B⟩

set_option maxHeartbeats 6400000 in
theorem tells_lo3 (r : Ru) (n who ratio : Int) (T len : Nat) (L : List Sx) (hlen : L.length = len) (hl3 : len ≤ 300) (hT4 : T ≤ 4800) (b1 : 0 ≤ who ∧ who ≤ 1) (b2 : ratio < 1) (w : World)
    (S : Nat → Nat → Nat → Nat → Nat → World → Prop) (hk : ∀ g0 g1 g2 g3 g4 v v', S g0 g1 g2 g3 g4 v → Below v.heap.size v v' → S g0 g1 g2 g3 g4 v') (hs : ∀ g0 g1 g2 g3 g4 v, S g0 g1 g2 g3 g4 v → ∀ i s, L[i]? = some s → Sat v g0 (i * 14) s)
    (so : ∀ v, Calls Try.prog 7 #[.agg #[.int .i64 r.k0, .int .i64 r.k1, .int .i64 r.r, .int .i64 r.m, .int .i64 r.j]] v fun e w' => ∃ g0 c0 g1 c1 g2 c2 g3 c3 g4 c4, e = .returned (.tuple #[.agg #[.slice (some ⟨g0, 0, none⟩) len c0, .slice (some ⟨g1, 0, none⟩) T c1, .slice (some ⟨g2, 0, none⟩) T c2, .slice (some ⟨g3, 0, none⟩) T c3, .slice (some ⟨g4, 0, none⟩) T c4], .int .i64 0]) ∧ S g0 g1 g2 g3 g4 w' ∧ Below v.heap.size v w')
    (st : ∀ v, Calls Try.prog 8 #[.agg #[.int .i64 r.k0, .int .i64 r.k1, .int .i64 r.r, .int .i64 r.m, .int .i64 r.j]] v fun e w' => ∃ g cp, e = .returned (.tuple #[.slice (some ⟨g, 0, none⟩) len cp, .int .i64 0]) ∧ len ≤ cp ∧ (∀ i s, L[i]? = some s → Sat w' g (i * 14) s) ∧ Below v.heap.size v w')
    (d5 : n < 0)
    (ld : ∀ v, Calls Try.prog 9 #[.agg #[.int .i64 r.k0, .int .i64 r.k1, .int .i64 r.r, .int .i64 r.m, .int .i64 r.j], .int .i64 n] v fun e w' => e = .returned (.tuple #[.slice none 0 0, .int .i64 3]) ∧ Below v.heap.size v w')
    (gr : ∀ v, Calls Try.prog 10 #[.agg #[.int .i64 r.k0, .int .i64 r.k1, .int .i64 r.r, .int .i64 r.m, .int .i64 r.j], .int .i64 who, .int .i64 ratio] v fun e w' => e = .returned (.tuple #[.agg #[.int .i64 0, .slice none 0 0], .int .i64 2]) ∧ Below v.heap.size v w') :
    Calls Try.prog 3 #[.agg #[.int .i64 r.k0, .int .i64 r.k1, .int .i64 r.r, .int .i64 r.m, .int .i64 r.j], .int .i64 n, .int .i64 who, .int .i64 ratio] w fun e w' => e = .returned (.bool true) ∧ Below w.heap.size w w' := by
  have X := Rul.new w _ rfl r.k0 r.k1 r.r r.m r.j
  have B : Below w.heap.size w (w.alloc (.cells #[.int .i64 r.k0, .int .i64 r.k1, .int .i64 r.r, .int .i64 r.m, .int .i64 r.j] 24)) := balloc (Below.refl _ _) _
  obtain ⟨x0, x1, x2, x3, x4, _, _, _, _, _⟩ := id X
  have d1 : decide (who < 0) = false := decide_eq_false (by omega)
  have d2 : decide (1 < who) = false := decide_eq_false (by omega)
  have d3 : decide (ratio < 1) = true := decide_eq_true b2
  have e5 : decide (n < 0) = true := decide_eq_true d5
  replace hlen : Hid _ := hlen
  replace hk : Hid _ := hk
  replace hs : Hid _ := hs
  go_enter Try.func3, Try.ntmps3
  go_wp2_with (first
    | (go_at_call 7; refine (so _).mono ?_; clear so x0 x1 x2 x3 x4; rintro e v1 ⟨g0, c0, g1, c1, g2, c2, g3, c3, g4, c4, rfl, hS, b⟩; have P := Cls.new v1 #[.slice (some ⟨g0, 0, none⟩) len c0, .slice (some ⟨g1, 0, none⟩) T c1, .slice (some ⟨g2, 0, none⟩) T c2, .slice (some ⟨g3, 0, none⟩) T c3, .slice (some ⟨g4, 0, none⟩) T c4] 30; replace hS := hk.out _ _ _ _ _ _ _ hS (balloc (Below.refl _ _) (.cells #[.slice (some ⟨g0, 0, none⟩) len c0, .slice (some ⟨g1, 0, none⟩) T c1, .slice (some ⟨g2, 0, none⟩) T c2, .slice (some ⟨g3, 0, none⟩) T c3, .slice (some ⟨g4, 0, none⟩) T c4] 30)); replace X := X.kept (balloc b (.cells #[.slice (some ⟨g0, 0, none⟩) len c0, .slice (some ⟨g1, 0, none⟩) T c1, .slice (some ⟨g2, 0, none⟩) T c2, .slice (some ⟨g3, 0, none⟩) T c3, .slice (some ⟨g4, 0, none⟩) T c4] 30)); replace B := balloc (bthen B b) (.cells #[.slice (some ⟨g0, 0, none⟩) len c0, .slice (some ⟨g1, 0, none⟩) T c1, .slice (some ⟨g2, 0, none⟩) T c2, .slice (some ⟨g3, 0, none⟩) T c3, .slice (some ⟨g4, 0, none⟩) T c4] 30); clear b; obtain ⟨x0, x1, x2, x3, x4, _, _, _, _, _⟩ := id X)
    | (go_at_call 8; refine (st _).mono ?_; clear st x0 x1 x2 x3 x4; rintro e v2 ⟨ga, ca, rfl, -, hA, b⟩; replace P := P.kept b; replace hS := hk.out _ _ _ _ _ _ _ hS b; replace X := X.kept b; replace B := bthen B b; clear b; obtain ⟨x0, x1, x2, x3, x4, _, _, _, _, _⟩ := id X)
    | (go_at_call 9; refine (ld _).mono ?_; clear ld x0 x1 x2 x3 x4; rintro e v3 ⟨rfl, b⟩; replace hA : ∀ i s, L[i]? = some s → Sat _ ga (i * 14) s := fun i s hi => (hA i s hi).kept (b); replace P := P.kept b; replace hS := hk.out _ _ _ _ _ _ _ hS b; replace X := X.kept b; replace B := bthen B b; clear b; obtain ⟨x0, x1, x2, x3, x4, _, _, _, _, _⟩ := id X)
    | (go_at_call 10; refine (gr _).mono ?_; clear gr x0 x1 x2 x3 x4 X; rintro e v4 ⟨rfl, b⟩; have Q := Cls.new v4 #[.int .i64 0, .slice none 0 0] 40; replace hA : ∀ i s, L[i]? = some s → Sat _ ga (i * 14) s := fun i s hi => (hA i s hi).kept (balloc b (.cells #[.int .i64 0, .slice none 0 0] 40)); replace P := P.kept (balloc b (.cells #[.int .i64 0, .slice none 0 0] 40)); replace hS := hk.out _ _ _ _ _ _ _ hS (balloc b (.cells #[.int .i64 0, .slice none 0 0] 40)); replace B := balloc (bthen B b) (.cells #[.int .i64 0, .slice none 0 0] 40); clear b; have p0 := P.c 0 _ rfl)
    | (go_at_call 11; refine (equal_states _ _ _ _ _ L hlen.out hl3 _ hA (hs.out _ _ _ _ _ _ hS)).mono ?_; clear p0 hA; rintro e v5 ⟨rfl, b⟩; replace Q := Q.kept b; replace P := P.kept b; replace hS := hk.out _ _ _ _ _ _ _ hS b; replace B := bthen B b; clear b; have p0 := P.c 0 _ rfl; have p1 := P.c 1 _ rfl; have p2 := P.c 2 _ rfl; have p3 := P.c 3 _ rfl; have p4 := P.c 4 _ rfl; have q0 := Q.c 0 _ rfl; have q1 := Q.c 1 _ rfl))
  go_ret
  exact ⟨rfl, B⟩

set_option maxHeartbeats 6400000 in
theorem tells_lo4 (r : Ru) (n who ratio : Int) (T len : Nat) (L : List Sx) (hlen : L.length = len) (hl3 : len ≤ 300) (hT4 : T ≤ 4800) (b1 : 0 ≤ who ∧ who ≤ 1) (b2 : 100 < ratio) (w : World)
    (S : Nat → Nat → Nat → Nat → Nat → World → Prop) (hk : ∀ g0 g1 g2 g3 g4 v v', S g0 g1 g2 g3 g4 v → Below v.heap.size v v' → S g0 g1 g2 g3 g4 v') (hs : ∀ g0 g1 g2 g3 g4 v, S g0 g1 g2 g3 g4 v → ∀ i s, L[i]? = some s → Sat v g0 (i * 14) s)
    (so : ∀ v, Calls Try.prog 7 #[.agg #[.int .i64 r.k0, .int .i64 r.k1, .int .i64 r.r, .int .i64 r.m, .int .i64 r.j]] v fun e w' => ∃ g0 c0 g1 c1 g2 c2 g3 c3 g4 c4, e = .returned (.tuple #[.agg #[.slice (some ⟨g0, 0, none⟩) len c0, .slice (some ⟨g1, 0, none⟩) T c1, .slice (some ⟨g2, 0, none⟩) T c2, .slice (some ⟨g3, 0, none⟩) T c3, .slice (some ⟨g4, 0, none⟩) T c4], .int .i64 0]) ∧ S g0 g1 g2 g3 g4 w' ∧ Below v.heap.size v w')
    (st : ∀ v, Calls Try.prog 8 #[.agg #[.int .i64 r.k0, .int .i64 r.k1, .int .i64 r.r, .int .i64 r.m, .int .i64 r.j]] v fun e w' => ∃ g cp, e = .returned (.tuple #[.slice (some ⟨g, 0, none⟩) len cp, .int .i64 0]) ∧ len ≤ cp ∧ (∀ i s, L[i]? = some s → Sat w' g (i * 14) s) ∧ Below v.heap.size v w')
    (d5 : n < 0)
    (ld : ∀ v, Calls Try.prog 9 #[.agg #[.int .i64 r.k0, .int .i64 r.k1, .int .i64 r.r, .int .i64 r.m, .int .i64 r.j], .int .i64 n] v fun e w' => e = .returned (.tuple #[.slice none 0 0, .int .i64 3]) ∧ Below v.heap.size v w')
    (gr : ∀ v, Calls Try.prog 10 #[.agg #[.int .i64 r.k0, .int .i64 r.k1, .int .i64 r.r, .int .i64 r.m, .int .i64 r.j], .int .i64 who, .int .i64 ratio] v fun e w' => e = .returned (.tuple #[.agg #[.int .i64 0, .slice none 0 0], .int .i64 2]) ∧ Below v.heap.size v w') :
    Calls Try.prog 3 #[.agg #[.int .i64 r.k0, .int .i64 r.k1, .int .i64 r.r, .int .i64 r.m, .int .i64 r.j], .int .i64 n, .int .i64 who, .int .i64 ratio] w fun e w' => e = .returned (.bool true) ∧ Below w.heap.size w w' := by
  have X := Rul.new w _ rfl r.k0 r.k1 r.r r.m r.j
  have B : Below w.heap.size w (w.alloc (.cells #[.int .i64 r.k0, .int .i64 r.k1, .int .i64 r.r, .int .i64 r.m, .int .i64 r.j] 24)) := balloc (Below.refl _ _) _
  obtain ⟨x0, x1, x2, x3, x4, _, _, _, _, _⟩ := id X
  have d1 : decide (who < 0) = false := decide_eq_false (by omega)
  have d2 : decide (1 < who) = false := decide_eq_false (by omega)
  have d3 : decide (ratio < 1) = false := decide_eq_false (by omega)
  have d4 : decide (100 < ratio) = true := decide_eq_true b2
  have e5 : decide (n < 0) = true := decide_eq_true d5
  replace hlen : Hid _ := hlen
  replace hk : Hid _ := hk
  replace hs : Hid _ := hs
  go_enter Try.func3, Try.ntmps3
  go_wp2_with (first
    | (go_at_call 7; refine (so _).mono ?_; clear so x0 x1 x2 x3 x4; rintro e v1 ⟨g0, c0, g1, c1, g2, c2, g3, c3, g4, c4, rfl, hS, b⟩; have P := Cls.new v1 #[.slice (some ⟨g0, 0, none⟩) len c0, .slice (some ⟨g1, 0, none⟩) T c1, .slice (some ⟨g2, 0, none⟩) T c2, .slice (some ⟨g3, 0, none⟩) T c3, .slice (some ⟨g4, 0, none⟩) T c4] 30; replace hS := hk.out _ _ _ _ _ _ _ hS (balloc (Below.refl _ _) (.cells #[.slice (some ⟨g0, 0, none⟩) len c0, .slice (some ⟨g1, 0, none⟩) T c1, .slice (some ⟨g2, 0, none⟩) T c2, .slice (some ⟨g3, 0, none⟩) T c3, .slice (some ⟨g4, 0, none⟩) T c4] 30)); replace X := X.kept (balloc b (.cells #[.slice (some ⟨g0, 0, none⟩) len c0, .slice (some ⟨g1, 0, none⟩) T c1, .slice (some ⟨g2, 0, none⟩) T c2, .slice (some ⟨g3, 0, none⟩) T c3, .slice (some ⟨g4, 0, none⟩) T c4] 30)); replace B := balloc (bthen B b) (.cells #[.slice (some ⟨g0, 0, none⟩) len c0, .slice (some ⟨g1, 0, none⟩) T c1, .slice (some ⟨g2, 0, none⟩) T c2, .slice (some ⟨g3, 0, none⟩) T c3, .slice (some ⟨g4, 0, none⟩) T c4] 30); clear b; obtain ⟨x0, x1, x2, x3, x4, _, _, _, _, _⟩ := id X)
    | (go_at_call 8; refine (st _).mono ?_; clear st x0 x1 x2 x3 x4; rintro e v2 ⟨ga, ca, rfl, -, hA, b⟩; replace P := P.kept b; replace hS := hk.out _ _ _ _ _ _ _ hS b; replace X := X.kept b; replace B := bthen B b; clear b; obtain ⟨x0, x1, x2, x3, x4, _, _, _, _, _⟩ := id X)
    | (go_at_call 9; refine (ld _).mono ?_; clear ld x0 x1 x2 x3 x4; rintro e v3 ⟨rfl, b⟩; replace hA : ∀ i s, L[i]? = some s → Sat _ ga (i * 14) s := fun i s hi => (hA i s hi).kept (b); replace P := P.kept b; replace hS := hk.out _ _ _ _ _ _ _ hS b; replace X := X.kept b; replace B := bthen B b; clear b; obtain ⟨x0, x1, x2, x3, x4, _, _, _, _, _⟩ := id X)
    | (go_at_call 10; refine (gr _).mono ?_; clear gr x0 x1 x2 x3 x4 X; rintro e v4 ⟨rfl, b⟩; have Q := Cls.new v4 #[.int .i64 0, .slice none 0 0] 40; replace hA : ∀ i s, L[i]? = some s → Sat _ ga (i * 14) s := fun i s hi => (hA i s hi).kept (balloc b (.cells #[.int .i64 0, .slice none 0 0] 40)); replace P := P.kept (balloc b (.cells #[.int .i64 0, .slice none 0 0] 40)); replace hS := hk.out _ _ _ _ _ _ _ hS (balloc b (.cells #[.int .i64 0, .slice none 0 0] 40)); replace B := balloc (bthen B b) (.cells #[.int .i64 0, .slice none 0 0] 40); clear b; have p0 := P.c 0 _ rfl)
    | (go_at_call 11; refine (equal_states _ _ _ _ _ L hlen.out hl3 _ hA (hs.out _ _ _ _ _ _ hS)).mono ?_; clear p0 hA; rintro e v5 ⟨rfl, b⟩; replace Q := Q.kept b; replace P := P.kept b; replace hS := hk.out _ _ _ _ _ _ _ hS b; replace B := bthen B b; clear b; have p0 := P.c 0 _ rfl; have p1 := P.c 1 _ rfl; have p2 := P.c 2 _ rfl; have p3 := P.c 3 _ rfl; have p4 := P.c 4 _ rfl; have q0 := Q.c 0 _ rfl; have q1 := Q.c 1 _ rfl))
  go_ret
  exact ⟨rfl, B⟩

set_option maxHeartbeats 6400000 in
theorem tells_lo5 (r : Ru) (n who ratio : Int) (T len : Nat) (L : List Sx) (hlen : L.length = len) (hl3 : len ≤ 300) (hT4 : T ≤ 4800) (b1 : 0 ≤ who ∧ who ≤ 1) (b2 : 1 ≤ ratio ∧ ratio ≤ 100) (w : World)
    (S : Nat → Nat → Nat → Nat → Nat → World → Prop) (hk : ∀ g0 g1 g2 g3 g4 v v', S g0 g1 g2 g3 g4 v → Below v.heap.size v v' → S g0 g1 g2 g3 g4 v') (hs : ∀ g0 g1 g2 g3 g4 v, S g0 g1 g2 g3 g4 v → ∀ i s, L[i]? = some s → Sat v g0 (i * 14) s)
    (so : ∀ v, Calls Try.prog 7 #[.agg #[.int .i64 r.k0, .int .i64 r.k1, .int .i64 r.r, .int .i64 r.m, .int .i64 r.j]] v fun e w' => ∃ g0 c0 g1 c1 g2 c2 g3 c3 g4 c4, e = .returned (.tuple #[.agg #[.slice (some ⟨g0, 0, none⟩) len c0, .slice (some ⟨g1, 0, none⟩) T c1, .slice (some ⟨g2, 0, none⟩) T c2, .slice (some ⟨g3, 0, none⟩) T c3, .slice (some ⟨g4, 0, none⟩) T c4], .int .i64 0]) ∧ S g0 g1 g2 g3 g4 w' ∧ Below v.heap.size v w')
    (st : ∀ v, Calls Try.prog 8 #[.agg #[.int .i64 r.k0, .int .i64 r.k1, .int .i64 r.r, .int .i64 r.m, .int .i64 r.j]] v fun e w' => ∃ g cp, e = .returned (.tuple #[.slice (some ⟨g, 0, none⟩) len cp, .int .i64 0]) ∧ len ≤ cp ∧ (∀ i s, L[i]? = some s → Sat w' g (i * 14) s) ∧ Below v.heap.size v w')
    (d5 : n < 0)
    (ld : ∀ v, Calls Try.prog 9 #[.agg #[.int .i64 r.k0, .int .i64 r.k1, .int .i64 r.r, .int .i64 r.m, .int .i64 r.j], .int .i64 n] v fun e w' => e = .returned (.tuple #[.slice none 0 0, .int .i64 3]) ∧ Below v.heap.size v w')
    (F G H : Nat → Int)
    (gr : ∀ v, Calls Try.prog 10 #[.agg #[.int .i64 r.k0, .int .i64 r.k1, .int .i64 r.r, .int .i64 r.m, .int .i64 r.j], .int .i64 who, .int .i64 ratio] v fun e w' => ∃ h cp, e = .returned (.tuple #[.agg #[.int .i64 (len : Int), .slice (some ⟨h, 0, none⟩) T cp], .int .i64 0]) ∧ T ≤ cp ∧ (∀ u, u < T → EAt w' h (u * 3) (F u) (G u) (H u)) ∧ Below v.heap.size v w')
    (sg : ∀ g0 c0 g1 c1 g2 c2 g3 c3 g4 c4 v, S g0 g1 g2 g3 g4 v → Calls Try.prog 14 #[.agg #[.slice (some ⟨g0, 0, none⟩) len c0, .slice (some ⟨g1, 0, none⟩) T c1, .slice (some ⟨g2, 0, none⟩) T c2, .slice (some ⟨g3, 0, none⟩) T c3, .slice (some ⟨g4, 0, none⟩) T c4], .int .i64 who, .int .i64 ratio] v fun e w' => ∃ h cp, e = .returned (.agg #[.int .i64 (len : Int), .slice (some ⟨h, 0, none⟩) T cp]) ∧ T ≤ cp ∧ (∀ u, u < T → EAt w' h (u * 3) (F u) (G u) (H u)) ∧ Below v.heap.size v w') :
    Calls Try.prog 3 #[.agg #[.int .i64 r.k0, .int .i64 r.k1, .int .i64 r.r, .int .i64 r.m, .int .i64 r.j], .int .i64 n, .int .i64 who, .int .i64 ratio] w fun e w' => e = .returned (.bool true) ∧ Below w.heap.size w w' := by
  have X := Rul.new w _ rfl r.k0 r.k1 r.r r.m r.j
  have B : Below w.heap.size w (w.alloc (.cells #[.int .i64 r.k0, .int .i64 r.k1, .int .i64 r.r, .int .i64 r.m, .int .i64 r.j] 24)) := balloc (Below.refl _ _) _
  obtain ⟨x0, x1, x2, x3, x4, _, _, _, _, _⟩ := id X
  have d1 : decide (who < 0) = false := decide_eq_false (by omega)
  have d2 : decide (1 < who) = false := decide_eq_false (by omega)
  have d3 : decide (ratio < 1) = false := decide_eq_false (by omega)
  have d4 : decide (100 < ratio) = false := decide_eq_false (by omega)
  have e5 : decide (n < 0) = true := decide_eq_true d5
  replace hlen : Hid _ := hlen
  replace hk : Hid _ := hk
  replace hs : Hid _ := hs
  go_enter Try.func3, Try.ntmps3
  go_wp2_with (first
    | (go_at_call 7; refine (so _).mono ?_; clear so x0 x1 x2 x3 x4; rintro e v1 ⟨g0, c0, g1, c1, g2, c2, g3, c3, g4, c4, rfl, hS, b⟩; have P := Cls.new v1 #[.slice (some ⟨g0, 0, none⟩) len c0, .slice (some ⟨g1, 0, none⟩) T c1, .slice (some ⟨g2, 0, none⟩) T c2, .slice (some ⟨g3, 0, none⟩) T c3, .slice (some ⟨g4, 0, none⟩) T c4] 30; replace hS := hk.out _ _ _ _ _ _ _ hS (balloc (Below.refl _ _) (.cells #[.slice (some ⟨g0, 0, none⟩) len c0, .slice (some ⟨g1, 0, none⟩) T c1, .slice (some ⟨g2, 0, none⟩) T c2, .slice (some ⟨g3, 0, none⟩) T c3, .slice (some ⟨g4, 0, none⟩) T c4] 30)); replace X := X.kept (balloc b (.cells #[.slice (some ⟨g0, 0, none⟩) len c0, .slice (some ⟨g1, 0, none⟩) T c1, .slice (some ⟨g2, 0, none⟩) T c2, .slice (some ⟨g3, 0, none⟩) T c3, .slice (some ⟨g4, 0, none⟩) T c4] 30)); replace B := balloc (bthen B b) (.cells #[.slice (some ⟨g0, 0, none⟩) len c0, .slice (some ⟨g1, 0, none⟩) T c1, .slice (some ⟨g2, 0, none⟩) T c2, .slice (some ⟨g3, 0, none⟩) T c3, .slice (some ⟨g4, 0, none⟩) T c4] 30); clear b; obtain ⟨x0, x1, x2, x3, x4, _, _, _, _, _⟩ := id X)
    | (go_at_call 8; refine (st _).mono ?_; clear st x0 x1 x2 x3 x4; rintro e v2 ⟨ga, ca, rfl, -, hA, b⟩; replace P := P.kept b; replace hS := hk.out _ _ _ _ _ _ _ hS b; replace X := X.kept b; replace B := bthen B b; clear b; obtain ⟨x0, x1, x2, x3, x4, _, _, _, _, _⟩ := id X)
    | (go_at_call 9; refine (ld _).mono ?_; clear ld x0 x1 x2 x3 x4; rintro e v3 ⟨rfl, b⟩; replace hA : ∀ i s, L[i]? = some s → Sat _ ga (i * 14) s := fun i s hi => (hA i s hi).kept (b); replace P := P.kept b; replace hS := hk.out _ _ _ _ _ _ _ hS b; replace X := X.kept b; replace B := bthen B b; clear b; obtain ⟨x0, x1, x2, x3, x4, _, _, _, _, _⟩ := id X)
    | (go_at_call 10; refine (gr _).mono ?_; clear gr x0 x1 x2 x3 x4 X; rintro e v4 ⟨h1, k1, rfl, -, hE1, b⟩; have Q := Cls.new v4 #[.int .i64 (len : Int), .slice (some ⟨h1, 0, none⟩) T k1] 40; replace hE1 : ∀ u, u < T → EAt _ h1 (u * 3) (F u) (G u) (H u) := fun u hu => (hE1 u hu).kept (balloc (Below.refl _ _) (.cells #[.int .i64 (len : Int), .slice (some ⟨h1, 0, none⟩) T k1] 40)); replace hA : ∀ i s, L[i]? = some s → Sat _ ga (i * 14) s := fun i s hi => (hA i s hi).kept (balloc b (.cells #[.int .i64 (len : Int), .slice (some ⟨h1, 0, none⟩) T k1] 40)); replace P := P.kept (balloc b (.cells #[.int .i64 (len : Int), .slice (some ⟨h1, 0, none⟩) T k1] 40)); replace hS := hk.out _ _ _ _ _ _ _ hS (balloc b (.cells #[.int .i64 (len : Int), .slice (some ⟨h1, 0, none⟩) T k1] 40)); replace B := balloc (bthen B b) (.cells #[.int .i64 (len : Int), .slice (some ⟨h1, 0, none⟩) T k1] 40); clear b; have p0 := P.c 0 _ rfl)
    | (go_at_call 11; refine (equal_states _ _ _ _ _ L hlen.out hl3 _ hA (hs.out _ _ _ _ _ _ hS)).mono ?_; clear p0 hA; rintro e v5 ⟨rfl, b⟩; replace Q := Q.kept b; replace P := P.kept b; replace hS := hk.out _ _ _ _ _ _ _ hS b; replace hE1 : ∀ u, u < T → EAt _ h1 (u * 3) (F u) (G u) (H u) := fun u hu => (hE1 u hu).kept (b); replace B := bthen B b; clear b; have p0 := P.c 0 _ rfl; have p1 := P.c 1 _ rfl; have p2 := P.c 2 _ rfl; have p3 := P.c 3 _ rfl; have p4 := P.c 4 _ rfl; have q0 := Q.c 0 _ rfl; have q1 := Q.c 1 _ rfl)
    | (go_at_call 14; refine (sg _ _ _ _ _ _ _ _ _ _ _ hS).mono ?_; clear sg p0 p1 p2 p3 p4 P q0 q1 hS; rintro e v8 ⟨h2, k2, rfl, -, hE2, b⟩; have Q2 := Cls.new v8 #[.int .i64 (len : Int), .slice (some ⟨h2, 0, none⟩) T k2] 40; replace hE2 : ∀ u, u < T → EAt _ h2 (u * 3) (F u) (G u) (H u) := fun u hu => (hE2 u hu).kept (balloc (Below.refl _ _) (.cells #[.int .i64 (len : Int), .slice (some ⟨h2, 0, none⟩) T k2] 40)); replace Q := Q.kept (balloc b (.cells #[.int .i64 (len : Int), .slice (some ⟨h2, 0, none⟩) T k2] 40)); replace hE1 : ∀ u, u < T → EAt _ h1 (u * 3) (F u) (G u) (H u) := fun u hu => (hE1 u hu).kept (balloc b (.cells #[.int .i64 (len : Int), .slice (some ⟨h2, 0, none⟩) T k2] 40)); replace B := balloc (bthen B b) (.cells #[.int .i64 (len : Int), .slice (some ⟨h2, 0, none⟩) T k2] 40); clear b; have q0 := Q.c 0 _ rfl; have q1 := Q.c 1 _ rfl; have r0 := Q2.c 0 _ rfl; have r1 := Q2.c 1 _ rfl)
    | (go_at_call 15; refine (equal_edges _ _ _ _ _ F G H hT4 _ hE1 hE2).mono ?_; clear Q Q2 q0 q1 r0 r1 hE1 hE2; rintro e v9 ⟨rfl, b⟩; replace B := bthen B b; clear b))
  go_ret
  exact ⟨rfl, B⟩

end Go.Proofs.Ytilpooifggofiaa.D
