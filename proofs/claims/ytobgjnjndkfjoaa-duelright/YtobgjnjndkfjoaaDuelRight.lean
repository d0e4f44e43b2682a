/- PROVED: whatever rules, state and lateness: where a step is told, the state behind it is right, something comes, and what was sent is both windows; where an error is told nothing else is. CONDITIONS: none. -/
import Derived.Test.YtobgjnjndkfjoaaDAlive
import Derived.Test.YtobgjnjndkfjoaaDFar
namespace Go.Proofs.Ytobgjnjndkfjoaa.D
open Go.RowKit K
set_option linter.unusedVariables false
attribute [local go_sem ↓] eqA eqR eqSt

set_option maxHeartbeats 6400000 in
theorem dr_err (p0 p1 r m j k0 n0 b0 a0 c0 q0 k1 n1 b1 a1 c1 q1 w0 w1 x y E : Int) (he : (E != 0) = true) (w : World)
    (sy : ∀ v, Calls Try.prog 11 #[.agg #[.int .i64 p0, .int .i64 p1, .int .i64 r, .int .i64 m, .int .i64 j], .agg #[.int .i64 k0, .int .i64 n0, .int .i64 b0, .int .i64 a0, .int .i64 c0, .int .i64 q0, .int .i64 k1, .int .i64 n1, .int .i64 b1, .int .i64 a1, .int .i64 c1, .int .i64 q1, .int .i64 w0, .int .i64 w1], .agg #[.int .i64 x, .int .i64 y]] v fun e w' => e = .returned (.tuple #[.agg #[.int .i64 0, .int .i64 0, .int .i64 0, .int .i64 0, .int .i64 0, .int .i64 0, .int .i64 0, .int .i64 0, .int .i64 0, .int .i64 0, .int .i64 0, .int .i64 0, .int .i64 0, .int .i64 0], .agg #[.int .i64 0, .int .i64 0, .int .i64 0, .int .i64 0, .int .i64 0, .int .i64 0], .int .i64 E]) ∧ Below v.heap.size v w') :
    Calls Try.prog 6 #[.agg #[.int .i64 p0, .int .i64 p1, .int .i64 r, .int .i64 m, .int .i64 j], .agg #[.int .i64 k0, .int .i64 n0, .int .i64 b0, .int .i64 a0, .int .i64 c0, .int .i64 q0, .int .i64 k1, .int .i64 n1, .int .i64 b1, .int .i64 a1, .int .i64 c1, .int .i64 q1, .int .i64 w0, .int .i64 w1], .agg #[.int .i64 x, .int .i64 y]] w fun e w' => e = .returned (.bool true) ∧ Below w.heap.size w w' := by
  have X := ((Rul.new w _ rfl p0 p1 r m j).alloc (.cells #[.int .i64 k0, .int .i64 n0, .int .i64 b0, .int .i64 a0, .int .i64 c0, .int .i64 q0, .int .i64 k1, .int .i64 n1, .int .i64 b1, .int .i64 a1, .int .i64 c1, .int .i64 q1, .int .i64 w0, .int .i64 w1] 29)).alloc (.cells #[.int .i64 x, .int .i64 y] 22)
  have Y := (Sta.new (w.alloc (.cells #[.int .i64 p0, .int .i64 p1, .int .i64 r, .int .i64 m, .int .i64 j] 24)) (w.heap.size + 1) (by simp) k0 n0 b0 a0 c0 q0 k1 n1 b1 a1 c1 q1 w0 w1).alloc (.cells #[.int .i64 x, .int .i64 y] 22)
  have L := Arr.new ((w.alloc (.cells #[.int .i64 p0, .int .i64 p1, .int .i64 r, .int .i64 m, .int .i64 j] 24)).alloc (.cells #[.int .i64 k0, .int .i64 n0, .int .i64 b0, .int .i64 a0, .int .i64 c0, .int .i64 q0, .int .i64 k1, .int .i64 n1, .int .i64 b1, .int .i64 a1, .int .i64 c1, .int .i64 q1, .int .i64 w0, .int .i64 w1] 29)) (w.heap.size + 1 + 1) (by simp) x y
  have B : Below w.heap.size w (((w.alloc (.cells #[.int .i64 p0, .int .i64 p1, .int .i64 r, .int .i64 m, .int .i64 j] 24)).alloc (.cells #[.int .i64 k0, .int .i64 n0, .int .i64 b0, .int .i64 a0, .int .i64 c0, .int .i64 q0, .int .i64 k1, .int .i64 n1, .int .i64 b1, .int .i64 a1, .int .i64 c1, .int .i64 q1, .int .i64 w0, .int .i64 w1] 29)).alloc (.cells #[.int .i64 x, .int .i64 y] 22)) := balloc (balloc (balloc (Below.refl _ _) _) _) _
  have s1 := sameS_self 0 0 0 0 0 0 0 0 0 0 0 0 0 0
  have s2 := sameR_self 0 0 0 0 0 0
  go_enter Try.func6, Try.ntmps6
  go_wp2_with (first
    | (go_at_call 20; refine (alive_any _).mono ?_; rintro xx v1 ⟨rfl, b⟩; replace X := X.kept b; replace Y := Y.kept b; replace L := L.kept b; replace B := bthen B b; clear b; obtain ⟨x0, x1, x2, x3, x4, _, _, _, _, _⟩ := X; obtain ⟨y0, y1, y2, y3, y4, y5, y6, y7, y8, y9, y10, y11, y12, y13, _, _, _, _, _, _, _, _, _, _, _, _, _, _⟩ := Y; obtain ⟨l0', l1', _, _⟩ := L)
    | (go_at_call 11; refine (sy _).mono ?_; clear sy x0 x1 x2 x3 x4 y0 y1 y2 y3 y4 y5 y6 y7 y8 y9 y10 y11 y12 y13 l0' l1'; rintro xx v2 ⟨rfl, b⟩; replace B := balloc (balloc (bthen B b) (.cells #[.int .i64 0, .int .i64 0, .int .i64 0, .int .i64 0, .int .i64 0, .int .i64 0, .int .i64 0, .int .i64 0, .int .i64 0, .int .i64 0, .int .i64 0, .int .i64 0, .int .i64 0, .int .i64 0] 29)) (.cells #[.int .i64 0, .int .i64 0, .int .i64 0, .int .i64 0, .int .i64 0, .int .i64 0] 34); clear b))
  go_ret
  exact ⟨rfl, B⟩

set_option maxHeartbeats 6400000 in
theorem dr_ok (p0 p1 r m j k0 n0 b0 a0 c0 q0 k1 n1 b1 a1 c1 q1 w0 w1 x y k2 n2 b2 a2 c2 q2 k3 n3 b3 a3 c3 q3 z0 z1 g0 g1 l0 l1 : Int) (w : World) (hg : 0 ≤ g0 ∧ g0 ≤ 100) (hg' : 0 ≤ g1 ∧ g1 ≤ 100) (hs : decide (0 < g0 + g1) = true)
    (sy : ∀ v, Calls Try.prog 11 #[.agg #[.int .i64 p0, .int .i64 p1, .int .i64 r, .int .i64 m, .int .i64 j], .agg #[.int .i64 k0, .int .i64 n0, .int .i64 b0, .int .i64 a0, .int .i64 c0, .int .i64 q0, .int .i64 k1, .int .i64 n1, .int .i64 b1, .int .i64 a1, .int .i64 c1, .int .i64 q1, .int .i64 w0, .int .i64 w1], .agg #[.int .i64 x, .int .i64 y]] v fun e w' => e = .returned (.tuple #[.agg #[.int .i64 k2, .int .i64 n2, .int .i64 b2, .int .i64 a2, .int .i64 c2, .int .i64 q2, .int .i64 k3, .int .i64 n3, .int .i64 b3, .int .i64 a3, .int .i64 c3, .int .i64 q3, .int .i64 z0, .int .i64 z1], .agg #[.int .i64 n0, .int .i64 n1, .int .i64 g0, .int .i64 g1, .int .i64 l0, .int .i64 l1], .int .i64 0]) ∧ Below v.heap.size v w')
    (ry : ∀ v, Calls Try.prog 15 #[.agg #[.int .i64 p0, .int .i64 p1, .int .i64 r, .int .i64 m, .int .i64 j], .agg #[.int .i64 k2, .int .i64 n2, .int .i64 b2, .int .i64 a2, .int .i64 c2, .int .i64 q2, .int .i64 k3, .int .i64 n3, .int .i64 b3, .int .i64 a3, .int .i64 c3, .int .i64 q3, .int .i64 z0, .int .i64 z1]] v fun e w' => e = .returned (.bool true) ∧ Below v.heap.size v w') :
    Calls Try.prog 6 #[.agg #[.int .i64 p0, .int .i64 p1, .int .i64 r, .int .i64 m, .int .i64 j], .agg #[.int .i64 k0, .int .i64 n0, .int .i64 b0, .int .i64 a0, .int .i64 c0, .int .i64 q0, .int .i64 k1, .int .i64 n1, .int .i64 b1, .int .i64 a1, .int .i64 c1, .int .i64 q1, .int .i64 w0, .int .i64 w1], .agg #[.int .i64 x, .int .i64 y]] w fun e w' => e = .returned (.bool true) ∧ Below w.heap.size w w' := by
  have X := ((Rul.new w _ rfl p0 p1 r m j).alloc (.cells #[.int .i64 k0, .int .i64 n0, .int .i64 b0, .int .i64 a0, .int .i64 c0, .int .i64 q0, .int .i64 k1, .int .i64 n1, .int .i64 b1, .int .i64 a1, .int .i64 c1, .int .i64 q1, .int .i64 w0, .int .i64 w1] 29)).alloc (.cells #[.int .i64 x, .int .i64 y] 22)
  have Y := (Sta.new (w.alloc (.cells #[.int .i64 p0, .int .i64 p1, .int .i64 r, .int .i64 m, .int .i64 j] 24)) (w.heap.size + 1) (by simp) k0 n0 b0 a0 c0 q0 k1 n1 b1 a1 c1 q1 w0 w1).alloc (.cells #[.int .i64 x, .int .i64 y] 22)
  have L := Arr.new ((w.alloc (.cells #[.int .i64 p0, .int .i64 p1, .int .i64 r, .int .i64 m, .int .i64 j] 24)).alloc (.cells #[.int .i64 k0, .int .i64 n0, .int .i64 b0, .int .i64 a0, .int .i64 c0, .int .i64 q0, .int .i64 k1, .int .i64 n1, .int .i64 b1, .int .i64 a1, .int .i64 c1, .int .i64 q1, .int .i64 w0, .int .i64 w1] 29)) (w.heap.size + 1 + 1) (by simp) x y
  have B : Below w.heap.size w (((w.alloc (.cells #[.int .i64 p0, .int .i64 p1, .int .i64 r, .int .i64 m, .int .i64 j] 24)).alloc (.cells #[.int .i64 k0, .int .i64 n0, .int .i64 b0, .int .i64 a0, .int .i64 c0, .int .i64 q0, .int .i64 k1, .int .i64 n1, .int .i64 b1, .int .i64 a1, .int .i64 c1, .int .i64 q1, .int .i64 w0, .int .i64 w1] 29)).alloc (.cells #[.int .i64 x, .int .i64 y] 22)) := balloc (balloc (balloc (Below.refl _ _) _) _) _
  have s1 := sameA_self n0 n1
  go_enter Try.func6, Try.ntmps6
  go_wp2_with (first
    | (go_at_call 20; refine (alive_any _).mono ?_; rintro xx v1 ⟨rfl, b⟩; replace X := X.kept b; replace Y := Y.kept b; replace L := L.kept b; replace B := bthen B b; clear b; obtain ⟨x0, x1, x2, x3, x4, _, _, _, _, _⟩ := id X; obtain ⟨y0, y1, y2, y3, y4, y5, y6, y7, y8, y9, y10, y11, y12, y13, _, _, _, _, _, _, _, _, _, _, _, _, _, _⟩ := id Y; obtain ⟨l0', l1', _, _⟩ := L)
    | (go_at_call 11; refine (sy _).mono ?_; clear sy x0 x1 x2 x3 x4 y0 y1 y2 y3 y4 y5 y6 y7 y8 y9 y10 y11 y12 y13 l0' l1'; rintro xx v2 ⟨rfl, b⟩; replace X := ((X.kept b).alloc (.cells #[.int .i64 k2, .int .i64 n2, .int .i64 b2, .int .i64 a2, .int .i64 c2, .int .i64 q2, .int .i64 k3, .int .i64 n3, .int .i64 b3, .int .i64 a3, .int .i64 c3, .int .i64 q3, .int .i64 z0, .int .i64 z1] 29)).alloc (.cells #[.int .i64 n0, .int .i64 n1, .int .i64 g0, .int .i64 g1, .int .i64 l0, .int .i64 l1] 34); replace Y := ((Y.kept b).alloc (.cells #[.int .i64 k2, .int .i64 n2, .int .i64 b2, .int .i64 a2, .int .i64 c2, .int .i64 q2, .int .i64 k3, .int .i64 n3, .int .i64 b3, .int .i64 a3, .int .i64 c3, .int .i64 q3, .int .i64 z0, .int .i64 z1] 29)).alloc (.cells #[.int .i64 n0, .int .i64 n1, .int .i64 g0, .int .i64 g1, .int .i64 l0, .int .i64 l1] 34); have E := (Sta.new v2 _ rfl k2 n2 b2 a2 c2 q2 k3 n3 b3 a3 c3 q3 z0 z1).alloc (.cells #[.int .i64 n0, .int .i64 n1, .int .i64 g0, .int .i64 g1, .int .i64 l0, .int .i64 l1] 34); have G := Rnd.new (v2.alloc (.cells #[.int .i64 k2, .int .i64 n2, .int .i64 b2, .int .i64 a2, .int .i64 c2, .int .i64 q2, .int .i64 k3, .int .i64 n3, .int .i64 b3, .int .i64 a3, .int .i64 c3, .int .i64 q3, .int .i64 z0, .int .i64 z1] 29)) (v2.heap.size + 1) (by simp) n0 n1 g0 g1 l0 l1; replace B := balloc (balloc (bthen B b) (.cells #[.int .i64 k2, .int .i64 n2, .int .i64 b2, .int .i64 a2, .int .i64 c2, .int .i64 q2, .int .i64 k3, .int .i64 n3, .int .i64 b3, .int .i64 a3, .int .i64 c3, .int .i64 q3, .int .i64 z0, .int .i64 z1] 29)) (.cells #[.int .i64 n0, .int .i64 n1, .int .i64 g0, .int .i64 g1, .int .i64 l0, .int .i64 l1] 34); clear b; obtain ⟨W5, hW5⟩ : ∃ W5, (v2.alloc (.cells #[.int .i64 k2, .int .i64 n2, .int .i64 b2, .int .i64 a2, .int .i64 c2, .int .i64 q2, .int .i64 k3, .int .i64 n3, .int .i64 b3, .int .i64 a3, .int .i64 c3, .int .i64 q3, .int .i64 z0, .int .i64 z1] 29)).alloc (.cells #[.int .i64 n0, .int .i64 n1, .int .i64 g0, .int .i64 g1, .int .i64 l0, .int .i64 l1] 34) = W5 := ⟨_, rfl⟩; rw [hW5] at X Y E G B; obtain ⟨x0, x1, x2, x3, x4, _, _, _, _, _⟩ := X; obtain ⟨t0, t1, t2, t3, t4, t5, t6, t7, t8, t9, t10, t11, t12, t13, _, _, _, _, _, _, _, _, _, _, _, _, _, _⟩ := E)
    | (go_at_call 15; refine (ry _).mono ?_; clear ry x0 x1 x2 x3 x4 t0 t1 t2 t3 t4 t5 t6 t7 t8 t9 t10 t11 t12 t13; rintro xx v3 ⟨rfl, b⟩; replace Y := Y.kept b; replace G := G.kept b; replace B := bthen B b; clear b; obtain ⟨y0, y1, y2, y3, y4, y5, y6, y7, y8, y9, y10, y11, y12, y13, _, _, _, _, _, _, _, _, _, _, _, _, _, _⟩ := Y; obtain ⟨G0, G1, G2, G3, G4, G5, _, _, _, _, _, _⟩ := G))
  go_ret
  exact ⟨rfl, B⟩

theorem duelRight_walk (p0 p1 r m j k0 n0 b0 a0 c0 q0 k1 n1 b1 a1 c1 q1 w0 w1 x y : Int) (w : World) :
    Calls Try.prog 6 #[.agg #[.int .i64 p0, .int .i64 p1, .int .i64 r, .int .i64 m, .int .i64 j], .agg #[.int .i64 k0, .int .i64 n0, .int .i64 b0, .int .i64 a0, .int .i64 c0, .int .i64 q0, .int .i64 k1, .int .i64 n1, .int .i64 b1, .int .i64 a1, .int .i64 c1, .int .i64 q1, .int .i64 w0, .int .i64 w1], .agg #[.int .i64 x, .int .i64 y]] w fun e w' => e = .returned (.bool true) ∧ Below w.heap.size w w' := by
  by_cases h : wstep ⟨p0, p1, r, m, j⟩ ⟨⟨k0, n0, b0, a0, c0, q0⟩, ⟨k1, n1, b1, a1, c1, q1⟩, w0, w1⟩ x y = 0
  · obtain ⟨h1, h2⟩ := wstep_ok.1 h
    have hc := comes h1
    have hi := rounds_in (l := [(x, y)]) h1 (fun p hp => by obtain rfl : p = (x, y) := (by simpa using hp); exact h2) _ (List.mem_singleton.2 rfl)
    exact dr_ok p0 p1 r m j k0 n0 b0 a0 c0 q0 k1 n1 b1 a1 c1 q1 w0 w1 x y _ _ _ _ _ _ _ _ _ _ _ _ _ _ _ _ _ _ w hi.2.2.1 hi.2.2.2.1 (decide_eq_true hc.1) (fun v => step_yes _ _ x y h1 h2 v) (fun v => right_is _ _ true (decide_eq_true (step_right h1 h2)) v)
  · exact dr_err p0 p1 r m j k0 n0 b0 a0 c0 q0 k1 n1 b1 a1 c1 q1 w0 w1 x y _ (by simpa using h) w (fun v => step_no ⟨p0, p1, r, m, j⟩ ⟨⟨k0, n0, b0, a0, c0, q0⟩, ⟨k1, n1, b1, a1, c1, q1⟩, w0, w1⟩ x y _ rfl (by simpa using h) v)

end Go.Proofs.Ytobgjnjndkfjoaa.D
namespace Go.Proofs.Ytobgjnjndkfjoaa.duelRight
open Go.ChangeShapes Go.WideShapes Go.ChangeAt Go.RowKit D
set_option linter.unusedVariables false

set_option maxRecDepth 100000 in
theorem lifted (os : Os) (started : os.Started) (H : Type) (enc : TypeId × Value → H) :
    ReturnsInHanded {} Try.checked os 6 .any (Rows.duelRightSpec.pre6 enc Try.prog Try.f6 Rows.duelRightRow.domain false) (Rows.duelRightSpec.post enc Try.prog Try.f6 false true false false) := by
  refine returnsInHanded_of_change_sized (C := Try.checked) own started (by kernel_rfl) Try.func6
    (ChangeSpec.witness6 (enc := enc) (C := Try.checked) false ⟨#[], #[.agg #[.int .i64 0, .int .i64 0, .int .i64 0, .int .i64 0, .int .i64 0], .agg #[.int .i64 0, .int .i64 0, .int .i64 0, .int .i64 0, .int .i64 0, .int .i64 0, .int .i64 0, .int .i64 0, .int .i64 0, .int .i64 0, .int .i64 0, .int .i64 0, .int .i64 0, .int .i64 0], .agg #[.int .i64 0, .int .i64 0]], []⟩ 8 (by kernel_rfl) (by kernel_rfl) (by kernel_rfl) (by kernel_rfl)) ?_
  intro W base args ds gs before hval0 hW _ hsz0 _
  have hval : ∀ (j : Nat) t v, Try.f6.params[j]? = some t → args[j]? = some v → Value.okWide Try.prog W .any base t v := hval0
  have hW' := hW
  obtain ⟨p, q, hA0, hV, rfl, hfz, hnd⟩ := hW
  have hA : DataW.TrodAll enc Try.prog W 0 (fun _ => true) true Try.f6.params.toList args.toList ds p := hA0
  rw [Try.params6] at hA hval
  obtain ⟨v0, vs0, d0, ds0, p0, q0, hargs, rfl, rfl, h0, r0⟩ := trodAll_cons hA
  obtain ⟨v1, vs1, d1, ds1, p1, q1, rfl, rfl, rfl, h1, r1⟩ := trodAll_cons r0
  obtain ⟨v2, vs2, d2, ds2, p2, q2, rfl, rfl, rfl, h2, r2⟩ := trodAll_cons r1
  obtain ⟨rfl, rfl, rfl⟩ := trodAll_nil r2
  obtain rfl : args = #[v0, v1, v2] := by cases args; simp_all
  obtain ⟨rfl, rfl⟩ := trodVars_none hV
  have k0 := h0
  have lt0 : ∀ x ∈ p0, x.block < W.heap.size := by obtain ⟨m, hm⟩ := k0; exact DataW.trod_lt m _ _ _ hm
  obtain ⟨x0_0, x0_1, x0_2, x0_3, x0_4, rfl, _⟩ := openR (hval 0 24 v0 rfl rfl) h0
  have k1 := h1
  have lt1 : ∀ x ∈ p1, x.block < W.heap.size := by obtain ⟨m, hm⟩ := k1; exact DataW.trod_lt m _ _ _ hm
  obtain ⟨x1_0, x1_1, x1_2, x1_3, x1_4, x1_5, x1_6, x1_7, x1_8, x1_9, x1_10, x1_11, x1_12, x1_13, rfl, _⟩ := openX (hval 1 29 v1 rfl rfl) h1
  have k2 := h2
  have lt2 : ∀ x ∈ p2, x.block < W.heap.size := by obtain ⟨m, hm⟩ := k2; exact DataW.trod_lt m _ _ _ hm
  obtain ⟨x2_0, x2_1, rfl, _⟩ := openP (hval 2 22 v2 rfl rfl) h2
  clear hA0 hval0 hsz0
  refine (duelRight_walk x0_0 x0_1 x0_2 x0_3 x0_4 x1_0 x1_1 x1_2 x1_3 x1_4 x1_5 x1_6 x1_7 x1_8 x1_9 x1_10 x1_11 x1_12 x1_13 x2_0 x2_1 W ).mono fun e W' ⟨he, bel⟩ => ?_
  subst he
  exact ⟨_, rfl, _, _, _, [], _, [], hW', trodAll_mk1 (shut_bool Try.underlying4 _), (trodAll_cons_mk (Below.trod laidOut (by kernel_rfl) (of_decide_eq_true (by kernel_rfl)) k0 bel lt0) (trodAll_cons_mk (Below.trod laidOut (by kernel_rfl) (of_decide_eq_true (by kernel_rfl)) k1 bel lt1) (trodAll_cons_mk (Below.trod laidOut (by kernel_rfl) (of_decide_eq_true (by kernel_rfl)) k2 bel lt2) trodAll_mk0))), rfl, bel.frame _, fun h => by cases h⟩

theorem proved : Rows.DuelRightSaid :=
  OpenClaim.holds_of_wide 6 Try.f6 rfl rfl rfl rfl rfl rfl rfl ⟨rfl, rfl, rfl, rfl, rfl⟩ rfl rfl rfl rfl rfl (by kernel_rfl) Try.func6 (by kernel_rfl)
    (of_decide_eq_true (by kernel_rfl)) (by unfold Func.isWrapper; first | (rw [if_pos (by decide +kernel)]; kernel_rfl) | (rw [if_neg (by decide +kernel)]; exact ⟨rfl, rfl⟩))
    (fun os started H enc _ => lifted os started H enc)

end Go.Proofs.Ytobgjnjndkfjoaa.duelRight
namespace Go.Proofs.Ytobgjnjndkfjoaa
theorem duelRight_holds : Rows.DuelRightSaid := duelRight.proved
#print axioms duelRight_holds
end Go.Proofs.Ytobgjnjndkfjoaa
