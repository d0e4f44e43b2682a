/- PROVED: what the verifier's PRight answers where all is right. CONDITIONS: none beyond each theorem's own. -/
import Derived.Test.YtobgjnjndkfjoaaDWrong
namespace Go.Proofs.Ytobgjnjndkfjoaa.D
open Go.RowKit K

theorem at0 (k0 n0 b0 a0 c0 q0 k1 n1 b1 a1 c1 q1 : Int) (w : World) : (Instr.index 27 (.agg #[.int .i64 k0, .int .i64 n0, .int .i64 b0, .int .i64 a0, .int .i64 c0, .int .i64 q0, .int .i64 k1, .int .i64 n1, .int .i64 b1, .int .i64 a1, .int .i64 c1, .int .i64 q1]) (.int .i64 0)).run Try.prog w = .ok (.agg #[.int .i64 k0, .int .i64 n0, .int .i64 b0, .int .i64 a0, .int .i64 c0, .int .i64 q0]) w := by kernel_rfl
theorem at1 (k0 n0 b0 a0 c0 q0 k1 n1 b1 a1 c1 q1 : Int) (w : World) : (Instr.index 27 (.agg #[.int .i64 k0, .int .i64 n0, .int .i64 b0, .int .i64 a0, .int .i64 c0, .int .i64 q0, .int .i64 k1, .int .i64 n1, .int .i64 b1, .int .i64 a1, .int .i64 c1, .int .i64 q1]) (.int .i64 1)).run Try.prog w = .ok (.agg #[.int .i64 k1, .int .i64 n1, .int .i64 b1, .int .i64 a1, .int .i64 c1, .int .i64 q1]) w := by kernel_rfl
attribute [local go_sem] at0 at1

/-- the rules lie there -/
structure RSt (w : World) (p0 p1 r m j : Int) (W : World) : Prop where
  hR : Rul W w.heap.size p0 p1 r m j
  hB : Below w.heap.size w W
theorem RSt.kept {w W W' : World} {p0 p1 r m j : Int} (h : RSt w p0 p1 r m j W) (g : Below W.heap.size W W') : RSt w p0 p1 r m j W' := ⟨h.hR.kept g, bthen h.hB g⟩

set_option maxHeartbeats 6400000 in
theorem pright_of (p0 p1 r m j k0 n0 b0 a0 c0 q0 k1 n1 b1 a1 c1 q1 w0 w1 k2 n2 b2 a2 c2 q2 k3 n3 b3 a3 c3 q3 : Int) (w : World) (pw : ∀ v, Calls Try.prog 14 #[.agg #[.int .i64 p0, .int .i64 p1, .int .i64 r, .int .i64 m, .int .i64 j]] v fun e w' => e = .returned (.int .i64 0) ∧ Below v.heap.size v w')
    (x0 : ∀ v, Calls Try.prog 29 #[.agg #[.int .i64 k0, .int .i64 n0, .int .i64 b0, .int .i64 a0, .int .i64 c0, .int .i64 q0], .int .i64 0] v fun e w' => e = .returned (.tuple #[.agg #[.int .i64 k2, .int .i64 n2, .int .i64 b2, .int .i64 a2, .int .i64 c2, .int .i64 q2], .bool true]) ∧ Below v.heap.size v w')
    (x1 : ∀ v, Calls Try.prog 29 #[.agg #[.int .i64 k1, .int .i64 n1, .int .i64 b1, .int .i64 a1, .int .i64 c1, .int .i64 q1], .int .i64 0] v fun e w' => e = .returned (.tuple #[.agg #[.int .i64 k3, .int .i64 n3, .int .i64 b3, .int .i64 a3, .int .i64 c3, .int .i64 q3], .bool true]) ∧ Below v.heap.size v w')
    (g0 : decide (min w0 w1 < 0) = false) (g1 : decide (16 < max w0 w1) = false) (g2 : decide (m < w0 + w1) = false) (i0 : 0 ≤ w0 ∧ w0 ≤ 16) (i1 : 0 ≤ w1 ∧ w1 ≤ 16) (e0 : k0 = p0) (e1 : k1 = p1) :
    Calls Try.prog 16 #[.agg #[.int .i64 p0, .int .i64 p1, .int .i64 r, .int .i64 m, .int .i64 j], .agg #[.int .i64 k0, .int .i64 n0, .int .i64 b0, .int .i64 a0, .int .i64 c0, .int .i64 q0, .int .i64 k1, .int .i64 n1, .int .i64 b1, .int .i64 a1, .int .i64 c1, .int .i64 q1, .int .i64 w0, .int .i64 w1]] w fun e w' => e = .returned (.bool true) ∧ Below w.heap.size w w' := by
  subst e0 e1
  have Z : RSt w k0 k1 r m j ((w.alloc (.cells #[.int .i64 k0, .int .i64 k1, .int .i64 r, .int .i64 m, .int .i64 j] 24)).alloc (.cells #[.int .i64 k0, .int .i64 n0, .int .i64 b0, .int .i64 a0, .int .i64 c0, .int .i64 q0, .int .i64 k1, .int .i64 n1, .int .i64 b1, .int .i64 a1, .int .i64 c1, .int .i64 q1, .int .i64 w0, .int .i64 w1] 29)) := ⟨(Rul.new w _ rfl k0 k1 r m j).alloc _, balloc (balloc (Below.refl _ _) _) _⟩
  have Y := Sta.new (w.alloc (.cells #[.int .i64 k0, .int .i64 k1, .int .i64 r, .int .i64 m, .int .i64 j] 24)) (w.heap.size + 1) (by simp) k0 n0 b0 a0 c0 q0 k1 n1 b1 a1 c1 q1 w0 w1
  go_enter Try.func16, Try.ntmps16
  go_wp2_with (go_at_call 14; refine (pw _).mono ?_; clear pw; rintro x v ⟨rfl, b⟩; replace Z := Z.kept b; replace Y := Y.kept b; clear b; obtain ⟨y0, y1, y2, y3, y4, y5, y6, y7, y8, y9, y10, y11, y12, y13, _, _, _, _, _, _, _, _, _, _, _, _, _, _⟩ := Y; obtain ⟨⟨r0, r1, r2, r3, r4, _, _, _, _, _⟩, _⟩ := id Z)
  clear y0 y1 y2 y3 y4 y5 y6 y7 y8 y9 y10 y11 y12 y13 r0 r1 r2 r3 r4
  go_loopw [46] (fun i wr => (i = .int .i64 0 ∨ i = .int .i64 1 ∨ i = .int .i64 2) ∧ RSt w k0 k1 r m j wr) (fun i _ => 2 - (intOf i).toNat)
  case atStart => exact ⟨.inl rfl, Z⟩
  case round =>
    clear Z
    obtain ⟨rfl | rfl | rfl, Z⟩ := hrel
    · have Q := C.Ctl.new wr _ rfl k0 n0 b0 a0 c0 q0
      obtain ⟨u0, u1, u2, u3, u4, u5, _, _, _, _, _, _⟩ := id Q
      replace Z := Z.kept (balloc (Below.refl _ _) (.cells #[.int .i64 k0, .int .i64 n0, .int .i64 b0, .int .i64 a0, .int .i64 c0, .int .i64 q0] 26))
      go_wp2_with (go_at_call 29; refine (x0 _).mono ?_; clear x0 u0 u1 u2 u3 u4 u5; rintro x v1 ⟨rfl, b⟩; replace Z := (Z.kept b).kept (balloc (Below.refl _ _) (.cells #[.int .i64 k2, .int .i64 n2, .int .i64 b2, .int .i64 a2, .int .i64 c2, .int .i64 q2] 26)); replace Q := (Q.kept b).alloc (.cells #[.int .i64 k2, .int .i64 n2, .int .i64 b2, .int .i64 a2, .int .i64 c2, .int .i64 q2] 26); clear b; obtain ⟨u0, _, _, _, _, _, _, _, _, _, _, _⟩ := Q; obtain ⟨⟨r0, r1, _, _, _, _, _, _, _, _⟩, _⟩ := id Z)
      go_quiet (fail)
      go_wp2
      go_roundw
      case rel => exact ⟨.inr (.inl rfl), Z.kept (below_drewN (Below.refl _ _) _)⟩
      case measure => simp [intOf]
    · have Q := C.Ctl.new wr _ rfl k1 n1 b1 a1 c1 q1
      obtain ⟨u0, u1, u2, u3, u4, u5, _, _, _, _, _, _⟩ := id Q
      replace Z := Z.kept (balloc (Below.refl _ _) (.cells #[.int .i64 k1, .int .i64 n1, .int .i64 b1, .int .i64 a1, .int .i64 c1, .int .i64 q1] 26))
      go_wp2_with (go_at_call 29; refine (x1 _).mono ?_; clear x1 u0 u1 u2 u3 u4 u5; rintro x v1 ⟨rfl, b⟩; replace Z := (Z.kept b).kept (balloc (Below.refl _ _) (.cells #[.int .i64 k3, .int .i64 n3, .int .i64 b3, .int .i64 a3, .int .i64 c3, .int .i64 q3] 26)); replace Q := (Q.kept b).alloc (.cells #[.int .i64 k3, .int .i64 n3, .int .i64 b3, .int .i64 a3, .int .i64 c3, .int .i64 q3] 26); clear b; obtain ⟨u0, _, _, _, _, _, _, _, _, _, _, _⟩ := Q; obtain ⟨⟨r0, r1, _, _, _, _, _, _, _, _⟩, _⟩ := id Z)
      go_quiet (fail)
      go_wp2
      go_roundw
      case rel => exact ⟨.inr (.inr rfl), Z.kept (below_drewN (Below.refl _ _) _)⟩
      case measure => simp [intOf]
    · go_wp2
      go_ret
      exact ⟨rfl, Z.hB⟩

theorem pright_yes (r : Ru) (s : Sx) (h : pright r s) (w : World) :
    Calls Try.prog 16 #[.agg #[.int .i64 r.k0, .int .i64 r.k1, .int .i64 r.r, .int .i64 r.m, .int .i64 r.j], .agg #[.int .i64 s.f0.k, .int .i64 s.f0.n, .int .i64 s.f0.b, .int .i64 s.f0.a, .int .i64 s.f0.s, .int .i64 s.f0.q, .int .i64 s.f1.k, .int .i64 s.f1.n, .int .i64 s.f1.b, .int .i64 s.f1.a, .int .i64 s.f1.s, .int .i64 s.f1.q, .int .i64 s.w0, .int .i64 s.w1]] w fun e w' => e = .returned (.bool true) ∧ Below w.heap.size w w' := by
  have hi : inr 0 := by unfold inr; omega
  have pw := fun v => pwrong_is r 0 (wrong_ok.2 h.1) v
  have x0 := fun v => pnext_yes s.f0 0 h.2.1.1 hi v
  have x1 := fun v => pnext_yes s.f1 0 h.2.2.1.1 hi v
  have hr := h.1.2
  unfold ranges at hr
  obtain ⟨_, ⟨_, e0⟩, ⟨_, e1⟩, h5, h6, h7⟩ := h
  exact pright_of r.k0 r.k1 r.r r.m r.j s.f0.k s.f0.n s.f0.b s.f0.a s.f0.s s.f0.q s.f1.k s.f1.n s.f1.b s.f1.a s.f1.s s.f1.q s.w0 s.w1 _ _ _ _ _ _ _ _ _ _ _ _ w pw x0 x1 (decide_eq_false (by omega)) (decide_eq_false (by omega)) (decide_eq_false (by omega)) (by omega) (by omega) e0 e1

end Go.Proofs.Ytobgjnjndkfjoaa.D

