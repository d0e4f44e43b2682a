/- PROVED: what the verifier's PRight answers where all is right. what the verifier's ORight and upto answer. CONDITIONS: none beyond each theorem's own. -/
import Derived.Test.YtjageagnclmnjaaGreatDoorT41DWrong
import Derived.Test.YtjageagnclmnjaaGreatDoorB03DOwn
namespace Go.Proofs.YtjageagnclmnjaaGreatDoor.D
open Go.RowKit K

theorem at0 (k0 n0 b0 a0 c0 q0 k1 n1 b1 a1 c1 q1 : Int) (w : World) : (Instr.index 43 (.agg #[.int .i64 k0, .int .i64 n0, .int .i64 b0, .int .i64 a0, .int .i64 c0, .int .i64 q0, .int .i64 k1, .int .i64 n1, .int .i64 b1, .int .i64 a1, .int .i64 c1, .int .i64 q1]) (.int .i64 0)).run Tryz.prog w = .ok (.agg #[.int .i64 k0, .int .i64 n0, .int .i64 b0, .int .i64 a0, .int .i64 c0, .int .i64 q0]) w := by kernel_rfl
theorem at1 (k0 n0 b0 a0 c0 q0 k1 n1 b1 a1 c1 q1 : Int) (w : World) : (Instr.index 43 (.agg #[.int .i64 k0, .int .i64 n0, .int .i64 b0, .int .i64 a0, .int .i64 c0, .int .i64 q0, .int .i64 k1, .int .i64 n1, .int .i64 b1, .int .i64 a1, .int .i64 c1, .int .i64 q1]) (.int .i64 1)).run Tryz.prog w = .ok (.agg #[.int .i64 k1, .int .i64 n1, .int .i64 b1, .int .i64 a1, .int .i64 c1, .int .i64 q1]) w := by kernel_rfl
attribute [local go_sem] at0 at1

/-- the rules lie there -/
structure RSt (w : World) (p0 p1 r m j : Int) (W : World) : Prop where
  hR : Rul W w.heap.size p0 p1 r m j
  hB : Below w.heap.size w W
theorem RSt.kept {w W W' : World} {p0 p1 r m j : Int} (h : RSt w p0 p1 r m j W) (g : Below W.heap.size W W') : RSt w p0 p1 r m j W' := ⟨h.hR.kept g, bthen h.hB g⟩

set_option maxHeartbeats 6400000 in
theorem pright_of (p0 p1 r m j k0 n0 b0 a0 c0 q0 k1 n1 b1 a1 c1 q1 w0 w1 k2 n2 b2 a2 c2 q2 k3 n3 b3 a3 c3 q3 : Int) (w : World) (pw : ∀ v, Calls Tryz.prog 66 #[.agg #[.int .i64 p0, .int .i64 p1, .int .i64 r, .int .i64 m, .int .i64 j]] v fun e w' => e = .returned (.int .i64 0) ∧ Below v.heap.size v w')
    (x0 : ∀ v, Calls Tryz.prog 105 #[.agg #[.int .i64 k0, .int .i64 n0, .int .i64 b0, .int .i64 a0, .int .i64 c0, .int .i64 q0], .int .i64 0] v fun e w' => e = .returned (.tuple #[.agg #[.int .i64 k2, .int .i64 n2, .int .i64 b2, .int .i64 a2, .int .i64 c2, .int .i64 q2], .bool true]) ∧ Below v.heap.size v w')
    (x1 : ∀ v, Calls Tryz.prog 105 #[.agg #[.int .i64 k1, .int .i64 n1, .int .i64 b1, .int .i64 a1, .int .i64 c1, .int .i64 q1], .int .i64 0] v fun e w' => e = .returned (.tuple #[.agg #[.int .i64 k3, .int .i64 n3, .int .i64 b3, .int .i64 a3, .int .i64 c3, .int .i64 q3], .bool true]) ∧ Below v.heap.size v w')
    (g0 : decide (min w0 w1 < 0) = false) (g1 : decide (16 < max w0 w1) = false) (g2 : decide (m < w0 + w1) = false) (i0 : 0 ≤ w0 ∧ w0 ≤ 16) (i1 : 0 ≤ w1 ∧ w1 ≤ 16) (e0 : k0 = p0) (e1 : k1 = p1) :
    Calls Tryz.prog 104 #[.agg #[.int .i64 p0, .int .i64 p1, .int .i64 r, .int .i64 m, .int .i64 j], .agg #[.int .i64 k0, .int .i64 n0, .int .i64 b0, .int .i64 a0, .int .i64 c0, .int .i64 q0, .int .i64 k1, .int .i64 n1, .int .i64 b1, .int .i64 a1, .int .i64 c1, .int .i64 q1, .int .i64 w0, .int .i64 w1]] w fun e w' => e = .returned (.bool true) ∧ Below w.heap.size w w' := by
  subst e0 e1
  have Z : RSt w k0 k1 r m j ((w.alloc (.cells #[.int .i64 k0, .int .i64 k1, .int .i64 r, .int .i64 m, .int .i64 j] 33)).alloc (.cells #[.int .i64 k0, .int .i64 n0, .int .i64 b0, .int .i64 a0, .int .i64 c0, .int .i64 q0, .int .i64 k1, .int .i64 n1, .int .i64 b1, .int .i64 a1, .int .i64 c1, .int .i64 q1, .int .i64 w0, .int .i64 w1] 45)) := ⟨(Rul.new w _ rfl k0 k1 r m j).alloc _, balloc (balloc (Below.refl _ _) _) _⟩
  have Y := Sta.new (w.alloc (.cells #[.int .i64 k0, .int .i64 k1, .int .i64 r, .int .i64 m, .int .i64 j] 33)) (w.heap.size + 1) (by simp) k0 n0 b0 a0 c0 q0 k1 n1 b1 a1 c1 q1 w0 w1
  go_enter Tryz.func104, Tryz.ntmps104
  go_wp2_with (go_at_call 66; refine (pw _).mono ?_; clear pw; rintro x v ⟨rfl, b⟩; replace Z := Z.kept b; replace Y := Y.kept b; clear b; obtain ⟨y0, y1, y2, y3, y4, y5, y6, y7, y8, y9, y10, y11, y12, y13, _, _, _, _, _, _, _, _, _, _, _, _, _, _⟩ := Y; obtain ⟨⟨r0, r1, r2, r3, r4, _, _, _, _, _⟩, _⟩ := id Z)
  clear y0 y1 y2 y3 y4 y5 y6 y7 y8 y9 y10 y11 y12 y13 r0 r1 r2 r3 r4
  go_loopw [46] (fun i wr => (i = .int .i64 0 ∨ i = .int .i64 1 ∨ i = .int .i64 2) ∧ RSt w k0 k1 r m j wr) (fun i _ => 2 - (intOf i).toNat)
  case atStart => exact ⟨.inl rfl, Z⟩
  case round =>
    clear Z
    obtain ⟨rfl | rfl | rfl, Z⟩ := hrel
    · have Q := C.Ctl.new wr _ rfl k0 n0 b0 a0 c0 q0
      obtain ⟨u0, u1, u2, u3, u4, u5, _, _, _, _, _, _⟩ := id Q
      replace Z := Z.kept (balloc (Below.refl _ _) (.cells #[.int .i64 k0, .int .i64 n0, .int .i64 b0, .int .i64 a0, .int .i64 c0, .int .i64 q0] 42))
      go_wp2_with (go_at_call 105; refine (x0 _).mono ?_; clear x0 u0 u1 u2 u3 u4 u5; rintro x v1 ⟨rfl, b⟩; replace Z := (Z.kept b).kept (balloc (Below.refl _ _) (.cells #[.int .i64 k2, .int .i64 n2, .int .i64 b2, .int .i64 a2, .int .i64 c2, .int .i64 q2] 42)); replace Q := (Q.kept b).alloc (.cells #[.int .i64 k2, .int .i64 n2, .int .i64 b2, .int .i64 a2, .int .i64 c2, .int .i64 q2] 42); clear b; obtain ⟨u0, _, _, _, _, _, _, _, _, _, _, _⟩ := Q; obtain ⟨⟨r0, r1, _, _, _, _, _, _, _, _⟩, _⟩ := id Z)
      go_quiet (fail)
      go_wp2
      go_roundw
      case rel => exact ⟨.inr (.inl rfl), Z.kept (below_drewN (Below.refl _ _) _)⟩
      case measure => simp [intOf]
    · have Q := C.Ctl.new wr _ rfl k1 n1 b1 a1 c1 q1
      obtain ⟨u0, u1, u2, u3, u4, u5, _, _, _, _, _, _⟩ := id Q
      replace Z := Z.kept (balloc (Below.refl _ _) (.cells #[.int .i64 k1, .int .i64 n1, .int .i64 b1, .int .i64 a1, .int .i64 c1, .int .i64 q1] 42))
      go_wp2_with (go_at_call 105; refine (x1 _).mono ?_; clear x1 u0 u1 u2 u3 u4 u5; rintro x v1 ⟨rfl, b⟩; replace Z := (Z.kept b).kept (balloc (Below.refl _ _) (.cells #[.int .i64 k3, .int .i64 n3, .int .i64 b3, .int .i64 a3, .int .i64 c3, .int .i64 q3] 42)); replace Q := (Q.kept b).alloc (.cells #[.int .i64 k3, .int .i64 n3, .int .i64 b3, .int .i64 a3, .int .i64 c3, .int .i64 q3] 42); clear b; obtain ⟨u0, _, _, _, _, _, _, _, _, _, _, _⟩ := Q; obtain ⟨⟨r0, r1, _, _, _, _, _, _, _, _⟩, _⟩ := id Z)
      go_quiet (fail)
      go_wp2
      go_roundw
      case rel => exact ⟨.inr (.inr rfl), Z.kept (below_drewN (Below.refl _ _) _)⟩
      case measure => simp [intOf]
    · go_wp2
      go_ret
      exact ⟨rfl, Z.hB⟩

theorem pright_yes (r : Ru) (s : Sx) (h : pright r s) (w : World) :
    Calls Tryz.prog 104 #[.agg #[.int .i64 r.k0, .int .i64 r.k1, .int .i64 r.r, .int .i64 r.m, .int .i64 r.j], .agg #[.int .i64 s.f0.k, .int .i64 s.f0.n, .int .i64 s.f0.b, .int .i64 s.f0.a, .int .i64 s.f0.s, .int .i64 s.f0.q, .int .i64 s.f1.k, .int .i64 s.f1.n, .int .i64 s.f1.b, .int .i64 s.f1.a, .int .i64 s.f1.s, .int .i64 s.f1.q, .int .i64 s.w0, .int .i64 s.w1]] w fun e w' => e = .returned (.bool true) ∧ Below w.heap.size w w' := by
  have hi : inr 0 := by unfold inr; omega
  have pw := fun v => pwrong_is r 0 (wrong_ok.2 h.1) v
  have x0 := fun v => pnext_yes s.f0 0 h.2.1.1 hi v
  have x1 := fun v => pnext_yes s.f1 0 h.2.2.1.1 hi v
  have hr := h.1.2
  unfold ranges at hr
  obtain ⟨_, ⟨_, e0⟩, ⟨_, e1⟩, h5, h6, h7⟩ := h
  exact pright_of r.k0 r.k1 r.r r.m r.j s.f0.k s.f0.n s.f0.b s.f0.a s.f0.s s.f0.q s.f1.k s.f1.n s.f1.b s.f1.a s.f1.s s.f1.q s.w0 s.w1 _ _ _ _ _ _ _ _ _ _ _ _ w pw x0 x1 (decide_eq_false (by omega)) (decide_eq_false (by omega)) (decide_eq_false (by omega)) (by omega) (by omega) e0 e1

end Go.Proofs.YtjageagnclmnjaaGreatDoor.D


namespace Go.Proofs.YtjageagnclmnjaaGreatDoor.K
open Go.RowKit
attribute [local go_sem] idx0 idx1

set_option maxHeartbeats 3200000 in
theorem oright_not (r m a b s t : Int) (w : World) (t0 t1 t2 t3 t4 t5 t6 t7 : Bool) (h0 : decide (1 ≤ r) = t0) (h1 : decide (r ≤ 12) = t1) (h2 : decide (0 ≤ m) = t2) (h3 : decide (m ≤ 16) = t3) (h4 : decide (0 ≤ a) = t4) (h5 : decide (0 ≤ b) = t5) (h6 : decide (a ≤ 16) = t6) (h7 : decide (b ≤ 16 - min a 16) = t7) (ha : t4 = true → 0 ≤ a)
    (hn : (t0 && (t1 && (t2 && (t3 && (t4 && (t5 && (t6 && t7))))))) = false) :
    Calls Tryz.prog 138 #[.int .i64 r, .int .i64 m, .agg #[.int .i64 a, .int .i64 b], .agg #[.int .i64 s, .int .i64 t]] w fun e w' => e = .returned (.bool false) ∧ w' = (w.alloc (.cells #[.int .i64 a, .int .i64 b] 31)).alloc (.cells #[.int .i64 s, .int .i64 t] 31) := by
  cases t0
  case' true => cases t1
  case' true.true => cases t2
  case' true.true.true => cases t3
  case' true.true.true.true => cases t4
  case' true.true.true.true.true => cases t5
  case' true.true.true.true.true.true => cases t6
  case' true.true.true.true.true.true.true => obtain rfl : t7 = false := hn
  all_goals
    first | replace ha := ha rfl | clear ha
    try clear hn
    go_enter Tryz.func138, Tryz.ntmps138
    go_wp2
    go_loop [9, 51] (fun ok i => ok = .bool false ∧ (i = .int .i64 0 ∨ i = .int .i64 1 ∨ i = .int .i64 2)) (fun _ i => 2 - (intOf i).toNat)
    case atStart => exact ⟨rfl, .inl rfl⟩
    case round =>
      obtain ⟨rfl, rfl | rfl | rfl⟩ := hrel
      · go_wp2
        go_round
        case rel => exact ⟨rfl, .inr (.inl rfl)⟩
        case measure => simp [intOf]
      · go_wp2
        go_round
        case rel => exact ⟨rfl, .inr (.inr rfl)⟩
        case measure => simp [intOf]
      · go_wp2
        go_ret
        exact ⟨rfl, rfl⟩

set_option maxHeartbeats 3200000 in
theorem oright_yes (r m a b s t : Int) (w : World) (h0 : 1 ≤ r) (h1 : r ≤ 12) (h2 : 0 ≤ m) (h3 : m ≤ 16) (h4 : 0 ≤ a) (h5 : 0 ≤ b) (h6 : a ≤ 16) (h7 : b ≤ 16 - min a 16) (x0 x1 y0 y1 : Bool) (k0 : decide (0 ≤ s) = x0) (k1 : decide (s ≤ 12) = x1) (j0 : decide (0 ≤ t) = y0) (j1 : decide (t ≤ 12) = y1) :
    Calls Tryz.prog 138 #[.int .i64 r, .int .i64 m, .agg #[.int .i64 a, .int .i64 b], .agg #[.int .i64 s, .int .i64 t]] w fun e w' => e = .returned (.bool (x0 && x1 && (y0 && y1))) ∧ w' = (w.alloc (.cells #[.int .i64 a, .int .i64 b] 31)).alloc (.cells #[.int .i64 s, .int .i64 t] 31) := by
  go_enter Tryz.func138, Tryz.ntmps138
  go_wp2
  go_loop [9, 51] (fun ok i => i = .int .i64 0 ∧ ok = .bool true ∨ i = .int .i64 1 ∧ ok = .bool (x0 && x1) ∨ i = .int .i64 2 ∧ ok = .bool (x0 && x1 && (y0 && y1))) (fun _ i => 2 - (intOf i).toNat)
  case atStart => exact .inl ⟨rfl, rfl⟩
  case round =>
    obtain ⟨rfl, rfl⟩ | ⟨rfl, rfl⟩ | ⟨rfl, rfl⟩ := hrel
    · cases x0
      case' true => cases x1
      all_goals
        go_wp2
        go_round
        case rel => exact .inr (.inl ⟨rfl, rfl⟩)
        case measure => simp [intOf]
    · generalize (x0 && x1) = z
      cases z
      case' true => cases y0
      case' true.true => cases y1
      all_goals
        go_wp2
        go_round
        case rel => exact .inr (.inr ⟨rfl, rfl⟩)
        case measure => simp [intOf]
    · go_wp2
      go_ret
      exact ⟨rfl, rfl⟩

theorem oright_any (r m a b s t : Int) (w : World) :
    Calls Tryz.prog 138 #[.int .i64 r, .int .i64 m, .agg #[.int .i64 a, .int .i64 b], .agg #[.int .i64 s, .int .i64 t]] w fun e w' => e = .returned (.bool (decide (lr r m a b s t))) ∧ w' = (w.alloc (.cells #[.int .i64 a, .int .i64 b] 31)).alloc (.cells #[.int .i64 s, .int .i64 t] 31) := by
  by_cases h : 1 ≤ r ∧ r ≤ 12 ∧ 0 ≤ m ∧ m ≤ 16 ∧ 0 ≤ a ∧ 0 ≤ b ∧ a ≤ 16 ∧ b ≤ 16 - min a 16
  · obtain ⟨h0, h1, h2, h3, h4, h5, h6, h7⟩ := h
    refine (oright_yes r m a b s t w h0 h1 h2 h3 h4 h5 h6 h7 _ _ _ _ rfl rfl rfl rfl).mono ?_
    rintro e w' ⟨rfl, rfl⟩
    refine ⟨?_, rfl⟩
    congr 2
    rw [Bool.eq_iff_iff]
    simp only [Bool.and_eq_true, decide_eq_true_iff]
    unfold lr
    omega
  · rw [show decide (lr r m a b s t) = false from decide_eq_false (fun k => h (by unfold lr at k; omega))]
    refine oright_not r m a b s t w _ _ _ _ _ _ _ _ rfl rfl rfl rfl rfl rfl rfl rfl (fun k => of_decide_eq_true k) ?_
    rw [Bool.eq_false_iff]
    intro k
    simp only [Bool.and_eq_true, decide_eq_true_iff] at k
    exact h (by omega)

set_option maxHeartbeats 1600000 in
set_option linter.unusedVariables false in
theorem upto_of (n a b s t o0 o1 k h g x y q0 q1 : Int) (w : World) (hn : 0 ≤ n ∧ n ≤ 28) (ha : 0 ≤ a ∧ a ≤ 16) (hb : 0 ≤ b ∧ b ≤ 16) (hs : 0 ≤ s ∧ s ≤ 12) (ht : 0 ≤ t ∧ t ≤ 12) (e0 : min n a = o0) (e1 : min (n - o0) b = o1) (e2 : n - (o0 + o1) = k) (e3 : min s t = h) (e4 : min k (s + t) = g) (d0 : (k + 1).tdiv 2 = q0) (d1 : k.tdiv 2 = q1)
    (i0 : 0 ≤ o0 ∧ o0 ≤ 16) (i1 : 0 ≤ o1 ∧ o1 ≤ 16) (i2 : 0 ≤ k ∧ k ≤ 28) (i3 : 0 ≤ h ∧ h ≤ 12) (i4 : 0 ≤ g ∧ g ≤ 28) (i5 : 0 ≤ q0 ∧ q0 ≤ 28) (i6 : 0 ≤ q1 ∧ q1 ≤ 28)
    (hc : k ≤ 2 * h ∧ x = o0 + q0 ∧ y = o1 + q1 ∨ decide (k ≤ 2 * h) = false ∧ h < s ∧ x = o0 + g - h ∧ y = o1 + h ∨ decide (k ≤ 2 * h) = false ∧ decide (h < s) = false ∧ x = o0 + h ∧ y = o1 + g - h) :
    Calls Tryz.prog 139 #[.int .i64 n, .agg #[.int .i64 a, .int .i64 b], .agg #[.int .i64 s, .int .i64 t]] w fun e w' => e = .returned (.agg #[.int .i64 x, .int .i64 y]) ∧ Below w.heap.size w w' := by
  rcases hc with ⟨c0, rfl, rfl⟩ | ⟨c0, c1, rfl, rfl⟩ | ⟨c0, c1, rfl, rfl⟩
  all_goals
    go_enter Tryz.func139, Tryz.ntmps139
    go_wp2
    refine bodyPost_ret (by simp [results, Tryz.results139, go_sem]) rfl ⟨rfl, ?_⟩
    exact balloc (balloc (balloc (balloc (Below.refl _ _) _) _) _) _

theorem upto_any (n a b s t : Int) (w : World) (hn : 0 ≤ n ∧ n ≤ 28) (ha : 0 ≤ a ∧ a ≤ 16) (hb : 0 ≤ b ∧ b ≤ 16) (hs : 0 ≤ s ∧ s ≤ 12) (ht : 0 ≤ t ∧ t ≤ 12) :
    Calls Tryz.prog 139 #[.int .i64 n, .agg #[.int .i64 a, .int .i64 b], .agg #[.int .i64 s, .int .i64 t]] w fun e w' => e = .returned (.agg #[.int .i64 (u0 n a b s t), .int .i64 (u1 n a b s t)]) ∧ Below w.heap.size w w' := by
  have p0 : (n - (min n a + min (n - min n a) b) + 1).tdiv 2 = (n - (min n a + min (n - min n a) b) + 1) / 2 := Int.tdiv_eq_ediv_of_nonneg (by omega)
  have p1 : (n - (min n a + min (n - min n a) b)).tdiv 2 = (n - (min n a + min (n - min n a) b)) / 2 := Int.tdiv_eq_ediv_of_nonneg (by omega)
  refine upto_of n a b s t _ _ _ _ _ _ _ _ _ w hn ha hb hs ht rfl rfl rfl rfl rfl p0 p1 (by omega) (by omega) (by omega) (by omega) (by omega) (by omega) (by omega) ?_
  unfold u0 u1
  by_cases h1 : n - (min n a + min (n - min n a) b) ≤ 2 * min s t
  · rw [if_pos h1, if_pos h1]
    exact .inl ⟨h1, rfl, rfl⟩
  · rw [if_neg h1, if_neg h1]
    by_cases h2 : s > min s t
    · rw [if_pos h2, if_pos h2]
      exact .inr (.inl ⟨decide_eq_false h1, h2, rfl, rfl⟩)
    · rw [if_neg h2, if_neg h2]
      exact .inr (.inr ⟨decide_eq_false h1, decide_eq_false h2, rfl, rfl⟩)

end Go.Proofs.YtjageagnclmnjaaGreatDoor.K
