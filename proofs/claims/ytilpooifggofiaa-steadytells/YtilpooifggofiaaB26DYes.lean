/- PROVED: what duel.Right answers, at every argument. CONDITIONS: none beyond each theorem's own. -/
import Derived.Test.YtilpooifggofiaaB22DOwn
import Derived.Test.YtilpooifggofiaaB23CCtl
import Derived.Test.YtilpooifggofiaaB24CRight
import Derived.Test.YtilpooifggofiaaB25LRight
import Derived.Shelf.Abstract
import Derived.Deep.RegionHeld3
namespace Go.Proofs.Ytilpooifggofiaa.D
open Go.RowKit K
attribute [local go_sem] idx0 idx1

set_option maxHeartbeats 3200000 in
theorem right_wrong (p0 p1 r m j k0 n0 b0 a0 c0 q0 k1 n1 b1 a1 c1 q1 w0 w1 E : Int) (he : (E != 0) = true) (w : World)
    (p : ∀ v, Calls Try.prog 33 #[.agg #[.int .i64 p0, .int .i64 p1, .int .i64 r, .int .i64 m, .int .i64 j]] v fun e w' => e = .returned (.int .i64 E) ∧ Below v.heap.size v w') :
    Calls Try.prog 53 #[.agg #[.int .i64 p0, .int .i64 p1, .int .i64 r, .int .i64 m, .int .i64 j], .agg #[.int .i64 k0, .int .i64 n0, .int .i64 b0, .int .i64 a0, .int .i64 c0, .int .i64 q0, .int .i64 k1, .int .i64 n1, .int .i64 b1, .int .i64 a1, .int .i64 c1, .int .i64 q1, .int .i64 w0, .int .i64 w1]] w fun x w' => x = .returned (.bool false) ∧ Below w.heap.size w w' := by
  have X := (Rul.new w _ rfl p0 p1 r m j).alloc (.cells #[.int .i64 k0, .int .i64 n0, .int .i64 b0, .int .i64 a0, .int .i64 c0, .int .i64 q0, .int .i64 k1, .int .i64 n1, .int .i64 b1, .int .i64 a1, .int .i64 c1, .int .i64 q1, .int .i64 w0, .int .i64 w1] 48)
  have B : Below w.heap.size w ((w.alloc (.cells #[.int .i64 p0, .int .i64 p1, .int .i64 r, .int .i64 m, .int .i64 j] 24)).alloc (.cells #[.int .i64 k0, .int .i64 n0, .int .i64 b0, .int .i64 a0, .int .i64 c0, .int .i64 q0, .int .i64 k1, .int .i64 n1, .int .i64 b1, .int .i64 a1, .int .i64 c1, .int .i64 q1, .int .i64 w0, .int .i64 w1] 48)) := balloc (balloc (Below.refl _ _) _) _
  obtain ⟨x0, x1, x2, x3, x4, _, _, _, _, _⟩ := id X
  go_enter Try.func53, Try.ntmps53
  go_wp2_with (go_at_call 33; refine (p _).mono ?_; clear p x0 x1 x2 x3 x4; rintro x v ⟨rfl, b⟩; replace B := bthen B b)
  go_ret
  exact ⟨rfl, B⟩

set_option maxHeartbeats 6400000 in
theorem right_of (p0 p1 r m j k0 n0 b0 a0 c0 q0 k1 n1 b1 a1 c1 q1 w0 w1 : Int) (t0 t1 t2 t3 : Bool) (P0 Q0 S0 P1 Q1 S1 : Nat) (w : World)
    (p : ∀ v, Calls Try.prog 33 #[.agg #[.int .i64 p0, .int .i64 p1, .int .i64 r, .int .i64 m, .int .i64 j]] v fun e w' => e = .returned (.int .i64 0) ∧ Below v.heap.size v w')
    (s0 : ∀ v, Calls Try.prog 34 #[.int .i64 p0] v fun e w' => e = .returned (.tuple #[.agg #[.func (.func P0) #[] #[], .func (.func Q0) #[] #[], .func (.func S0) #[] #[]], .bool true]) ∧ Below v.heap.size v w')
    (s1 : ∀ v, Calls Try.prog 34 #[.int .i64 p1] v fun e w' => e = .returned (.tuple #[.agg #[.func (.func P1) #[] #[], .func (.func Q1) #[] #[], .func (.func S1) #[] #[]], .bool true]) ∧ Below v.heap.size v w')
    (e0 : ∀ args w, (callFunc Q0 args).run Try.prog w = .ok (.enter Q0 args) w) (e1 : ∀ args w, (callFunc Q1 args).run Try.prog w = .ok (.enter Q1 args) w)
    (g0 : ∀ v, Calls Try.prog Q0 #[.agg #[.int .i64 k0, .int .i64 n0, .int .i64 b0, .int .i64 a0, .int .i64 c0, .int .i64 q0]] v fun e w' => e = .returned (.bool t0) ∧ Below v.heap.size v w')
    (g1 : ∀ v, Calls Try.prog Q1 #[.agg #[.int .i64 k1, .int .i64 n1, .int .i64 b1, .int .i64 a1, .int .i64 c1, .int .i64 q1]] v fun e w' => e = .returned (.bool t1) ∧ Below v.heap.size v w')
    (h2 : ∀ v, Calls Try.prog 43 #[.int .i64 w0, .int .i64 0, .int .i64 m] v fun e w' => e = .returned (.bool t2) ∧ w' = v)
    (h3 : ∀ v, Calls Try.prog 43 #[.int .i64 w1, .int .i64 0, .int .i64 (m - w0)] v fun e w' => e = .returned (.bool t3) ∧ w' = v)
    (hb : t2 = true → (0 ≤ w0 ∧ w0 ≤ 16) ∧ (0 ≤ m ∧ m ≤ 16)) :
    Calls Try.prog 53 #[.agg #[.int .i64 p0, .int .i64 p1, .int .i64 r, .int .i64 m, .int .i64 j], .agg #[.int .i64 k0, .int .i64 n0, .int .i64 b0, .int .i64 a0, .int .i64 c0, .int .i64 q0, .int .i64 k1, .int .i64 n1, .int .i64 b1, .int .i64 a1, .int .i64 c1, .int .i64 q1, .int .i64 w0, .int .i64 w1]] w fun x w' => x = .returned (.bool (t0 && (t1 && (t2 && t3)))) ∧ Below w.heap.size w w' := by
  have X := (Rul.new w _ rfl p0 p1 r m j).alloc (.cells #[.int .i64 k0, .int .i64 n0, .int .i64 b0, .int .i64 a0, .int .i64 c0, .int .i64 q0, .int .i64 k1, .int .i64 n1, .int .i64 b1, .int .i64 a1, .int .i64 c1, .int .i64 q1, .int .i64 w0, .int .i64 w1] 48)
  have Y := Sta.new (w.alloc (.cells #[.int .i64 p0, .int .i64 p1, .int .i64 r, .int .i64 m, .int .i64 j] 24)) (w.heap.size + 1) (by simp) k0 n0 b0 a0 c0 q0 k1 n1 b1 a1 c1 q1 w0 w1
  have B : Below w.heap.size w ((w.alloc (.cells #[.int .i64 p0, .int .i64 p1, .int .i64 r, .int .i64 m, .int .i64 j] 24)).alloc (.cells #[.int .i64 k0, .int .i64 n0, .int .i64 b0, .int .i64 a0, .int .i64 c0, .int .i64 q0, .int .i64 k1, .int .i64 n1, .int .i64 b1, .int .i64 a1, .int .i64 c1, .int .i64 q1, .int .i64 w0, .int .i64 w1] 48)) := balloc (balloc (Below.refl _ _) _) _
  obtain ⟨x0, x1, x2, x3, x4, _, _, _, _, _⟩ := id X
  go_enter Try.func53, Try.ntmps53
  go_wp2_with (go_at_call 33; refine (p _).mono ?_; clear p x0 x1 x2 x3 x4; rintro x v ⟨rfl, b⟩; replace X := X.kept b; replace Y := Y.kept b; replace B := bthen B b; obtain ⟨x0, x1, x2, x3, x4, _, _, _, _, _⟩ := id X)
  clear x0 x1 x2 x3 x4
  go_loopw [14] (fun i wr => (i = .int .i64 0 ∨ i = .int .i64 1 ∧ t0 = true ∨ i = .int .i64 2 ∧ t0 = true ∧ t1 = true) ∧ Rul wr w.heap.size p0 p1 r m j ∧ Sta wr (w.heap.size + 1) k0 n0 b0 a0 c0 q0 k1 n1 b1 a1 c1 q1 w0 w1 ∧ Below w.heap.size w wr) (fun i _ => 2 - (intOf i).toNat)
  case atStart => exact ⟨.inl rfl, X, Y, B⟩
  case round =>
    clear X Y B
    obtain ⟨rfl | ⟨rfl, rfl⟩ | ⟨rfl, rfl, rfl⟩, X, Y, B⟩ := hrel
    · clear s1 e1 g1 h2 h3 hb
      go_wp2_with (go_at_call 34; refine (s0 _).mono ?_; clear s0; rintro x v1 ⟨rfl, b⟩; replace X := (X.kept b).alloc (.cells #[.func (.func P0) #[] #[], .func (.func Q0) #[] #[], .func (.func S0) #[] #[]] 94); replace Y := (Y.kept b).alloc (.cells #[.func (.func P0) #[] #[], .func (.func Q0) #[] #[], .func (.func S0) #[] #[]] 94); replace B := balloc (bthen B b) (.cells #[.func (.func P0) #[] #[], .func (.func Q0) #[] #[], .func (.func S0) #[] #[]] 94); have F := Snd.new v1 _ rfl P0 Q0 S0; clear b)
      go_region_held3 (fun w' => w'.cell? ⟨v1.heap.size, 1, none⟩ = some (.func (.func Q0) #[] #[]) ∧ w'.cell? ⟨w.heap.size + 1, 0, none⟩ = some (.int .i64 k0) ∧ w'.cell? ⟨w.heap.size + 1, 1, none⟩ = some (.int .i64 n0) ∧ w'.cell? ⟨w.heap.size + 1, 2, none⟩ = some (.int .i64 b0) ∧ w'.cell? ⟨w.heap.size + 1, 3, none⟩ = some (.int .i64 a0) ∧ w'.cell? ⟨w.heap.size + 1, 4, none⟩ = some (.int .i64 c0) ∧ w'.cell? ⟨w.heap.size + 1, 5, none⟩ = some (.int .i64 q0)) (first | with_reducible exact ⟨F.c1, Y.c0, Y.c1, Y.c2, Y.c3, Y.c4, Y.c5⟩ | with_reducible exact ⟨F.drew.c1, Y.drew.c0, Y.drew.c1, Y.drew.c2, Y.drew.c3, Y.drew.c4, Y.drew.c5⟩ | go_keep)
        (first | (refine (g0 _).mono ?_; clear g0; rintro x v2 ⟨rfl, b⟩; replace X := X.drew.kept b; replace Y := Y.drew.kept b; replace F := F.drew.kept b; replace B := bthen B.drew b; clear b))
      cases t0
      all_goals go_wp2
      · go_ret
        exact ⟨rfl, B⟩
      · go_roundw
        case rel => exact ⟨.inr (.inl ⟨rfl, by first | rfl | trivial⟩), X, Y, B⟩
        case measure => simp [intOf]
    · clear s0 e0 g0 h2 h3 hb
      go_wp2_with (go_at_call 34; refine (s1 _).mono ?_; clear s1; rintro x v1 ⟨rfl, b⟩; replace X := (X.kept b).alloc (.cells #[.func (.func P1) #[] #[], .func (.func Q1) #[] #[], .func (.func S1) #[] #[]] 94); replace Y := (Y.kept b).alloc (.cells #[.func (.func P1) #[] #[], .func (.func Q1) #[] #[], .func (.func S1) #[] #[]] 94); replace B := balloc (bthen B b) (.cells #[.func (.func P1) #[] #[], .func (.func Q1) #[] #[], .func (.func S1) #[] #[]] 94); have F := Snd.new v1 _ rfl P1 Q1 S1; clear b)
      go_region_held3 (fun w' => w'.cell? ⟨v1.heap.size, 1, none⟩ = some (.func (.func Q1) #[] #[]) ∧ w'.cell? ⟨w.heap.size + 1, 6, none⟩ = some (.int .i64 k1) ∧ w'.cell? ⟨w.heap.size + 1, 7, none⟩ = some (.int .i64 n1) ∧ w'.cell? ⟨w.heap.size + 1, 8, none⟩ = some (.int .i64 b1) ∧ w'.cell? ⟨w.heap.size + 1, 9, none⟩ = some (.int .i64 a1) ∧ w'.cell? ⟨w.heap.size + 1, 10, none⟩ = some (.int .i64 c1) ∧ w'.cell? ⟨w.heap.size + 1, 11, none⟩ = some (.int .i64 q1)) (first | with_reducible exact ⟨F.c1, Y.c6, Y.c7, Y.c8, Y.c9, Y.c10, Y.c11⟩ | with_reducible exact ⟨F.drew.c1, Y.drew.c6, Y.drew.c7, Y.drew.c8, Y.drew.c9, Y.drew.c10, Y.drew.c11⟩ | go_keep)
        (first | (refine (g1 _).mono ?_; clear g1; rintro x v2 ⟨rfl, b⟩; replace X := X.drew.kept b; replace Y := Y.drew.kept b; replace F := F.drew.kept b; replace B := bthen B.drew b; clear b))
      cases t1
      all_goals go_wp2
      · go_ret
        exact ⟨rfl, B⟩
      · go_roundw
        case rel => exact ⟨.inr (.inr ⟨rfl, by first | rfl | trivial, by first | rfl | trivial⟩), X, Y, B⟩
        case measure => simp [intOf]
    · clear s0 s1 e0 e1 g0 g1
      obtain ⟨_, _, _, x3, _, _, _, _, _, _⟩ := id X
      obtain ⟨y0, y1, y2, y3, y4, y5, y6, y7, y8, y9, y10, y11, y12, y13, _, _, _, _, _, _, _, _, _, _, _, _, _, _⟩ := id Y
      cases t2
      · clear hb
        go_wp2_with (go_at_call 43; refine (h2 _).mono ?_; clear h2; rintro x v1 ⟨rfl, rfl⟩)
        go_ret
        exact ⟨rfl, B⟩
      · obtain ⟨⟨u0, u1⟩, u2, u3⟩ := hb rfl
        clear hb
        go_wp2_with (first
          | (go_at_call 43; refine (h2 _).mono ?_; clear h2; rintro x v1 ⟨rfl, rfl⟩)
          | (go_at_call 43; refine (h3 _).mono ?_; clear h3; rintro x v1 ⟨rfl, rfl⟩))
        go_ret
        exact ⟨rfl, B⟩

/-- right by the kind that the rules name -/
theorem rts (k : Int) (h : 1 ≤ k ∧ k ≤ 3) (c : Ct) : (∀ args w, (callFunc (rtF k) args).run Try.prog w = .ok (.enter (rtF k) args) w) ∧ ∀ v, Calls Try.prog (rtF k) #[.agg #[.int .i64 c.k, .int .i64 c.n, .int .i64 c.b, .int .i64 c.a, .int .i64 c.s, .int .i64 c.q]] v fun e w' => e = .returned (.bool (decide (cright c ∧ c.k = k))) ∧ Below v.heap.size v w' := by
  obtain rfl | rfl | rfl : k = 1 ∨ k = 2 ∨ k = 3 := by omega
  · refine ⟨enters_of Try.func45 (by kernel_rfl) rfl, fun v => (V.right_any c.k c.n c.b c.a c.s c.q v).mono fun e w' q => ⟨q.1.trans ?_, q.2⟩⟩
    rw [show decide (V.kright c.k c.n c.b c.a c.s c.q) = decide (cright c ∧ c.k = 1) by
      rw [decide_eq_decide]; unfold V.kright cright kright lright mright; omega]
  · refine ⟨enters_of Try.func48 (by kernel_rfl) rfl, fun v => (C.right_any c.k c.n c.b c.a c.s c.q v).mono fun e w' q => ⟨q.1.trans ?_, q.2⟩⟩
    rw [show decide (C.lright c.k c.n c.b c.a c.s c.q) = decide (cright c ∧ c.k = 2) by
      rw [decide_eq_decide]; unfold C.lright cright kright lright mright; omega]
  · refine ⟨enters_of Try.func51 (by kernel_rfl) rfl, fun v => (L.right_any c.k c.n c.b c.a c.s c.q v).mono fun e w' q => ⟨q.1.trans ?_, q.2⟩⟩
    rw [show decide (L.mright c.k c.n c.b c.a c.s c.q) = decide (cright c ∧ c.k = 3) by
      rw [decide_eq_decide]; unfold L.mright cright kright lright mright; omega]

theorem right_any (r : Ru) (s : Sx) (w : World) :
    Calls Try.prog 53 #[.agg #[.int .i64 r.k0, .int .i64 r.k1, .int .i64 r.r, .int .i64 r.m, .int .i64 r.j], .agg #[.int .i64 s.f0.k, .int .i64 s.f0.n, .int .i64 s.f0.b, .int .i64 s.f0.a, .int .i64 s.f0.s, .int .i64 s.f0.q, .int .i64 s.f1.k, .int .i64 s.f1.n, .int .i64 s.f1.b, .int .i64 s.f1.a, .int .i64 s.f1.s, .int .i64 s.f1.q, .int .i64 s.w0, .int .i64 s.w1]] w fun x w' => x = .returned (.bool (decide (pright r s))) ∧ Below w.heap.size w w' := by
  by_cases h : wrong r = 0
  · have hk := (wrong_ok.1 h)
    have hk1 := hk.1
    have hk2 := hk.2
    unfold kinds at hk1
    unfold ranges at hk2
    refine (right_of r.k0 r.k1 r.r r.m r.j s.f0.k s.f0.n s.f0.b s.f0.a s.f0.s s.f0.q s.f1.k s.f1.n s.f1.b s.f1.a s.f1.s s.f1.q s.w0 s.w1 _ _ _ _ _ _ _ _ _ _ w (fun v => wrong_is r 0 h v) (fun v => sender_yes r.k0 hk1.1 v) (fun v => sender_yes r.k1 hk1.2 v) (rts r.k0 hk1.1 s.f0).1 (rts r.k1 hk1.2 s.f1).1 (rts r.k0 hk1.1 s.f0).2 (rts r.k1 hk1.2 s.f1).2 (fun v => within_any _ _ _ v) (fun v => within_any _ _ _ v) (fun e => ?_)).mono fun e w' q => ⟨q.1.trans ?_, q.2⟩
    · simp only [Bool.and_eq_true, decide_eq_true_iff] at e
      omega
    · congr 2
      rw [Bool.eq_iff_iff]
      simp only [Bool.and_eq_true, decide_eq_true_iff]
      unfold pright
      constructor
      · rintro ⟨a, b, c, d⟩
        exact ⟨hk, a, b, by omega, by omega, by omega⟩
      · rintro ⟨_, a, b, c, d, f⟩
        exact ⟨a, b, by omega, by omega⟩
  · rw [show decide (pright r s) = false from decide_eq_false fun q => h (wrong_ok.2 q.1)]
    exact right_wrong r.k0 r.k1 r.r r.m r.j s.f0.k s.f0.n s.f0.b s.f0.a s.f0.s s.f0.q s.f1.k s.f1.n s.f1.b s.f1.a s.f1.s s.f1.q s.w0 s.w1 _ (by simpa using h) w (fun v => wrong_any r v)
theorem right_is (r : Ru) (s : Sx) (t : Bool) (h : decide (pright r s) = t) (w : World) :
    Calls Try.prog 53 #[.agg #[.int .i64 r.k0, .int .i64 r.k1, .int .i64 r.r, .int .i64 r.m, .int .i64 r.j], .agg #[.int .i64 s.f0.k, .int .i64 s.f0.n, .int .i64 s.f0.b, .int .i64 s.f0.a, .int .i64 s.f0.s, .int .i64 s.f0.q, .int .i64 s.f1.k, .int .i64 s.f1.n, .int .i64 s.f1.b, .int .i64 s.f1.a, .int .i64 s.f1.s, .int .i64 s.f1.q, .int .i64 s.w0, .int .i64 s.w1]] w fun x w' => x = .returned (.bool t) ∧ Below w.heap.size w w' := by subst h; exact right_any r s w

end Go.Proofs.Ytilpooifggofiaa.D
