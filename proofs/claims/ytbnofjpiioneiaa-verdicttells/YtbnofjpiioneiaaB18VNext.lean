/- PROVED: what duel.Right answers, at every argument. what vegas.Next answers. CONDITIONS: none beyond each theorem's own. -/
import Derived.Test.YtbnofjpiioneiaaB16CCtl
import Derived.Test.YtbnofjpiioneiaaB17LRight
import Derived.Shelf.Abstract
import Derived.Deep.RegionHeld3
namespace Go.Proofs.Ytbnofjpiioneiaa.D
open Go.RowKit K
attribute [local go_sem] idx0 idx1

set_option maxHeartbeats 3200000 in
theorem right_wrong (p0 p1 r m j k0 n0 b0 a0 c0 q0 k1 n1 b1 a1 c1 q1 w0 w1 E : Int) (he : (E != 0) = true) (w : World)
    (p : ∀ v, Calls Try.prog 43 #[.agg #[.int .i64 p0, .int .i64 p1, .int .i64 r, .int .i64 m, .int .i64 j]] v fun e w' => e = .returned (.int .i64 E) ∧ Below v.heap.size v w') :
    Calls Try.prog 68 #[.agg #[.int .i64 p0, .int .i64 p1, .int .i64 r, .int .i64 m, .int .i64 j], .agg #[.int .i64 k0, .int .i64 n0, .int .i64 b0, .int .i64 a0, .int .i64 c0, .int .i64 q0, .int .i64 k1, .int .i64 n1, .int .i64 b1, .int .i64 a1, .int .i64 c1, .int .i64 q1, .int .i64 w0, .int .i64 w1]] w fun x w' => x = .returned (.bool false) ∧ Below w.heap.size w w' := by
  have X := (Rul.new w _ rfl p0 p1 r m j).alloc (.cells #[.int .i64 k0, .int .i64 n0, .int .i64 b0, .int .i64 a0, .int .i64 c0, .int .i64 q0, .int .i64 k1, .int .i64 n1, .int .i64 b1, .int .i64 a1, .int .i64 c1, .int .i64 q1, .int .i64 w0, .int .i64 w1] 38)
  have B : Below w.heap.size w ((w.alloc (.cells #[.int .i64 p0, .int .i64 p1, .int .i64 r, .int .i64 m, .int .i64 j] 24)).alloc (.cells #[.int .i64 k0, .int .i64 n0, .int .i64 b0, .int .i64 a0, .int .i64 c0, .int .i64 q0, .int .i64 k1, .int .i64 n1, .int .i64 b1, .int .i64 a1, .int .i64 c1, .int .i64 q1, .int .i64 w0, .int .i64 w1] 38)) := balloc (balloc (Below.refl _ _) _) _
  obtain ⟨x0, x1, x2, x3, x4, _, _, _, _, _⟩ := id X
  go_enter Try.func68, Try.ntmps68
  go_wp2_with (go_at_call 43; refine (p _).mono ?_; clear p x0 x1 x2 x3 x4; rintro x v ⟨rfl, b⟩; replace B := bthen B b)
  go_ret
  exact ⟨rfl, B⟩

set_option maxHeartbeats 6400000 in
theorem right_of (p0 p1 r m j k0 n0 b0 a0 c0 q0 k1 n1 b1 a1 c1 q1 w0 w1 : Int) (t0 t1 t2 t3 : Bool) (P0 Q0 S0 P1 Q1 S1 : Nat) (w : World)
    (p : ∀ v, Calls Try.prog 43 #[.agg #[.int .i64 p0, .int .i64 p1, .int .i64 r, .int .i64 m, .int .i64 j]] v fun e w' => e = .returned (.int .i64 0) ∧ Below v.heap.size v w')
    (s0 : ∀ v, Calls Try.prog 44 #[.int .i64 p0] v fun e w' => e = .returned (.tuple #[.agg #[.func (.func P0) #[] #[], .func (.func Q0) #[] #[], .func (.func S0) #[] #[]], .bool true]) ∧ Below v.heap.size v w')
    (s1 : ∀ v, Calls Try.prog 44 #[.int .i64 p1] v fun e w' => e = .returned (.tuple #[.agg #[.func (.func P1) #[] #[], .func (.func Q1) #[] #[], .func (.func S1) #[] #[]], .bool true]) ∧ Below v.heap.size v w')
    (e0 : ∀ args w, (callFunc Q0 args).run Try.prog w = .ok (.enter Q0 args) w) (e1 : ∀ args w, (callFunc Q1 args).run Try.prog w = .ok (.enter Q1 args) w)
    (g0 : ∀ v, Calls Try.prog Q0 #[.agg #[.int .i64 k0, .int .i64 n0, .int .i64 b0, .int .i64 a0, .int .i64 c0, .int .i64 q0]] v fun e w' => e = .returned (.bool t0) ∧ Below v.heap.size v w')
    (g1 : ∀ v, Calls Try.prog Q1 #[.agg #[.int .i64 k1, .int .i64 n1, .int .i64 b1, .int .i64 a1, .int .i64 c1, .int .i64 q1]] v fun e w' => e = .returned (.bool t1) ∧ Below v.heap.size v w')
    (h2 : ∀ v, Calls Try.prog 58 #[.int .i64 w0, .int .i64 0, .int .i64 m] v fun e w' => e = .returned (.bool t2) ∧ w' = v)
    (h3 : ∀ v, Calls Try.prog 58 #[.int .i64 w1, .int .i64 0, .int .i64 (m - w0)] v fun e w' => e = .returned (.bool t3) ∧ w' = v)
    (hb : t2 = true → (0 ≤ w0 ∧ w0 ≤ 16) ∧ (0 ≤ m ∧ m ≤ 16)) :
    Calls Try.prog 68 #[.agg #[.int .i64 p0, .int .i64 p1, .int .i64 r, .int .i64 m, .int .i64 j], .agg #[.int .i64 k0, .int .i64 n0, .int .i64 b0, .int .i64 a0, .int .i64 c0, .int .i64 q0, .int .i64 k1, .int .i64 n1, .int .i64 b1, .int .i64 a1, .int .i64 c1, .int .i64 q1, .int .i64 w0, .int .i64 w1]] w fun x w' => x = .returned (.bool (t0 && (t1 && (t2 && t3)))) ∧ Below w.heap.size w w' := by
  have X := (Rul.new w _ rfl p0 p1 r m j).alloc (.cells #[.int .i64 k0, .int .i64 n0, .int .i64 b0, .int .i64 a0, .int .i64 c0, .int .i64 q0, .int .i64 k1, .int .i64 n1, .int .i64 b1, .int .i64 a1, .int .i64 c1, .int .i64 q1, .int .i64 w0, .int .i64 w1] 38)
  have Y := Sta.new (w.alloc (.cells #[.int .i64 p0, .int .i64 p1, .int .i64 r, .int .i64 m, .int .i64 j] 24)) (w.heap.size + 1) (by simp) k0 n0 b0 a0 c0 q0 k1 n1 b1 a1 c1 q1 w0 w1
  have B : Below w.heap.size w ((w.alloc (.cells #[.int .i64 p0, .int .i64 p1, .int .i64 r, .int .i64 m, .int .i64 j] 24)).alloc (.cells #[.int .i64 k0, .int .i64 n0, .int .i64 b0, .int .i64 a0, .int .i64 c0, .int .i64 q0, .int .i64 k1, .int .i64 n1, .int .i64 b1, .int .i64 a1, .int .i64 c1, .int .i64 q1, .int .i64 w0, .int .i64 w1] 38)) := balloc (balloc (Below.refl _ _) _) _
  obtain ⟨x0, x1, x2, x3, x4, _, _, _, _, _⟩ := id X
  go_enter Try.func68, Try.ntmps68
  go_wp2_with (go_at_call 43; refine (p _).mono ?_; clear p x0 x1 x2 x3 x4; rintro x v ⟨rfl, b⟩; replace X := X.kept b; replace Y := Y.kept b; replace B := bthen B b; obtain ⟨x0, x1, x2, x3, x4, _, _, _, _, _⟩ := id X)
  clear x0 x1 x2 x3 x4
  go_loopw [14] (fun i wr => (i = .int .i64 0 ∨ i = .int .i64 1 ∧ t0 = true ∨ i = .int .i64 2 ∧ t0 = true ∧ t1 = true) ∧ Rul wr w.heap.size p0 p1 r m j ∧ Sta wr (w.heap.size + 1) k0 n0 b0 a0 c0 q0 k1 n1 b1 a1 c1 q1 w0 w1 ∧ Below w.heap.size w wr) (fun i _ => 2 - (intOf i).toNat)
  case atStart => exact ⟨.inl rfl, X, Y, B⟩
  case round =>
    clear X Y B
    obtain ⟨rfl | ⟨rfl, rfl⟩ | ⟨rfl, rfl, rfl⟩, X, Y, B⟩ := hrel
    · clear s1 e1 g1 h2 h3 hb
      go_wp2_with (go_at_call 44; refine (s0 _).mono ?_; clear s0; rintro x v1 ⟨rfl, b⟩; replace X := (X.kept b).alloc (.cells #[.func (.func P0) #[] #[], .func (.func Q0) #[] #[], .func (.func S0) #[] #[]] 106); replace Y := (Y.kept b).alloc (.cells #[.func (.func P0) #[] #[], .func (.func Q0) #[] #[], .func (.func S0) #[] #[]] 106); replace B := balloc (bthen B b) (.cells #[.func (.func P0) #[] #[], .func (.func Q0) #[] #[], .func (.func S0) #[] #[]] 106); have F := Snd.new v1 _ rfl P0 Q0 S0; clear b)
      go_region_held3 (fun w' => w'.cell? ⟨v1.heap.size, 1, none⟩ = some (.func (.func Q0) #[] #[]) ∧ w'.cell? ⟨w.heap.size + 1, 0, none⟩ = some (.int .i64 k0) ∧ w'.cell? ⟨w.heap.size + 1, 1, none⟩ = some (.int .i64 n0) ∧ w'.cell? ⟨w.heap.size + 1, 2, none⟩ = some (.int .i64 b0) ∧ w'.cell? ⟨w.heap.size + 1, 3, none⟩ = some (.int .i64 a0) ∧ w'.cell? ⟨w.heap.size + 1, 4, none⟩ = some (.int .i64 c0) ∧ w'.cell? ⟨w.heap.size + 1, 5, none⟩ = some (.int .i64 q0)) (first | with_reducible exact ⟨F.c1, Y.c0, Y.c1, Y.c2, Y.c3, Y.c4, Y.c5⟩ | with_reducible exact ⟨F.drew.c1, Y.drew.c0, Y.drew.c1, Y.drew.c2, Y.drew.c3, Y.drew.c4, Y.drew.c5⟩ | go_keep)
        (first | (refine (g0 _).mono ?_; clear g0; rintro x v2 ⟨rfl, b⟩; replace X := X.drew.kept b; replace Y := Y.drew.kept b; replace F := F.drew.kept b; replace B := bthen B.drew b; clear b))
      cases t0
      all_goals go_wp2
      · go_ret
        exact ⟨rfl, B⟩
      · go_roundw
        case rel => exact ⟨.inr (.inl ⟨rfl, by first | rfl | trivial⟩), X, Y, B⟩
        case measure => simp [intOf]
    · clear s0 e0 g0 h2 h3 hb
      go_wp2_with (go_at_call 44; refine (s1 _).mono ?_; clear s1; rintro x v1 ⟨rfl, b⟩; replace X := (X.kept b).alloc (.cells #[.func (.func P1) #[] #[], .func (.func Q1) #[] #[], .func (.func S1) #[] #[]] 106); replace Y := (Y.kept b).alloc (.cells #[.func (.func P1) #[] #[], .func (.func Q1) #[] #[], .func (.func S1) #[] #[]] 106); replace B := balloc (bthen B b) (.cells #[.func (.func P1) #[] #[], .func (.func Q1) #[] #[], .func (.func S1) #[] #[]] 106); have F := Snd.new v1 _ rfl P1 Q1 S1; clear b)
      go_region_held3 (fun w' => w'.cell? ⟨v1.heap.size, 1, none⟩ = some (.func (.func Q1) #[] #[]) ∧ w'.cell? ⟨w.heap.size + 1, 6, none⟩ = some (.int .i64 k1) ∧ w'.cell? ⟨w.heap.size + 1, 7, none⟩ = some (.int .i64 n1) ∧ w'.cell? ⟨w.heap.size + 1, 8, none⟩ = some (.int .i64 b1) ∧ w'.cell? ⟨w.heap.size + 1, 9, none⟩ = some (.int .i64 a1) ∧ w'.cell? ⟨w.heap.size + 1, 10, none⟩ = some (.int .i64 c1) ∧ w'.cell? ⟨w.heap.size + 1, 11, none⟩ = some (.int .i64 q1)) (first | with_reducible exact ⟨F.c1, Y.c6, Y.c7, Y.c8, Y.c9, Y.c10, Y.c11⟩ | with_reducible exact ⟨F.drew.c1, Y.drew.c6, Y.drew.c7, Y.drew.c8, Y.drew.c9, Y.drew.c10, Y.drew.c11⟩ | go_keep)
        (first | (refine (g1 _).mono ?_; clear g1; rintro x v2 ⟨rfl, b⟩; replace X := X.drew.kept b; replace Y := Y.drew.kept b; replace F := F.drew.kept b; replace B := bthen B.drew b; clear b))
      cases t1
      all_goals go_wp2
      · go_ret
        exact ⟨rfl, B⟩
      · go_roundw
        case rel => exact ⟨.inr (.inr ⟨rfl, by first | rfl | trivial, by first | rfl | trivial⟩), X, Y, B⟩
        case measure => simp [intOf]
    · clear s0 s1 e0 e1 g0 g1
      obtain ⟨_, _, _, x3, _, _, _, _, _, _⟩ := id X
      obtain ⟨y0, y1, y2, y3, y4, y5, y6, y7, y8, y9, y10, y11, y12, y13, _, _, _, _, _, _, _, _, _, _, _, _, _, _⟩ := id Y
      cases t2
      · clear hb
        go_wp2_with (go_at_call 58; refine (h2 _).mono ?_; clear h2; rintro x v1 ⟨rfl, rfl⟩)
        go_ret
        exact ⟨rfl, B⟩
      · obtain ⟨⟨u0, u1⟩, u2, u3⟩ := hb rfl
        clear hb
        go_wp2_with (first
          | (go_at_call 58; refine (h2 _).mono ?_; clear h2; rintro x v1 ⟨rfl, rfl⟩)
          | (go_at_call 58; refine (h3 _).mono ?_; clear h3; rintro x v1 ⟨rfl, rfl⟩))
        go_ret
        exact ⟨rfl, B⟩

/-- right by the kind that the rules name -/
theorem rts (k : Int) (h : 1 ≤ k ∧ k ≤ 3) (c : Ct) : (∀ args w, (callFunc (rtF k) args).run Try.prog w = .ok (.enter (rtF k) args) w) ∧ ∀ v, Calls Try.prog (rtF k) #[.agg #[.int .i64 c.k, .int .i64 c.n, .int .i64 c.b, .int .i64 c.a, .int .i64 c.s, .int .i64 c.q]] v fun e w' => e = .returned (.bool (decide (cright c ∧ c.k = k))) ∧ Below v.heap.size v w' := by
  obtain rfl | rfl | rfl : k = 1 ∨ k = 2 ∨ k = 3 := by omega
  · refine ⟨enters_of Try.func60 (by kernel_rfl) rfl, fun v => (V.right_any c.k c.n c.b c.a c.s c.q v).mono fun e w' q => ⟨q.1.trans ?_, q.2⟩⟩
    rw [show decide (V.kright c.k c.n c.b c.a c.s c.q) = decide (cright c ∧ c.k = 1) by
      rw [decide_eq_decide]; unfold V.kright cright kright lright mright; omega]
  · refine ⟨enters_of Try.func63 (by kernel_rfl) rfl, fun v => (C.right_any c.k c.n c.b c.a c.s c.q v).mono fun e w' q => ⟨q.1.trans ?_, q.2⟩⟩
    rw [show decide (C.lright c.k c.n c.b c.a c.s c.q) = decide (cright c ∧ c.k = 2) by
      rw [decide_eq_decide]; unfold C.lright cright kright lright mright; omega]
  · refine ⟨enters_of Try.func66 (by kernel_rfl) rfl, fun v => (L.right_any c.k c.n c.b c.a c.s c.q v).mono fun e w' q => ⟨q.1.trans ?_, q.2⟩⟩
    rw [show decide (L.mright c.k c.n c.b c.a c.s c.q) = decide (cright c ∧ c.k = 3) by
      rw [decide_eq_decide]; unfold L.mright cright kright lright mright; omega]

theorem right_any (r : Ru) (s : Sx) (w : World) :
    Calls Try.prog 68 #[.agg #[.int .i64 r.k0, .int .i64 r.k1, .int .i64 r.r, .int .i64 r.m, .int .i64 r.j], .agg #[.int .i64 s.f0.k, .int .i64 s.f0.n, .int .i64 s.f0.b, .int .i64 s.f0.a, .int .i64 s.f0.s, .int .i64 s.f0.q, .int .i64 s.f1.k, .int .i64 s.f1.n, .int .i64 s.f1.b, .int .i64 s.f1.a, .int .i64 s.f1.s, .int .i64 s.f1.q, .int .i64 s.w0, .int .i64 s.w1]] w fun x w' => x = .returned (.bool (decide (pright r s))) ∧ Below w.heap.size w w' := by
  by_cases h : wrong r = 0
  · have hk := (wrong_ok.1 h)
    have hk1 := hk.1
    have hk2 := hk.2
    unfold kinds at hk1
    unfold ranges at hk2
    refine (right_of r.k0 r.k1 r.r r.m r.j s.f0.k s.f0.n s.f0.b s.f0.a s.f0.s s.f0.q s.f1.k s.f1.n s.f1.b s.f1.a s.f1.s s.f1.q s.w0 s.w1 _ _ _ _ _ _ _ _ _ _ w (fun v => wrong_is r 0 h v) (fun v => sender_yes r.k0 hk1.1 v) (fun v => sender_yes r.k1 hk1.2 v) (rts r.k0 hk1.1 s.f0).1 (rts r.k1 hk1.2 s.f1).1 (rts r.k0 hk1.1 s.f0).2 (rts r.k1 hk1.2 s.f1).2 (fun v => within_any _ _ _ v) (fun v => within_any _ _ _ v) (fun e => ?_)).mono fun e w' q => ⟨q.1.trans ?_, q.2⟩
    · simp only [Bool.and_eq_true, decide_eq_true_iff] at e
      omega
    · congr 2
      rw [Bool.eq_iff_iff]
      simp only [Bool.and_eq_true, decide_eq_true_iff]
      unfold pright
      constructor
      · rintro ⟨a, b, c, d⟩
        exact ⟨hk, a, b, by omega, by omega, by omega⟩
      · rintro ⟨_, a, b, c, d, f⟩
        exact ⟨a, b, by omega, by omega⟩
  · rw [show decide (pright r s) = false from decide_eq_false fun q => h (wrong_ok.2 q.1)]
    exact right_wrong r.k0 r.k1 r.r r.m r.j s.f0.k s.f0.n s.f0.b s.f0.a s.f0.s s.f0.q s.f1.k s.f1.n s.f1.b s.f1.a s.f1.s s.f1.q s.w0 s.w1 _ (by simpa using h) w (fun v => wrong_any r v)
theorem right_is (r : Ru) (s : Sx) (t : Bool) (h : decide (pright r s) = t) (w : World) :
    Calls Try.prog 68 #[.agg #[.int .i64 r.k0, .int .i64 r.k1, .int .i64 r.r, .int .i64 r.m, .int .i64 r.j], .agg #[.int .i64 s.f0.k, .int .i64 s.f0.n, .int .i64 s.f0.b, .int .i64 s.f0.a, .int .i64 s.f0.s, .int .i64 s.f0.q, .int .i64 s.f1.k, .int .i64 s.f1.n, .int .i64 s.f1.b, .int .i64 s.f1.a, .int .i64 s.f1.s, .int .i64 s.f1.q, .int .i64 s.w0, .int .i64 s.w1]] w fun x w' => x = .returned (.bool t) ∧ Below w.heap.size w w' := by subst h; exact right_any r s w

end Go.Proofs.Ytbnofjpiioneiaa.D

namespace Go.Proofs.Ytbnofjpiioneiaa.V
open Go.RowKit
set_option linter.unusedVariables false

/-- a control of the call's own, in block C -/
structure Ctl (w : World) (C : Nat) (k n b a s q : Int) : Prop where
  c0 : w.cell? ⟨C, 0, none⟩ = some (.int .i64 k)
  c1 : w.cell? ⟨C, 1, none⟩ = some (.int .i64 n)
  c2 : w.cell? ⟨C, 2, none⟩ = some (.int .i64 b)
  c3 : w.cell? ⟨C, 3, none⟩ = some (.int .i64 a)
  c4 : w.cell? ⟨C, 4, none⟩ = some (.int .i64 s)
  c5 : w.cell? ⟨C, 5, none⟩ = some (.int .i64 q)
  f0 : w.frozen? ⟨C, 0, none⟩ = false
  f1 : w.frozen? ⟨C, 1, none⟩ = false
  f2 : w.frozen? ⟨C, 2, none⟩ = false
  f3 : w.frozen? ⟨C, 3, none⟩ = false
  f4 : w.frozen? ⟨C, 4, none⟩ = false
  f5 : w.frozen? ⟨C, 5, none⟩ = false
theorem Ctl.new (w : World) (C : Nat) (hC : C = w.heap.size) (k n b a s q : Int) : Ctl (w.alloc (.cells #[.int .i64 k, .int .i64 n, .int .i64 b, .int .i64 a, .int .i64 s, .int .i64 q] 35)) C k n b a s q := by
  subst hC
  constructor
  all_goals first
    | (rw [World.cell?_alloc_at _ _ _ _ rfl]; rfl)
    | (rw [World.frozen?_alloc_at _ _ _ _ rfl])
theorem Ctl.kept {w w' : World} {C : Nat} {k n b a s q : Int} (h : Ctl w C k n b a s q) (g : Below w.heap.size w w') : Ctl w' C k n b a s q := by
  have hl : C < w.heap.size := block_lt h.c0
  have e : ∀ o, w'.cell? ⟨C, o, none⟩ = w.cell? ⟨C, o, none⟩ := fun o => g.cell (p := ⟨C, o, none⟩) hl
  have f : ∀ o, w'.frozen? ⟨C, o, none⟩ = w.frozen? ⟨C, o, none⟩ := fun o => g.frozen (p := ⟨C, o, none⟩) hl
  exact ⟨(e 0).trans h.c0, (e 1).trans h.c1, (e 2).trans h.c2, (e 3).trans h.c3, (e 4).trans h.c4, (e 5).trans h.c5, (f 0).trans h.f0, (f 1).trans h.f1, (f 2).trans h.f2, (f 3).trans h.f3, (f 4).trans h.f4, (f 5).trans h.f5⟩
theorem Ctl.alloc {w : World} {C : Nat} {k n b a s q : Int} (h : Ctl w C k n b a s q) (o : Obj) : Ctl (w.alloc o) C k n b a s q := h.kept (balloc (Below.refl _ _) o)
theorem Ctl.drewN {w : World} {C : Nat} {k n b a s q : Int} (h : Ctl w C k n b a s q) (m : Nat) : Ctl (w.drewN m) C k n b a s q := h.kept (below_drewN (Below.refl _ _) m)
theorem Ctl.set1 {w : World} {C : Nat} {k n b a s q : Int} (h : Ctl w C k n b a s q) (v : Int) : Ctl (w.setCell ⟨C, 1, none⟩ (.int .i64 v)) C k v b a s q :=
  ⟨(World.cell?_setCell_other _ _ _ _ (by simp)).trans h.c0, World.cell?_setCell_same _ _ _ h.c1, (World.cell?_setCell_other _ _ _ _ (by simp)).trans h.c2, (World.cell?_setCell_other _ _ _ _ (by simp)).trans h.c3, (World.cell?_setCell_other _ _ _ _ (by simp)).trans h.c4, (World.cell?_setCell_other _ _ _ _ (by simp)).trans h.c5,
    (World.frozen?_setCell _ _ _ _).trans h.f0, (World.frozen?_setCell _ _ _ _).trans h.f1, (World.frozen?_setCell _ _ _ _).trans h.f2, (World.frozen?_setCell _ _ _ _).trans h.f3, (World.frozen?_setCell _ _ _ _).trans h.f4, (World.frozen?_setCell _ _ _ _).trans h.f5⟩
theorem Ctl.set2 {w : World} {C : Nat} {k n b a s q : Int} (h : Ctl w C k n b a s q) (v : Int) : Ctl (w.setCell ⟨C, 2, none⟩ (.int .i64 v)) C k n v a s q :=
  ⟨(World.cell?_setCell_other _ _ _ _ (by simp)).trans h.c0, (World.cell?_setCell_other _ _ _ _ (by simp)).trans h.c1, World.cell?_setCell_same _ _ _ h.c2, (World.cell?_setCell_other _ _ _ _ (by simp)).trans h.c3, (World.cell?_setCell_other _ _ _ _ (by simp)).trans h.c4, (World.cell?_setCell_other _ _ _ _ (by simp)).trans h.c5,
    (World.frozen?_setCell _ _ _ _).trans h.f0, (World.frozen?_setCell _ _ _ _).trans h.f1, (World.frozen?_setCell _ _ _ _).trans h.f2, (World.frozen?_setCell _ _ _ _).trans h.f3, (World.frozen?_setCell _ _ _ _).trans h.f4, (World.frozen?_setCell _ _ _ _).trans h.f5⟩
theorem Ctl.far {w : World} {C D o : Nat} {k n b a s q : Int} (h : Ctl w C k n b a s q) (hD : D ≠ C) (v : Value) : Ctl (w.setCell ⟨D, o, none⟩ v) C k n b a s q := by
  have e : ∀ i, (w.setCell ⟨D, o, none⟩ v).cell? ⟨C, i, none⟩ = w.cell? ⟨C, i, none⟩ := fun i => World.cell?_setCell_other _ _ _ _ (fun p => hD (by injection p))
  have f : ∀ i, (w.setCell ⟨D, o, none⟩ v).frozen? ⟨C, i, none⟩ = w.frozen? ⟨C, i, none⟩ := fun i => World.frozen?_setCell _ _ _ _
  exact ⟨(e 0).trans h.c0, (e 1).trans h.c1, (e 2).trans h.c2, (e 3).trans h.c3, (e 4).trans h.c4, (e 5).trans h.c5, (f 0).trans h.f0, (f 1).trans h.f1, (f 2).trans h.f2, (f 3).trans h.f3, (f 4).trans h.f4, (f 5).trans h.f5⟩
/-- what lies there behind Right -/
theorem two {w w1 : World} {k n b a s q : Int} (hb : Below ((w.alloc (.cells #[.int .i64 k, .int .i64 n, .int .i64 b, .int .i64 a, .int .i64 s, .int .i64 q] 35)).alloc (.cells #[.int .i64 0, .int .i64 0, .int .i64 0, .int .i64 0, .int .i64 0, .int .i64 0] 35)).heap.size ((w.alloc (.cells #[.int .i64 k, .int .i64 n, .int .i64 b, .int .i64 a, .int .i64 s, .int .i64 q] 35)).alloc (.cells #[.int .i64 0, .int .i64 0, .int .i64 0, .int .i64 0, .int .i64 0, .int .i64 0] 35)) w1) :
    Ctl w1 w.heap.size k n b a s q ∧ Ctl w1 (w.heap.size + 1) 0 0 0 0 0 0 :=
  ⟨((Ctl.new w _ rfl k n b a s q).alloc _).kept hb, (Ctl.new (w.alloc _) _ (by simp) 0 0 0 0 0 0).kept hb⟩
theorem up2 {w w1 : World} {o o' : Obj} (h : Below ((w.alloc o).alloc o').heap.size ((w.alloc o).alloc o') w1) : Below w.heap.size w w1 := bthen (balloc (balloc (Below.refl _ _) o) o') h

set_option maxHeartbeats 1600000 in
theorem next_form (k n b a s q d : Int) (w : World) (h : ¬ kright k n b a s q) :
    Calls Try.prog 61 #[.agg #[.int .i64 k, .int .i64 n, .int .i64 b, .int .i64 a, .int .i64 s, .int .i64 q], .int .i64 d] w fun e w' => e = .returned (.tuple #[.agg #[.int .i64 0, .int .i64 0, .int .i64 0, .int .i64 0, .int .i64 0, .int .i64 0], .int .i64 1]) ∧ Below w.heap.size w w' := by
  have r := fun v => right_any k n b a s q v
  rw [decide_eq_false h] at r
  clear h
  go_enter Try.func61, Try.ntmps61
  go_wp2_with (go_at_call 60; refine (r _).mono ?_; rintro e w1 ⟨rfl, hb⟩; obtain ⟨d0, d1, d2, d3, d4, d5, g0, g1, g2, g3, g4, g5⟩ := (two hb).2)
  refine bodyPost_ret (v := .tuple #[.agg #[.int .i64 0, .int .i64 0, .int .i64 0, .int .i64 0, .int .i64 0, .int .i64 0], .int .i64 1]) (by simp [results, Try.results61, go_sem, d0, d1, d2, d3, d4, d5]) rfl ⟨rfl, ?_⟩
  repeat (refine Below.setCell ?_ (by simp) _)
  exact up2 hb

set_option maxHeartbeats 1600000 in
theorem next_range (k n b a s q d : Int) (w : World) (h : kright k n b a s q) (hd : ¬ inr d) :
    Calls Try.prog 61 #[.agg #[.int .i64 k, .int .i64 n, .int .i64 b, .int .i64 a, .int .i64 s, .int .i64 q], .int .i64 d] w fun e w' => e = .returned (.tuple #[.agg #[.int .i64 0, .int .i64 0, .int .i64 0, .int .i64 0, .int .i64 0, .int .i64 0], .int .i64 2]) ∧ Below w.heap.size w w' := by
  have r := fun v => right_any k n b a s q v
  rw [decide_eq_true h] at r
  clear h
  unfold inr at hd
  by_cases h0 : d < 0
  · clear hd
    go_enter Try.func61, Try.ntmps61
    go_wp2_with (go_at_call 60; refine (r _).mono ?_; rintro e w1 ⟨rfl, hb⟩; obtain ⟨d0, d1, d2, d3, d4, d5, g0, g1, g2, g3, g4, g5⟩ := (two hb).2)
    refine bodyPost_ret (v := .tuple #[.agg #[.int .i64 0, .int .i64 0, .int .i64 0, .int .i64 0, .int .i64 0, .int .i64 0], .int .i64 2]) (by simp [results, Try.results61, go_sem, d0, d1, d2, d3, d4, d5]) rfl ⟨rfl, ?_⟩
    repeat (refine Below.setCell ?_ (by simp) _)
    exact up2 hb
  · have h1 : 1099511627776 < d := by omega
    clear hd
    go_enter Try.func61, Try.ntmps61
    go_wp2_with (go_at_call 60; refine (r _).mono ?_; rintro e w1 ⟨rfl, hb⟩; obtain ⟨d0, d1, d2, d3, d4, d5, g0, g1, g2, g3, g4, g5⟩ := (two hb).2)
    refine bodyPost_ret (v := .tuple #[.agg #[.int .i64 0, .int .i64 0, .int .i64 0, .int .i64 0, .int .i64 0, .int .i64 0], .int .i64 2]) (by simp [results, Try.results61, go_sem, d0, d1, d2, d3, d4, d5]) rfl ⟨rfl, ?_⟩
    repeat (refine Below.setCell ?_ (by simp) _)
    exact up2 hb

set_option maxHeartbeats 1600000 in
theorem next_new (n b d V : Int) (w : World) (hn : 1 ≤ n ∧ n ≤ 12) (r : ∀ v, Calls Try.prog 60 #[.agg #[.int .i64 1, .int .i64 n, .int .i64 b, .int .i64 0, .int .i64 0, .int .i64 0]] v fun e w' => e = .returned (.bool true) ∧ Below v.heap.size v w')
    (c : ∀ v, Calls Try.prog 79 #[.int .i64 (n + 1)] v fun e w' => e = .returned (.int .i64 V) ∧ w' = v) (h0 : 0 ≤ d) (h1 : d ≤ 1099511627776) (h : b < 0 ∨ d < b) :
    Calls Try.prog 61 #[.agg #[.int .i64 1, .int .i64 n, .int .i64 b, .int .i64 0, .int .i64 0, .int .i64 0], .int .i64 d] w fun e w' => e = .returned (.tuple #[.agg #[.int .i64 1, .int .i64 V, .int .i64 d, .int .i64 0, .int .i64 0, .int .i64 0], .int .i64 0]) ∧ Below w.heap.size w w' := by
  by_cases hb : b < 0
  · clear h
    go_enter Try.func61, Try.ntmps61
    go_wp2_with (first
      | (go_at_call 60; refine (r _).mono ?_; rintro e w1 ⟨rfl, HB⟩; obtain ⟨X, Y⟩ := two HB; clear r; obtain ⟨c0, c1, c2, c3, c4, c5, f0, f1, f2, f3, f4, f5⟩ := X)
      | (go_at_call 79; refine (c _).mono ?_; rintro e w2 ⟨rfl, hw⟩; clear c; have X2 : Ctl w2 w.heap.size 1 (n + 1) d 0 0 0 := (by rw [hw]; exact Ctl.set1 (Ctl.set2 ⟨c0, c1, c2, c3, c4, c5, f0, f1, f2, f3, f4, f5⟩ d) (n + 1)); have Y2 : Ctl w2 (w.heap.size + 1) 0 0 0 0 0 0 := (by rw [hw]; exact ((Y.far (by omega) _).far (by omega) _)); have B2 : Below w.heap.size w w2 := (by rw [hw]; exact (((up2 HB).setCell (by simp) _).setCell (by simp) _)); clear hw; clear Y c0 c1 c2 c3 c4 c5 f0 f1 f2 f3 f4 f5; obtain ⟨c0, c1, c2, c3, c4, c5, f0, f1, f2, f3, f4, f5⟩ := X2; obtain ⟨d0, d1, d2, d3, d4, d5, g0, g1, g2, g3, g4, g5⟩ := Y2))
    refine bodyPost_ret (v := .tuple #[.agg #[.int .i64 1, .int .i64 V, .int .i64 d, .int .i64 0, .int .i64 0, .int .i64 0], .int .i64 0]) (by simp [results, Try.results61, go_sem, d0, d1, d2, d3, d4, d5]) rfl ⟨rfl, ?_⟩
    repeat (refine Below.setCell ?_ (by simp) _)
    exact B2
  · have h2 : d < b := by omega
    clear h
    go_enter Try.func61, Try.ntmps61
    go_wp2_with (first
      | (go_at_call 60; refine (r _).mono ?_; rintro e w1 ⟨rfl, HB⟩; obtain ⟨X, Y⟩ := two HB; clear r; obtain ⟨c0, c1, c2, c3, c4, c5, f0, f1, f2, f3, f4, f5⟩ := X)
      | (go_at_call 79; refine (c _).mono ?_; rintro e w2 ⟨rfl, hw⟩; clear c; have X2 : Ctl w2 w.heap.size 1 (n + 1) d 0 0 0 := (by rw [hw]; exact Ctl.set1 (Ctl.set2 ⟨c0, c1, c2, c3, c4, c5, f0, f1, f2, f3, f4, f5⟩ d) (n + 1)); have Y2 : Ctl w2 (w.heap.size + 1) 0 0 0 0 0 0 := (by rw [hw]; exact ((Y.far (by omega) _).far (by omega) _)); have B2 : Below w.heap.size w w2 := (by rw [hw]; exact (((up2 HB).setCell (by simp) _).setCell (by simp) _)); clear hw; clear Y c0 c1 c2 c3 c4 c5 f0 f1 f2 f3 f4 f5; obtain ⟨c0, c1, c2, c3, c4, c5, f0, f1, f2, f3, f4, f5⟩ := X2; obtain ⟨d0, d1, d2, d3, d4, d5, g0, g1, g2, g3, g4, g5⟩ := Y2))
    refine bodyPost_ret (v := .tuple #[.agg #[.int .i64 1, .int .i64 V, .int .i64 d, .int .i64 0, .int .i64 0, .int .i64 0], .int .i64 0]) (by simp [results, Try.results61, go_sem, d0, d1, d2, d3, d4, d5]) rfl ⟨rfl, ?_⟩
    repeat (refine Below.setCell ?_ (by simp) _)
    exact B2

set_option maxHeartbeats 1600000 in
theorem next_more (n b d V x p m : Int) (w : World) (hn : 1 ≤ n ∧ n ≤ 12) (r : ∀ v, Calls Try.prog 60 #[.agg #[.int .i64 1, .int .i64 n, .int .i64 b, .int .i64 0, .int .i64 0, .int .i64 0]] v fun e w' => e = .returned (.bool true) ∧ Below v.heap.size v w')
    (c : ∀ v, Calls Try.prog 79 #[.int .i64 (n + 1)] v fun e w' => e = .returned (.int .i64 V) ∧ w' = v) (h0 : 0 ≤ d) (h1 : d ≤ 1099511627776) (hb0 : decide (b < 0) = false) (hb1 : decide (d < b) = false) (hx : d - b = x) (hx0 : 0 ≤ x) (hx1 : x ≤ 1099511627776) (hp : n * x = p) (hp0 : 0 ≤ p) (hp1 : p ≤ 13194139533312)
    (hm2 : p.tdiv (1 + d) = m) (hm0 : 0 ≤ m) (hm1 : m ≤ 13194139533312) (h2 : decide (m < 1) = true) :
    Calls Try.prog 61 #[.agg #[.int .i64 1, .int .i64 n, .int .i64 b, .int .i64 0, .int .i64 0, .int .i64 0], .int .i64 d] w fun e w' => e = .returned (.tuple #[.agg #[.int .i64 1, .int .i64 V, .int .i64 b, .int .i64 0, .int .i64 0, .int .i64 0], .int .i64 0]) ∧ Below w.heap.size w w' := by
  go_enter Try.func61, Try.ntmps61
  go_wp2_with (first
    | (go_at_call 60; refine (r _).mono ?_; rintro e w1 ⟨rfl, HB⟩; obtain ⟨X, Y⟩ := two HB; clear r; obtain ⟨c0, c1, c2, c3, c4, c5, f0, f1, f2, f3, f4, f5⟩ := X)
    | (go_at_call 79; refine (c _).mono ?_; rintro e w2 ⟨rfl, hw⟩; clear c; have X2 : Ctl w2 w.heap.size 1 (n + 1) b 0 0 0 := (by rw [hw]; exact Ctl.set1 (show Ctl w1 w.heap.size 1 n b 0 0 0 from ⟨c0, c1, c2, c3, c4, c5, f0, f1, f2, f3, f4, f5⟩) (n + 1)); have Y2 : Ctl w2 (w.heap.size + 1) 0 0 0 0 0 0 := (by rw [hw]; exact (Y.far (by omega) _)); have B2 : Below w.heap.size w w2 := (by rw [hw]; exact ((up2 HB).setCell (by simp) _)); clear hw; clear Y c0 c1 c2 c3 c4 c5 f0 f1 f2 f3 f4 f5; obtain ⟨c0, c1, c2, c3, c4, c5, f0, f1, f2, f3, f4, f5⟩ := X2; obtain ⟨d0, d1, d2, d3, d4, d5, g0, g1, g2, g3, g4, g5⟩ := Y2))
  refine bodyPost_ret (v := .tuple #[.agg #[.int .i64 1, .int .i64 V, .int .i64 b, .int .i64 0, .int .i64 0, .int .i64 0], .int .i64 0]) (by simp [results, Try.results61, go_sem, d0, d1, d2, d3, d4, d5]) rfl ⟨rfl, ?_⟩
  repeat (refine Below.setCell ?_ (by simp) _)
  exact B2

set_option maxHeartbeats 1600000 in
theorem next_less (n b d V x p m : Int) (w : World) (hn : 1 ≤ n ∧ n ≤ 12) (r : ∀ v, Calls Try.prog 60 #[.agg #[.int .i64 1, .int .i64 n, .int .i64 b, .int .i64 0, .int .i64 0, .int .i64 0]] v fun e w' => e = .returned (.bool true) ∧ Below v.heap.size v w')
    (c : ∀ v, Calls Try.prog 79 #[.int .i64 (n - 1)] v fun e w' => e = .returned (.int .i64 V) ∧ w' = v) (h0 : 0 ≤ d) (h1 : d ≤ 1099511627776) (hb0 : decide (b < 0) = false) (hb1 : decide (d < b) = false) (hx : d - b = x) (hx0 : 0 ≤ x) (hx1 : x ≤ 1099511627776) (hp : n * x = p) (hp0 : 0 ≤ p) (hp1 : p ≤ 13194139533312)
    (hm2 : p.tdiv (1 + d) = m) (hm0 : 0 ≤ m) (hm1 : m ≤ 13194139533312) (h2 : decide (m < 1) = false) (h3 : decide (2 < m) = true) :
    Calls Try.prog 61 #[.agg #[.int .i64 1, .int .i64 n, .int .i64 b, .int .i64 0, .int .i64 0, .int .i64 0], .int .i64 d] w fun e w' => e = .returned (.tuple #[.agg #[.int .i64 1, .int .i64 V, .int .i64 b, .int .i64 0, .int .i64 0, .int .i64 0], .int .i64 0]) ∧ Below w.heap.size w w' := by
  go_enter Try.func61, Try.ntmps61
  go_wp2_with (first
    | (go_at_call 60; refine (r _).mono ?_; rintro e w1 ⟨rfl, HB⟩; obtain ⟨X, Y⟩ := two HB; clear r; obtain ⟨c0, c1, c2, c3, c4, c5, f0, f1, f2, f3, f4, f5⟩ := X)
    | (go_at_call 79; refine (c _).mono ?_; rintro e w2 ⟨rfl, hw⟩; clear c; have X2 : Ctl w2 w.heap.size 1 (n - 1) b 0 0 0 := (by rw [hw]; exact Ctl.set1 (show Ctl w1 w.heap.size 1 n b 0 0 0 from ⟨c0, c1, c2, c3, c4, c5, f0, f1, f2, f3, f4, f5⟩) (n - 1)); have Y2 : Ctl w2 (w.heap.size + 1) 0 0 0 0 0 0 := (by rw [hw]; exact (Y.far (by omega) _)); have B2 : Below w.heap.size w w2 := (by rw [hw]; exact ((up2 HB).setCell (by simp) _)); clear hw; clear Y c0 c1 c2 c3 c4 c5 f0 f1 f2 f3 f4 f5; obtain ⟨c0, c1, c2, c3, c4, c5, f0, f1, f2, f3, f4, f5⟩ := X2; obtain ⟨d0, d1, d2, d3, d4, d5, g0, g1, g2, g3, g4, g5⟩ := Y2))
  refine bodyPost_ret (v := .tuple #[.agg #[.int .i64 1, .int .i64 V, .int .i64 b, .int .i64 0, .int .i64 0, .int .i64 0], .int .i64 0]) (by simp [results, Try.results61, go_sem, d0, d1, d2, d3, d4, d5]) rfl ⟨rfl, ?_⟩
  repeat (refine Below.setCell ?_ (by simp) _)
  exact B2

set_option maxHeartbeats 1600000 in
theorem next_stay (n b d V x p m : Int) (w : World) (hn : 1 ≤ n ∧ n ≤ 12) (r : ∀ v, Calls Try.prog 60 #[.agg #[.int .i64 1, .int .i64 n, .int .i64 b, .int .i64 0, .int .i64 0, .int .i64 0]] v fun e w' => e = .returned (.bool true) ∧ Below v.heap.size v w')
    (c : ∀ v, Calls Try.prog 79 #[.int .i64 n] v fun e w' => e = .returned (.int .i64 V) ∧ w' = v) (h0 : 0 ≤ d) (h1 : d ≤ 1099511627776) (hb0 : decide (b < 0) = false) (hb1 : decide (d < b) = false) (hx : d - b = x) (hx0 : 0 ≤ x) (hx1 : x ≤ 1099511627776) (hp : n * x = p) (hp0 : 0 ≤ p) (hp1 : p ≤ 13194139533312)
    (hm2 : p.tdiv (1 + d) = m) (hm0 : 0 ≤ m) (hm1 : m ≤ 13194139533312) (h2 : decide (m < 1) = false) (h3 : decide (2 < m) = false) :
    Calls Try.prog 61 #[.agg #[.int .i64 1, .int .i64 n, .int .i64 b, .int .i64 0, .int .i64 0, .int .i64 0], .int .i64 d] w fun e w' => e = .returned (.tuple #[.agg #[.int .i64 1, .int .i64 V, .int .i64 b, .int .i64 0, .int .i64 0, .int .i64 0], .int .i64 0]) ∧ Below w.heap.size w w' := by
  go_enter Try.func61, Try.ntmps61
  go_wp2_with (first
    | (go_at_call 60; refine (r _).mono ?_; rintro e w1 ⟨rfl, HB⟩; obtain ⟨X, Y⟩ := two HB; clear r; obtain ⟨c0, c1, c2, c3, c4, c5, f0, f1, f2, f3, f4, f5⟩ := X)
    | (go_at_call 79; refine (c _).mono ?_; rintro e w2 ⟨rfl, hw⟩; clear c; have X2 : Ctl w2 w.heap.size 1 n b 0 0 0 := (by rw [hw]; exact show Ctl w1 w.heap.size 1 n b 0 0 0 from ⟨c0, c1, c2, c3, c4, c5, f0, f1, f2, f3, f4, f5⟩); have Y2 : Ctl w2 (w.heap.size + 1) 0 0 0 0 0 0 := (by rw [hw]; exact Y); have B2 : Below w.heap.size w w2 := (by rw [hw]; exact (up2 HB)); clear hw; clear Y c0 c1 c2 c3 c4 c5 f0 f1 f2 f3 f4 f5; obtain ⟨c0, c1, c2, c3, c4, c5, f0, f1, f2, f3, f4, f5⟩ := X2; obtain ⟨d0, d1, d2, d3, d4, d5, g0, g1, g2, g3, g4, g5⟩ := Y2))
  refine bodyPost_ret (v := .tuple #[.agg #[.int .i64 1, .int .i64 V, .int .i64 b, .int .i64 0, .int .i64 0, .int .i64 0], .int .i64 0]) (by simp [results, Try.results61, go_sem, d0, d1, d2, d3, d4, d5]) rfl ⟨rfl, ?_⟩
  repeat (refine Below.setCell ?_ (by simp) _)
  exact B2

theorem next_yes (k n b a s q d : Int) (w : World) (h : kright k n b a s q) (hd : inr d) :
    Calls Try.prog 61 #[.agg #[.int .i64 k, .int .i64 n, .int .i64 b, .int .i64 a, .int .i64 s, .int .i64 q], .int .i64 d] w fun e w' => e = .returned (.tuple #[.agg #[.int .i64 1, .int .i64 (nw n (d - nb b d) d), .int .i64 (nb b d), .int .i64 0, .int .i64 0, .int .i64 0], .int .i64 0]) ∧ Below w.heap.size w w' := by
  have r := fun v => right_any k n b a s q v
  rw [decide_eq_true h] at r
  obtain ⟨rfl, hn, ⟨hb0, hb1⟩, rfl, rfl, rfl⟩ := h
  have hdd := hd
  obtain ⟨h0, h1⟩ := hd
  by_cases hb : b < 0 ∨ d < b
  · have e : nb b d = d := by unfold nb; rw [if_pos hb]
    rw [e, show nw n (d - d) d = clip (n + 1) by unfold nw; rw [Int.sub_self, Int.mul_zero, if_pos (by omega)]]
    exact next_new n b d _ w hn r (within_any _) h0 h1 hb
  · have e : nb b d = b := by unfold nb; rw [if_neg hb]
    rw [e]
    obtain ⟨p0, p1⟩ := mul_in (n := n) (x := d - b) hn (by omega) (by omega)
    obtain ⟨q1, q2⟩ := more_lt (p := n * (d - b)) h0
    have tv : (n * (d - b)).tdiv (1 + d) = n * (d - b) / (1 + d) := Int.tdiv_eq_ediv_of_nonneg p0
    have m0 : 0 ≤ n * (d - b) / (1 + d) := Int.ediv_nonneg p0 (by omega)
    have m1 : n * (d - b) / (1 + d) ≤ n * (d - b) := Int.ediv_le_self _ p0
    unfold nw
    by_cases c1 : n * (d - b) < 1 + d
    · rw [if_pos c1]
      exact next_more n b d _ _ _ _ w hn r (within_any _) h0 h1 (decide_eq_false (by omega)) (decide_eq_false (by omega)) rfl (by omega) (by omega) rfl p0 p1 tv m0 (by omega) (decide_eq_true (q1.2 c1))
    · rw [if_neg c1]
      by_cases c2 : 3 * (1 + d) ≤ n * (d - b)
      · rw [if_pos c2]
        exact next_less n b d _ _ _ _ w hn r (within_any _) h0 h1 (decide_eq_false (by omega)) (decide_eq_false (by omega)) rfl (by omega) (by omega) rfl p0 p1 tv m0 (by omega) (decide_eq_false (fun c => c1 (q1.1 c))) (decide_eq_true (q2.2 c2))
      · rw [if_neg c2]
        refine next_stay n b d n _ _ _ w hn r (fun v => ?_) h0 h1 (decide_eq_false (by omega)) (decide_eq_false (by omega)) rfl (by omega) (by omega) rfl p0 p1 tv m0 (by omega) (decide_eq_false (fun c => c1 (q1.1 c))) (decide_eq_false (fun c => c2 (q2.1 c)))
        have := within_any n v
        rw [clip_is hn.1 hn.2] at this
        exact this

/-- what is answered: kind, window, base, and whether it may be -/
def nextC (k n b a s q d : Int) : Int × Int × Int × Int :=
  if kright k n b a s q then if inr d then (1, nw n (d - nb b d) d, nb b d, 0) else (0, 0, 0, 2) else (0, 0, 0, 1)

theorem next_any (k n b a s q d K V B E : Int) (h : nextC k n b a s q d = (K, V, B, E)) (w : World) :
    Calls Try.prog 61 #[.agg #[.int .i64 k, .int .i64 n, .int .i64 b, .int .i64 a, .int .i64 s, .int .i64 q], .int .i64 d] w fun e w' => e = .returned (.tuple #[.agg #[.int .i64 K, .int .i64 V, .int .i64 B, .int .i64 0, .int .i64 0, .int .i64 0], .int .i64 E]) ∧ Below w.heap.size w w' := by
  unfold nextC at h
  by_cases h1 : kright k n b a s q
  · rw [if_pos h1] at h
    by_cases h2 : inr d
    · rw [if_pos h2] at h
      obtain ⟨rfl, rfl, rfl, rfl⟩ : 1 = K ∧ nw n (d - nb b d) d = V ∧ nb b d = B ∧ 0 = E := by simpa using h
      exact next_yes k n b a s q d w h1 h2
    · rw [if_neg h2] at h
      obtain ⟨rfl, rfl, rfl, rfl⟩ : 0 = K ∧ 0 = V ∧ 0 = B ∧ 2 = E := by simpa using h
      exact next_range k n b a s q d w h1 h2
  · rw [if_neg h1] at h
    obtain ⟨rfl, rfl, rfl, rfl⟩ : 0 = K ∧ 0 = V ∧ 0 = B ∧ 1 = E := by simpa using h
    exact next_form k n b a s q d w h1

end Go.Proofs.Ytbnofjpiioneiaa.V
