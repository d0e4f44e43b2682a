/- PROVED: what link.Pass answers, at every argument. what duel.wrongStep and duel.Step answer, at every argument. CONDITIONS: none beyond each theorem's own. -/
import Derived.Test.YtjageagnclmnjabGreatDoorB22KPass
import Derived.Test.YtjageagnclmnjabGreatDoorB18DYes
import Derived.Test.YtjageagnclmnjabGreatDoorB19VNext
import Derived.Test.YtjageagnclmnjabGreatDoorB20KRight
namespace Go.Proofs.YtjageagnclmnjabGreatDoor.K
open Go.RowKit Go.Shelf

/-- what a call of Pass answers -/
def Ans (w : World) (s t c0 c1 l0 l1 w0 w1 e0 : Int) (e : Ending) (w' : World) : Prop :=
  e = .returned (.tuple #[.agg #[.int .i64 s, .int .i64 t, .int .i64 c0, .int .i64 c1, .int .i64 l0, .int .i64 l1], .agg #[.int .i64 w0, .int .i64 w1], .int .i64 e0]) ∧ Below w.heap.size w w'

theorem pass_yes (r m a b s t : Int) (h : lr r m a b s t) (w : World) :
    Calls Tryz.prog 118 #[.int .i64 r, .int .i64 m, .agg #[.int .i64 a, .int .i64 b], .agg #[.int .i64 s, .int .i64 t]] w (Ans w s t (C0 r a b s t) (C1 r a b s t) (L0 r m a b s t) (L1 r m a b s t) (W0 r m a b s t) (W1 r m a b s t) 0) := by
  have h' := h
  unfold lr at h'
  obtain ⟨r', rfl⟩ := Int.eq_ofNat_of_zero_le (a := r) (by omega)
  obtain ⟨m', rfl⟩ := Int.eq_ofNat_of_zero_le (a := m) (by omega)
  obtain ⟨a', rfl⟩ := Int.eq_ofNat_of_zero_le (a := a) (by omega)
  obtain ⟨b', rfl⟩ := Int.eq_ofNat_of_zero_le (a := b) (by omega)
  obtain ⟨s', rfl⟩ := Int.eq_ofNat_of_zero_le (a := s) (by omega)
  obtain ⟨t', rfl⟩ := Int.eq_ofNat_of_zero_le (a := t) (by omega)
  have := callsIn_wide.1 (pass_in 4 (Nat.le_refl _) r' m' a' b' s' t' h w)
  rw [ca_pk0, ca_pk1, lo_pk0, lo_pk1, wt_pk0, wt_pk1] at this
  exact this

end Go.Proofs.YtjageagnclmnjabGreatDoor.K

namespace Go.Proofs.YtjageagnclmnjabGreatDoor.D
set_option maxRecDepth 100000
open Go.RowKit K
attribute [local go_sem] idx0 idx1

set_option maxHeartbeats 3200000 in
theorem ws_wrong (p0 p1 r m j k0 n0 b0 a0 c0 q0 k1 n1 b1 a1 c1 q1 w0 w1 x y E : Int) (he : (E != 0) = true) (w : World)
    (p : ∀ v, Calls Tryz.prog 70 #[.agg #[.int .i64 p0, .int .i64 p1, .int .i64 r, .int .i64 m, .int .i64 j]] v fun e w' => e = .returned (.int .i64 E) ∧ Below v.heap.size v w') :
    Calls Tryz.prog 117 #[.agg #[.int .i64 p0, .int .i64 p1, .int .i64 r, .int .i64 m, .int .i64 j], .agg #[.int .i64 k0, .int .i64 n0, .int .i64 b0, .int .i64 a0, .int .i64 c0, .int .i64 q0, .int .i64 k1, .int .i64 n1, .int .i64 b1, .int .i64 a1, .int .i64 c1, .int .i64 q1, .int .i64 w0, .int .i64 w1], .agg #[.int .i64 x, .int .i64 y]] w fun x w' => x = .returned (.int .i64 E) ∧ Below w.heap.size w w' := by
  have X := ((Rul.new w _ rfl p0 p1 r m j).alloc (.cells #[.int .i64 k0, .int .i64 n0, .int .i64 b0, .int .i64 a0, .int .i64 c0, .int .i64 q0, .int .i64 k1, .int .i64 n1, .int .i64 b1, .int .i64 a1, .int .i64 c1, .int .i64 q1, .int .i64 w0, .int .i64 w1] 147)).alloc (.cells #[.int .i64 x, .int .i64 y] 67)
  have B : Below w.heap.size w (((w.alloc (.cells #[.int .i64 p0, .int .i64 p1, .int .i64 r, .int .i64 m, .int .i64 j] 69)).alloc (.cells #[.int .i64 k0, .int .i64 n0, .int .i64 b0, .int .i64 a0, .int .i64 c0, .int .i64 q0, .int .i64 k1, .int .i64 n1, .int .i64 b1, .int .i64 a1, .int .i64 c1, .int .i64 q1, .int .i64 w0, .int .i64 w1] 147)).alloc (.cells #[.int .i64 x, .int .i64 y] 67)) := balloc (balloc (balloc (Below.refl _ _) _) _) _
  obtain ⟨x0, x1, x2, x3, x4, _, _, _, _, _⟩ := id X
  go_enter Tryz.func117, Tryz.ntmps117
  go_wp2_with (go_at_call 70; refine (p _).mono ?_; clear p x0 x1 x2 x3 x4; rintro x v ⟨rfl, b⟩; replace B := bthen B b)
  go_ret
  exact ⟨rfl, B⟩

set_option maxHeartbeats 3200000 in
theorem ws_of (p0 p1 r m j k0 n0 b0 a0 c0 q0 k1 n1 b1 a1 c1 q1 w0 w1 x y : Int) (t1 t2 t3 : Bool) (w : World)
    (p : ∀ v, Calls Tryz.prog 70 #[.agg #[.int .i64 p0, .int .i64 p1, .int .i64 r, .int .i64 m, .int .i64 j]] v fun e w' => e = .returned (.int .i64 0) ∧ Below v.heap.size v w')
    (q : ∀ v, Calls Tryz.prog 138 #[.agg #[.int .i64 p0, .int .i64 p1, .int .i64 r, .int .i64 m, .int .i64 j], .agg #[.int .i64 k0, .int .i64 n0, .int .i64 b0, .int .i64 a0, .int .i64 c0, .int .i64 q0, .int .i64 k1, .int .i64 n1, .int .i64 b1, .int .i64 a1, .int .i64 c1, .int .i64 q1, .int .i64 w0, .int .i64 w1]] v fun e w' => e = .returned (.bool t1) ∧ Below v.heap.size v w')
    (h2 : ∀ v, Calls Tryz.prog 86 #[.int .i64 x, .int .i64 0, .int .i64 j] v fun e w' => e = .returned (.bool t2) ∧ w' = v)
    (h3 : ∀ v, Calls Tryz.prog 86 #[.int .i64 y, .int .i64 0, .int .i64 j] v fun e w' => e = .returned (.bool t3) ∧ w' = v) :
    Calls Tryz.prog 117 #[.agg #[.int .i64 p0, .int .i64 p1, .int .i64 r, .int .i64 m, .int .i64 j], .agg #[.int .i64 k0, .int .i64 n0, .int .i64 b0, .int .i64 a0, .int .i64 c0, .int .i64 q0, .int .i64 k1, .int .i64 n1, .int .i64 b1, .int .i64 a1, .int .i64 c1, .int .i64 q1, .int .i64 w0, .int .i64 w1], .agg #[.int .i64 x, .int .i64 y]] w fun x w' => x = .returned (.int .i64 (if t1 then if t2 && t3 then 0 else 2 else 1)) ∧ Below w.heap.size w w' := by
  have X := ((Rul.new w _ rfl p0 p1 r m j).alloc (.cells #[.int .i64 k0, .int .i64 n0, .int .i64 b0, .int .i64 a0, .int .i64 c0, .int .i64 q0, .int .i64 k1, .int .i64 n1, .int .i64 b1, .int .i64 a1, .int .i64 c1, .int .i64 q1, .int .i64 w0, .int .i64 w1] 147)).alloc (.cells #[.int .i64 x, .int .i64 y] 67)
  have Y := (Sta.new (w.alloc (.cells #[.int .i64 p0, .int .i64 p1, .int .i64 r, .int .i64 m, .int .i64 j] 69)) (w.heap.size + 1) (by simp) k0 n0 b0 a0 c0 q0 k1 n1 b1 a1 c1 q1 w0 w1).alloc (.cells #[.int .i64 x, .int .i64 y] 67)
  have L := Arr.new ((w.alloc (.cells #[.int .i64 p0, .int .i64 p1, .int .i64 r, .int .i64 m, .int .i64 j] 69)).alloc (.cells #[.int .i64 k0, .int .i64 n0, .int .i64 b0, .int .i64 a0, .int .i64 c0, .int .i64 q0, .int .i64 k1, .int .i64 n1, .int .i64 b1, .int .i64 a1, .int .i64 c1, .int .i64 q1, .int .i64 w0, .int .i64 w1] 147)) (w.heap.size + 1 + 1) (by simp) x y
  have B : Below w.heap.size w (((w.alloc (.cells #[.int .i64 p0, .int .i64 p1, .int .i64 r, .int .i64 m, .int .i64 j] 69)).alloc (.cells #[.int .i64 k0, .int .i64 n0, .int .i64 b0, .int .i64 a0, .int .i64 c0, .int .i64 q0, .int .i64 k1, .int .i64 n1, .int .i64 b1, .int .i64 a1, .int .i64 c1, .int .i64 q1, .int .i64 w0, .int .i64 w1] 147)).alloc (.cells #[.int .i64 x, .int .i64 y] 67)) := balloc (balloc (balloc (Below.refl _ _) _) _) _
  obtain ⟨x0, x1, x2, x3, x4, _, _, _, _, _⟩ := id X
  cases t1
  case' true => cases t2
  case' true.true => cases t3
  all_goals
    go_enter Tryz.func117, Tryz.ntmps117
    go_wp2_with (first
      | (go_at_call 70; refine (p _).mono ?_; clear p x0 x1 x2 x3 x4; rintro xx v ⟨rfl, b⟩; replace X := X.kept b; replace Y := Y.kept b; replace L := L.kept b; replace B := bthen B b; clear b; obtain ⟨x0, x1, x2, x3, x4, _, _, _, _, _⟩ := id X; obtain ⟨y0, y1, y2, y3, y4, y5, y6, y7, y8, y9, y10, y11, y12, y13, _, _, _, _, _, _, _, _, _, _, _, _, _, _⟩ := id Y)
      | (go_at_call 138; refine (q _).mono ?_; clear q x0 x1 x2 x3 x4; rintro xx v2 ⟨rfl, b⟩; replace X := X.kept b; replace L := L.kept b; replace B := bthen B b; clear b; obtain ⟨_, _, _, _, x4, _, _, _, _, _⟩ := id X; obtain ⟨l0, l1, _, _⟩ := id L)
      | (go_at_call 86; refine (h2 _).mono ?_; clear h2; rintro xx v1 ⟨rfl, rfl⟩)
      | (go_at_call 86; refine (h3 _).mono ?_; clear h3; rintro xx v1 ⟨rfl, rfl⟩))
    go_ret
    exact ⟨rfl, B⟩

/-- what is wrong with a step -/
def wstep (r : Ru) (s : Sx) (x y : Int) : Int := if wrong r = 0 then if pright r s then if lates r x y then 0 else 2 else 1 else wrong r
theorem wstep_ok {r : Ru} {s : Sx} {x y : Int} : wstep r s x y = 0 ↔ pright r s ∧ lates r x y := by
  unfold wstep
  by_cases h : wrong r = 0
  · rw [if_pos h]
    by_cases h1 : pright r s
    · rw [if_pos h1]
      by_cases h2 : lates r x y
      · rw [if_pos h2]; exact ⟨fun _ => ⟨h1, h2⟩, fun _ => rfl⟩
      · rw [if_neg h2]; exact ⟨fun e => absurd e (by decide), fun e => absurd e.2 h2⟩
    · rw [if_neg h1]; exact ⟨fun e => absurd e (by decide), fun e => absurd e.1 h1⟩
  · rw [if_neg h]; exact ⟨fun e => absurd e h, fun e => absurd (wrong_ok.2 e.1.1) h⟩
theorem ws_any (r : Ru) (s : Sx) (x y : Int) (w : World) :
    Calls Tryz.prog 117 #[.agg #[.int .i64 r.k0, .int .i64 r.k1, .int .i64 r.r, .int .i64 r.m, .int .i64 r.j], .agg #[.int .i64 s.f0.k, .int .i64 s.f0.n, .int .i64 s.f0.b, .int .i64 s.f0.a, .int .i64 s.f0.s, .int .i64 s.f0.q, .int .i64 s.f1.k, .int .i64 s.f1.n, .int .i64 s.f1.b, .int .i64 s.f1.a, .int .i64 s.f1.s, .int .i64 s.f1.q, .int .i64 s.w0, .int .i64 s.w1], .agg #[.int .i64 x, .int .i64 y]] w fun e w' => e = .returned (.int .i64 (wstep r s x y)) ∧ Below w.heap.size w w' := by
  unfold wstep
  by_cases h : wrong r = 0
  · rw [if_pos h]
    refine (ws_of r.k0 r.k1 r.r r.m r.j s.f0.k s.f0.n s.f0.b s.f0.a s.f0.s s.f0.q s.f1.k s.f1.n s.f1.b s.f1.a s.f1.s s.f1.q s.w0 s.w1 x y _ _ _ w (fun v => wrong_is r 0 h v) (fun v => right_any r s v) (fun v => within_any _ _ _ v) (fun v => within_any _ _ _ v)).mono fun e w' q => ⟨q.1.trans ?_, q.2⟩
    congr 2
    by_cases h1 : pright r s
    · rw [if_pos h1, if_pos (by simp [h1])]
      by_cases h2 : lates r x y
      · rw [if_pos h2]
        unfold lates at h2
        rw [if_pos (by simp only [Bool.and_eq_true, decide_eq_true_iff]; omega)]
      · rw [if_neg h2]
        unfold lates at h2
        rw [if_neg (by simp only [Bool.and_eq_true, decide_eq_true_iff]; omega)]
    · rw [if_neg h1, if_neg (by simp [h1])]
  · rw [if_neg h]
    exact ws_wrong r.k0 r.k1 r.r r.m r.j s.f0.k s.f0.n s.f0.b s.f0.a s.f0.s s.f0.q s.f1.k s.f1.n s.f1.b s.f1.a s.f1.s s.f1.q s.w0 s.w1 x y _ (by simpa using h) w (fun v => wrong_any r v)

/-- what lies there in Step -/
structure QAt (w : World) (p0 p1 r m j k0 n0 b0 a0 c0 q0 k1 n1 b1 a1 c1 q1 w0 w1 x y : Int) (W : World) : Prop where
  hR : Rul W w.heap.size p0 p1 r m j
  hS : Sta W (w.heap.size + 1) k0 n0 b0 a0 c0 q0 k1 n1 b1 a1 c1 q1 w0 w1
  hL : Arr W (w.heap.size + 1 + 1) x y
  hT : Sta W (w.heap.size + 1 + 1 + 1) 0 0 0 0 0 0 0 0 0 0 0 0 0 0
  hD : Rnd W (w.heap.size + 1 + 1 + 1 + 1) 0 0 0 0 0 0
  hB : Below w.heap.size w W
theorem QAt.kept {w W W' : World} {p0 p1 r m j k0 n0 b0 a0 c0 q0 k1 n1 b1 a1 c1 q1 w0 w1 x y : Int} (h : QAt w p0 p1 r m j k0 n0 b0 a0 c0 q0 k1 n1 b1 a1 c1 q1 w0 w1 x y W) (g : Below W.heap.size W W') : QAt w p0 p1 r m j k0 n0 b0 a0 c0 q0 k1 n1 b1 a1 c1 q1 w0 w1 x y W' := ⟨h.hR.kept g, h.hS.kept g, h.hL.kept g, h.hT.kept g, h.hD.kept g, bthen h.hB g⟩
theorem QAt.alloc {w W : World} {p0 p1 r m j k0 n0 b0 a0 c0 q0 k1 n1 b1 a1 c1 q1 w0 w1 x y : Int} (h : QAt w p0 p1 r m j k0 n0 b0 a0 c0 q0 k1 n1 b1 a1 c1 q1 w0 w1 x y W) (o : Obj) : QAt w p0 p1 r m j k0 n0 b0 a0 c0 q0 k1 n1 b1 a1 c1 q1 w0 w1 x y (W.alloc o) := h.kept (balloc (Below.refl _ _) o)
theorem QAt.far {w W : World} {p0 p1 r m j k0 n0 b0 a0 c0 q0 k1 n1 b1 a1 c1 q1 w0 w1 x y : Int} (h : QAt w p0 p1 r m j k0 n0 b0 a0 c0 q0 k1 n1 b1 a1 c1 q1 w0 w1 x y W) {D o : Nat} (hD : w.heap.size + 1 + 1 + 1 + 1 < D) (v : Value) : QAt w p0 p1 r m j k0 n0 b0 a0 c0 q0 k1 n1 b1 a1 c1 q1 w0 w1 x y (W.setCell ⟨D, o, none⟩ v) :=
  ⟨h.hR.far (by omega) _, h.hS.far (by omega) _, h.hL.far (by omega) _, h.hT.far (by omega) _, h.hD.far (by omega) _, h.hB.setCell (p := ⟨D, o, none⟩) (by show w.heap.size ≤ D; omega) _⟩
theorem qbegun (w : World) (p0 p1 r m j k0 n0 b0 a0 c0 q0 k1 n1 b1 a1 c1 q1 w0 w1 x y : Int) : QAt w p0 p1 r m j k0 n0 b0 a0 c0 q0 k1 n1 b1 a1 c1 q1 w0 w1 x y (((((w.alloc (.cells #[.int .i64 p0, .int .i64 p1, .int .i64 r, .int .i64 m, .int .i64 j] 69)).alloc (.cells #[.int .i64 k0, .int .i64 n0, .int .i64 b0, .int .i64 a0, .int .i64 c0, .int .i64 q0, .int .i64 k1, .int .i64 n1, .int .i64 b1, .int .i64 a1, .int .i64 c1, .int .i64 q1, .int .i64 w0, .int .i64 w1] 147)).alloc (.cells #[.int .i64 x, .int .i64 y] 67)).alloc (.cells #[.int .i64 0, .int .i64 0, .int .i64 0, .int .i64 0, .int .i64 0, .int .i64 0, .int .i64 0, .int .i64 0, .int .i64 0, .int .i64 0, .int .i64 0, .int .i64 0, .int .i64 0, .int .i64 0] 147)).alloc (.cells #[.int .i64 0, .int .i64 0, .int .i64 0, .int .i64 0, .int .i64 0, .int .i64 0] 155)) :=
  ⟨((((Rul.new w _ rfl p0 p1 r m j).alloc _).alloc _).alloc _).alloc _, (((Sta.new (w.alloc _) _ (by simp) k0 n0 b0 a0 c0 q0 k1 n1 b1 a1 c1 q1 w0 w1).alloc _).alloc _).alloc _, ((Arr.new ((w.alloc _).alloc _) _ (by simp) x y).alloc _).alloc _, (Sta.new (((w.alloc _).alloc _).alloc _) _ (by simp) 0 0 0 0 0 0 0 0 0 0 0 0 0 0).alloc _, Rnd.new ((((w.alloc _).alloc _).alloc _).alloc _) _ (by simp) 0 0 0 0 0 0, balloc (balloc (balloc (balloc (balloc (Below.refl _ _) _) _) _) _) _⟩

/-- what lies there in Step's loop: what Pass told besides -/
structure QGo (w : World) (G : Nat) (p0 p1 r m j k0 n0 b0 a0 c0 q0 k1 n1 b1 a1 c1 q1 w0 w1 x y s0 s1 g0 g1 l0 l1 : Int) (W : World) : Prop where
  hQ : QAt w p0 p1 r m j k0 n0 b0 a0 c0 q0 k1 n1 b1 a1 c1 q1 w0 w1 x y W
  hG : Rnd W G s0 s1 g0 g1 l0 l1
theorem QGo.kept {w W W' : World} {G : Nat} {p0 p1 r m j k0 n0 b0 a0 c0 q0 k1 n1 b1 a1 c1 q1 w0 w1 x y s0 s1 g0 g1 l0 l1 : Int} (h : QGo w G p0 p1 r m j k0 n0 b0 a0 c0 q0 k1 n1 b1 a1 c1 q1 w0 w1 x y s0 s1 g0 g1 l0 l1 W) (g : Below W.heap.size W W') : QGo w G p0 p1 r m j k0 n0 b0 a0 c0 q0 k1 n1 b1 a1 c1 q1 w0 w1 x y s0 s1 g0 g1 l0 l1 W' := ⟨h.hQ.kept g, h.hG.kept g⟩
theorem QGo.alloc {w W : World} {G : Nat} {p0 p1 r m j k0 n0 b0 a0 c0 q0 k1 n1 b1 a1 c1 q1 w0 w1 x y s0 s1 g0 g1 l0 l1 : Int} (h : QGo w G p0 p1 r m j k0 n0 b0 a0 c0 q0 k1 n1 b1 a1 c1 q1 w0 w1 x y s0 s1 g0 g1 l0 l1 W) (o : Obj) : QGo w G p0 p1 r m j k0 n0 b0 a0 c0 q0 k1 n1 b1 a1 c1 q1 w0 w1 x y s0 s1 g0 g1 l0 l1 (W.alloc o) := h.kept (balloc (Below.refl _ _) o)
theorem QGo.drew {w W : World} {G : Nat} {p0 p1 r m j k0 n0 b0 a0 c0 q0 k1 n1 b1 a1 c1 q1 w0 w1 x y s0 s1 g0 g1 l0 l1 : Int} (h : QGo w G p0 p1 r m j k0 n0 b0 a0 c0 q0 k1 n1 b1 a1 c1 q1 w0 w1 x y s0 s1 g0 g1 l0 l1 W) : QGo w G p0 p1 r m j k0 n0 b0 a0 c0 q0 k1 n1 b1 a1 c1 q1 w0 w1 x y s0 s1 g0 g1 l0 l1 W.drew := h.kept (below_drewN (Below.refl _ _) 1)
theorem QGo.far {w W : World} {G : Nat} {p0 p1 r m j k0 n0 b0 a0 c0 q0 k1 n1 b1 a1 c1 q1 w0 w1 x y s0 s1 g0 g1 l0 l1 : Int} (h : QGo w G p0 p1 r m j k0 n0 b0 a0 c0 q0 k1 n1 b1 a1 c1 q1 w0 w1 x y s0 s1 g0 g1 l0 l1 W) {D o : Nat} (hD : w.heap.size + 1 + 1 + 1 + 1 < D) (hG : D ≠ G) (v : Value) : QGo w G p0 p1 r m j k0 n0 b0 a0 c0 q0 k1 n1 b1 a1 c1 q1 w0 w1 x y s0 s1 g0 g1 l0 l1 (W.setCell ⟨D, o, none⟩ v) := ⟨h.hQ.far hD v, h.hG.far hG v⟩

end Go.Proofs.YtjageagnclmnjabGreatDoor.D
