/- PROVED: what the verifier's pnext answers where all is right. what the verifier's PWrong and PStart answer. what the verifier's PRight answers where all is right. what the verifier's ORight and upto answer. CONDITIONS: none beyond each theorem's own. -/
import Derived.Test.YtbnofjpiioneiaaV41VYes
import Derived.Test.YtbnofjpiioneiaaV42CLn
import Derived.Test.YtbnofjpiioneiaaV43LRefNext
import Derived.Test.YtbnofjpiioneiaaB02KDuel
import Derived.Test.YtbnofjpiioneiaaB16CCtl
import Derived.Test.YtbnofjpiioneiaaB01DMem
import Derived.Deep.RegionHeld3
import Derived.Test.YtbnofjpiioneiaaB14Lif
namespace Go.Proofs.Ytbnofjpiioneiaa.D
open Go.RowKit K

theorem two {w w1 : World} {k n b a s q : Int} (hb : Below ((w.alloc (.cells #[.int .i64 k, .int .i64 n, .int .i64 b, .int .i64 a, .int .i64 s, .int .i64 q] 35)).alloc (.cells #[.int .i64 0, .int .i64 0, .int .i64 0, .int .i64 0, .int .i64 0, .int .i64 0] 35)).heap.size ((w.alloc (.cells #[.int .i64 k, .int .i64 n, .int .i64 b, .int .i64 a, .int .i64 s, .int .i64 q] 35)).alloc (.cells #[.int .i64 0, .int .i64 0, .int .i64 0, .int .i64 0, .int .i64 0, .int .i64 0] 35)) w1) :
    C.Ctl w1 w.heap.size k n b a s q ∧ C.Ctl w1 (w.heap.size + 1) 0 0 0 0 0 0 := C.two hb

set_option maxHeartbeats 1600000 in
theorem pn1 (n b a s q d K N B A S Q : Int) (w : World) (c : ∀ v, Calls Try.prog 53 #[.agg #[.int .i64 1, .int .i64 n, .int .i64 b, .int .i64 a, .int .i64 s, .int .i64 q], .int .i64 d] v fun e w' => e = .returned (.tuple #[.agg #[.int .i64 K, .int .i64 N, .int .i64 B, .int .i64 A, .int .i64 S, .int .i64 Q], .int .i64 0]) ∧ Below v.heap.size v w') :
    Calls Try.prog 41 #[.agg #[.int .i64 1, .int .i64 n, .int .i64 b, .int .i64 a, .int .i64 s, .int .i64 q], .int .i64 d] w fun e w' => e = .returned (.tuple #[.agg #[.int .i64 K, .int .i64 N, .int .i64 B, .int .i64 A, .int .i64 S, .int .i64 Q], .bool true]) ∧ Below w.heap.size w w' := by
  go_enter Try.func41, Try.ntmps41
  go_wp2_with (go_at_call 53; refine (c _).mono ?_; clear c; rintro e w1 ⟨rfl, HB⟩; obtain ⟨X, Y⟩ := two HB; replace HB := C.up2 HB; obtain ⟨c0, c1, c2, c3, c4, c5, f0, f1, f2, f3, f4, f5⟩ := X; obtain ⟨d0, d1, d2, d3, d4, d5, g0, g1, g2, g3, g4, g5⟩ := Y)
  refine bodyPost_ret (v := .tuple #[.agg #[.int .i64 K, .int .i64 N, .int .i64 B, .int .i64 A, .int .i64 S, .int .i64 Q], .bool true]) (by simp [results, Try.results41, go_sem, d0, d1, d2, d3, d4, d5]) rfl ⟨rfl, ?_⟩
  repeat (with_reducible refine Below.setCell ?_ (by simp) _)
  exact HB

set_option maxHeartbeats 1600000 in
theorem pn2 (n b a s q d K N B A S Q : Int) (w : World) (c : ∀ v, Calls Try.prog 54 #[.agg #[.int .i64 2, .int .i64 n, .int .i64 b, .int .i64 a, .int .i64 s, .int .i64 q], .int .i64 d] v fun e w' => e = .returned (.tuple #[.agg #[.int .i64 K, .int .i64 N, .int .i64 B, .int .i64 A, .int .i64 S, .int .i64 Q], .int .i64 0]) ∧ Below v.heap.size v w') :
    Calls Try.prog 41 #[.agg #[.int .i64 2, .int .i64 n, .int .i64 b, .int .i64 a, .int .i64 s, .int .i64 q], .int .i64 d] w fun e w' => e = .returned (.tuple #[.agg #[.int .i64 K, .int .i64 N, .int .i64 B, .int .i64 A, .int .i64 S, .int .i64 Q], .bool true]) ∧ Below w.heap.size w w' := by
  go_enter Try.func41, Try.ntmps41
  go_wp2_with (go_at_call 54; refine (c _).mono ?_; clear c; rintro e w1 ⟨rfl, HB⟩; obtain ⟨X, Y⟩ := two HB; replace HB := C.up2 HB; obtain ⟨c0, c1, c2, c3, c4, c5, f0, f1, f2, f3, f4, f5⟩ := X; obtain ⟨d0, d1, d2, d3, d4, d5, g0, g1, g2, g3, g4, g5⟩ := Y)
  refine bodyPost_ret (v := .tuple #[.agg #[.int .i64 K, .int .i64 N, .int .i64 B, .int .i64 A, .int .i64 S, .int .i64 Q], .bool true]) (by simp [results, Try.results41, go_sem, d0, d1, d2, d3, d4, d5]) rfl ⟨rfl, ?_⟩
  repeat (with_reducible refine Below.setCell ?_ (by simp) _)
  exact HB

set_option maxHeartbeats 1600000 in
theorem pn3 (n b a s q d K N B A S Q : Int) (w : World) (c : ∀ v, Calls Try.prog 55 #[.agg #[.int .i64 3, .int .i64 n, .int .i64 b, .int .i64 a, .int .i64 s, .int .i64 q], .int .i64 d] v fun e w' => e = .returned (.tuple #[.agg #[.int .i64 K, .int .i64 N, .int .i64 B, .int .i64 A, .int .i64 S, .int .i64 Q], .int .i64 0]) ∧ Below v.heap.size v w') :
    Calls Try.prog 41 #[.agg #[.int .i64 3, .int .i64 n, .int .i64 b, .int .i64 a, .int .i64 s, .int .i64 q], .int .i64 d] w fun e w' => e = .returned (.tuple #[.agg #[.int .i64 K, .int .i64 N, .int .i64 B, .int .i64 A, .int .i64 S, .int .i64 Q], .bool true]) ∧ Below w.heap.size w w' := by
  go_enter Try.func41, Try.ntmps41
  go_wp2_with (go_at_call 55; refine (c _).mono ?_; clear c; rintro e w1 ⟨rfl, HB⟩; obtain ⟨X, Y⟩ := two HB; replace HB := C.up2 HB; obtain ⟨c0, c1, c2, c3, c4, c5, f0, f1, f2, f3, f4, f5⟩ := X; obtain ⟨d0, d1, d2, d3, d4, d5, g0, g1, g2, g3, g4, g5⟩ := Y)
  refine bodyPost_ret (v := .tuple #[.agg #[.int .i64 K, .int .i64 N, .int .i64 B, .int .i64 A, .int .i64 S, .int .i64 Q], .bool true]) (by simp [results, Try.results41, go_sem, d0, d1, d2, d3, d4, d5]) rfl ⟨rfl, ?_⟩
  repeat (with_reducible refine Below.setCell ?_ (by simp) _)
  exact HB

theorem pnext_yes (c : Ct) (d : Int) (h : cright c) (hd : inr d) (w : World) :
    Calls Try.prog 41 #[.agg #[.int .i64 c.k, .int .i64 c.n, .int .i64 c.b, .int .i64 c.a, .int .i64 c.s, .int .i64 c.q], .int .i64 d] w fun e w' => e = .returned (.tuple #[.agg #[.int .i64 (K.nx c d).k, .int .i64 (K.nx c d).n, .int .i64 (K.nx c d).b, .int .i64 (K.nx c d).a, .int .i64 (K.nx c d).s, .int .i64 (K.nx c d).q], .bool true]) ∧ Below w.heap.size w w' := by
  obtain ⟨k, n, b, a, s, q⟩ := c
  rcases h with h | h | h
  · obtain rfl : k = 1 := h.1
    exact pn1 n b a s q d _ _ _ _ _ _ w (fun v => by have := V.ref_yes 1 n b a s q d v h hd; rw [show K.nx ⟨1, n, b, a, s, q⟩ d = kn ⟨1, n, b, a, s, q⟩ d from rfl]; obtain ⟨_, _, _, e1, e2, e3⟩ := h; simp only at e1 e2 e3; subst e1 e2 e3; exact this)
  · obtain rfl : k = 2 := h.1
    exact pn2 n b a s q d _ _ _ _ _ _ w (fun v => by have := C.lnext_yes 2 n b a s q d v h hd; rw [show K.nx ⟨2, n, b, a, s, q⟩ d = ln ⟨2, n, b, a, s, q⟩ d from rfl]; obtain ⟨_, _, _, _, _, e3⟩ := h; simp only at e3; subst e3; exact this)
  · obtain rfl : k = 3 := h.1
    exact pn3 n b a s q d _ _ _ _ _ _ w (fun v => by have := L.ref_yes 3 n b a s q d v h hd; rw [show K.nx ⟨3, n, b, a, s, q⟩ d = mn ⟨3, n, b, a, s, q⟩ d from rfl]; obtain ⟨_, _, _, e1, e2, _⟩ := h; simp only at e1 e2; subst e1 e2; exact this)

end Go.Proofs.Ytbnofjpiioneiaa.D


namespace Go.Proofs.Ytbnofjpiioneiaa.D
open Go.RowKit K

theorem tok : Hid True := trivial

set_option maxHeartbeats 3200000 in
theorem pwrong_kind (k0 k1 r m j : Int) (w : World) (h : min k0 k1 < 1 ∨ decide (min k0 k1 < 1) = false ∧ 3 < max k0 k1) :
    Calls Try.prog 38 #[.agg #[.int .i64 k0, .int .i64 k1, .int .i64 r, .int .i64 m, .int .i64 j]] w fun e w' => e = .returned (.int .i64 5) ∧ Below w.heap.size w w' := by
  rcases h with h | ⟨h, h'⟩
  all_goals
    go_enter Try.func38, Try.ntmps38
    go_wp2
    go_ret
    exact ⟨rfl, balloc (Below.refl _ _) _⟩

set_option maxHeartbeats 3200000 in
theorem pwrong_of (k0 k1 r m j : Int) (w : World) (h : decide (min k0 k1 < 1) = false) (h' : decide (3 < max k0 k1) = false) (t0 t1 t2 t3 t4 t5 : Bool) (h0 : decide (r < 1) = t0) (h1 : decide (12 < r) = t1) (h2 : decide (m < 0) = t2) (h3 : decide (16 < m) = t3) (h4 : decide (j < 0) = t4) (h5 : decide (3 < j) = t5) :
    Calls Try.prog 38 #[.agg #[.int .i64 k0, .int .i64 k1, .int .i64 r, .int .i64 m, .int .i64 j]] w fun e w' => e = .returned (.int .i64 (if (t0 || (t1 || (t2 || (t3 || (t4 || t5))))) then 2 else 0)) ∧ Below w.heap.size w w' := by
  cases t0
  case' false => cases t1
  case' false.false => cases t2
  case' false.false.false => cases t3
  case' false.false.false.false => cases t4
  case' false.false.false.false.false => cases t5
  all_goals
    go_enter Try.func38, Try.ntmps38
    go_wp2
    go_ret
    exact ⟨rfl, balloc (Below.refl _ _) _⟩

theorem pwrong_any (r : Ru) (w : World) :
    Calls Try.prog 38 #[.agg #[.int .i64 r.k0, .int .i64 r.k1, .int .i64 r.r, .int .i64 r.m, .int .i64 r.j]] w fun e w' => e = .returned (.int .i64 (wrong r)) ∧ Below w.heap.size w w' := by
  by_cases hk : kinds r
  · have hk' := hk
    unfold kinds at hk'
    have := pwrong_of r.k0 r.k1 r.r r.m r.j w (decide_eq_false (by omega)) (decide_eq_false (by omega)) _ _ _ _ _ _ rfl rfl rfl rfl rfl rfl
    refine this.mono ?_
    rintro e w' ⟨rfl, b⟩
    refine ⟨?_, b⟩
    congr 2
    unfold wrong
    rw [if_pos hk]
    by_cases hr : ranges r
    · rw [if_pos hr]
      unfold ranges at hr
      rw [if_neg]
      simp only [Bool.or_eq_true, decide_eq_true_iff]
      omega
    · rw [if_neg hr]
      unfold ranges at hr
      rw [if_pos]
      simp only [Bool.or_eq_true, decide_eq_true_iff]
      omega
  · rw [show wrong r = 5 by unfold wrong; rw [if_neg hk]]
    unfold kinds at hk
    refine pwrong_kind r.k0 r.k1 r.r r.m r.j w ?_
    by_cases h : min r.k0 r.k1 < 1
    · exact .inl h
    · exact .inr ⟨decide_eq_false h, by omega⟩
theorem pwrong_is (r : Ru) (e : Int) (h : wrong r = e) (w : World) :
    Calls Try.prog 38 #[.agg #[.int .i64 r.k0, .int .i64 r.k1, .int .i64 r.r, .int .i64 r.m, .int .i64 r.j]] w fun x w' => x = .returned (.int .i64 e) ∧ Below w.heap.size w w' := by subst h; exact pwrong_any r w

theorem one_any (k : Int) (w : World) :
    Calls Try.prog 39 #[.int .i64 k] w fun e w' => e = .returned (.agg #[.int .i64 k, .int .i64 1, .int .i64 (-1), .int .i64 0, .int .i64 0, .int .i64 0]) ∧ Below w.heap.size w w' := by
  go_enter Try.func39, Try.ntmps39
  go_wp2
  exact bodyPost_ret (by simp [results, Try.results39, go_sem]) rfl ⟨rfl, balloc (Below.refl _ _) _⟩

set_option maxHeartbeats 3200000 in
theorem pstart_no (r : Ru) (e : Int) (h : wrong r = e) (he : (e != 0) = true) (w : World) :
    Calls Try.prog 27 #[.agg #[.int .i64 r.k0, .int .i64 r.k1, .int .i64 r.r, .int .i64 r.m, .int .i64 r.j]] w fun x w' => x = .returned (.tuple #[.agg #[.int .i64 0, .int .i64 0, .int .i64 0, .int .i64 0, .int .i64 0, .int .i64 0, .int .i64 0, .int .i64 0, .int .i64 0, .int .i64 0, .int .i64 0, .int .i64 0, .int .i64 0, .int .i64 0], .int .i64 e]) ∧ Below w.heap.size w w' := by
  have p := fun v => pwrong_is r e h v
  obtain ⟨k0, k1, rr, m, j⟩ := r
  have X := Rul.new w _ rfl k0 k1 rr m j
  have Y := Sta.new (w.alloc (.cells #[.int .i64 k0, .int .i64 k1, .int .i64 rr, .int .i64 m, .int .i64 j] 24)) (w.heap.size + 1) (by simp) 0 0 0 0 0 0 0 0 0 0 0 0 0 0
  have B : Below w.heap.size w ((w.alloc (.cells #[.int .i64 k0, .int .i64 k1, .int .i64 rr, .int .i64 m, .int .i64 j] 24)).alloc (.cells #[.int .i64 0, .int .i64 0, .int .i64 0, .int .i64 0, .int .i64 0, .int .i64 0, .int .i64 0, .int .i64 0, .int .i64 0, .int .i64 0, .int .i64 0, .int .i64 0, .int .i64 0, .int .i64 0] 38)) := balloc (balloc (Below.refl _ _) _) _
  go_enter Try.func27, Try.ntmps27
  go_wp2_with (go_at_call 38; refine (p _).mono ?_; clear p; rintro x v ⟨rfl, b⟩; replace Y := Y.kept b; replace B := bthen B b; obtain ⟨y0, y1, y2, y3, y4, y5, y6, y7, y8, y9, y10, y11, y12, y13, g0, g1, g2, g3, g4, g5, g6, g7, g8, g9, g10, g11, g12, g13⟩ := id Y)
  refine bodyPost_ret (v := .tuple #[.agg #[.int .i64 0, .int .i64 0, .int .i64 0, .int .i64 0, .int .i64 0, .int .i64 0, .int .i64 0, .int .i64 0, .int .i64 0, .int .i64 0, .int .i64 0, .int .i64 0, .int .i64 0, .int .i64 0], .int .i64 e]) ?_ rfl ⟨rfl, ?_⟩
  · simp [results, Try.results27, go_sem, y0, y1, y2, y3, y4, y5, y6, y7, y8, y9, y10, y11, y12, y13]
  · repeat (with_reducible refine Below.setCell ?_ (by simp) _)
    exact B

set_option maxHeartbeats 3200000 in
theorem pstart_yes (r : Ru) (h : wrong r = 0) (w : World) :
    Calls Try.prog 27 #[.agg #[.int .i64 r.k0, .int .i64 r.k1, .int .i64 r.r, .int .i64 r.m, .int .i64 r.j]] w fun x w' => x = .returned (.tuple #[.agg #[.int .i64 r.k0, .int .i64 1, .int .i64 (-1), .int .i64 0, .int .i64 0, .int .i64 0, .int .i64 r.k1, .int .i64 1, .int .i64 (-1), .int .i64 0, .int .i64 0, .int .i64 0, .int .i64 0, .int .i64 0], .int .i64 0]) ∧ Below w.heap.size w w' := by
  have p := fun v => pwrong_is r 0 h v
  obtain ⟨k0, k1, rr, m, j⟩ := r
  have X := Rul.new w _ rfl k0 k1 rr m j
  replace X := X.alloc (.cells #[.int .i64 0, .int .i64 0, .int .i64 0, .int .i64 0, .int .i64 0, .int .i64 0, .int .i64 0, .int .i64 0, .int .i64 0, .int .i64 0, .int .i64 0, .int .i64 0, .int .i64 0, .int .i64 0] 38)
  have Y := Sta.new (w.alloc (.cells #[.int .i64 k0, .int .i64 k1, .int .i64 rr, .int .i64 m, .int .i64 j] 24)) (w.heap.size + 1) (by simp) 0 0 0 0 0 0 0 0 0 0 0 0 0 0
  have B : Below w.heap.size w ((w.alloc (.cells #[.int .i64 k0, .int .i64 k1, .int .i64 rr, .int .i64 m, .int .i64 j] 24)).alloc (.cells #[.int .i64 0, .int .i64 0, .int .i64 0, .int .i64 0, .int .i64 0, .int .i64 0, .int .i64 0, .int .i64 0, .int .i64 0, .int .i64 0, .int .i64 0, .int .i64 0, .int .i64 0, .int .i64 0] 38)) := balloc (balloc (Below.refl _ _) _) _
  have T1 := tok
  go_enter Try.func27, Try.ntmps27
  go_wp2_with (go_at_call 38; refine (p _).mono ?_; clear p; rintro x v ⟨rfl, b⟩; replace X := X.kept b; replace Y := Y.kept b; replace B := bthen B b)
  go_region_held3 (fun w' => w'.cell? ⟨w.heap.size, 0, none⟩ = some (.int .i64 k0) ∧ w'.cell? ⟨w.heap.size, 1, none⟩ = some (.int .i64 k1)) (first | with_reducible exact ⟨X.c0, X.c1⟩ | with_reducible exact ⟨X.drew.c0, X.drew.c1⟩ | go_keep)
    (first
    | (clear T1; go_at_call 39; refine (one_any _ _).mono ?_; rintro x v1 ⟨rfl, b⟩; replace X := (X.drewN 1).kept b; replace Y := (Y.drewN 1).kept b; replace B := bthen (below_drewN B 1) b; clear b)
    | (go_at_call 39; refine (one_any _ _).mono ?_; rintro x v2 ⟨rfl, b⟩; replace X := X.kept b; replace Y := Y.kept b; replace B := bthen B b; clear b; obtain ⟨y0, y1, y2, y3, y4, y5, y6, y7, y8, y9, y10, y11, y12, y13, g0, g1, g2, g3, g4, g5, g6, g7, g8, g9, g10, g11, g12, g13⟩ := id Y; obtain ⟨xx0, xx1, _, _, _, _, _, _, _, _⟩ := id X))
  all_goals
    go_wp2
    refine bodyPost_ret (v := .tuple #[.agg #[.int .i64 k0, .int .i64 1, .int .i64 (-1), .int .i64 0, .int .i64 0, .int .i64 0, .int .i64 k1, .int .i64 1, .int .i64 (-1), .int .i64 0, .int .i64 0, .int .i64 0, .int .i64 0, .int .i64 0], .int .i64 0]) ?_ rfl ⟨rfl, ?_⟩
    · simp [results, Try.results27, go_sem, y0, y1, y2, y3, y4, y5, y6, y7, y8, y9, y10, y11, y12, y13]
    · repeat (with_reducible refine Below.setCell ?_ (by simp) _)
      exact B

end Go.Proofs.Ytbnofjpiioneiaa.D


namespace Go.Proofs.Ytbnofjpiioneiaa.D
open Go.RowKit K

theorem at0 (k0 n0 b0 a0 c0 q0 k1 n1 b1 a1 c1 q1 : Int) (w : World) : (Instr.index 36 (.agg #[.int .i64 k0, .int .i64 n0, .int .i64 b0, .int .i64 a0, .int .i64 c0, .int .i64 q0, .int .i64 k1, .int .i64 n1, .int .i64 b1, .int .i64 a1, .int .i64 c1, .int .i64 q1]) (.int .i64 0)).run Try.prog w = .ok (.agg #[.int .i64 k0, .int .i64 n0, .int .i64 b0, .int .i64 a0, .int .i64 c0, .int .i64 q0]) w := by kernel_rfl
theorem at1 (k0 n0 b0 a0 c0 q0 k1 n1 b1 a1 c1 q1 : Int) (w : World) : (Instr.index 36 (.agg #[.int .i64 k0, .int .i64 n0, .int .i64 b0, .int .i64 a0, .int .i64 c0, .int .i64 q0, .int .i64 k1, .int .i64 n1, .int .i64 b1, .int .i64 a1, .int .i64 c1, .int .i64 q1]) (.int .i64 1)).run Try.prog w = .ok (.agg #[.int .i64 k1, .int .i64 n1, .int .i64 b1, .int .i64 a1, .int .i64 c1, .int .i64 q1]) w := by kernel_rfl
attribute [local go_sem] at0 at1

/-- the rules lie there -/
structure RSt (w : World) (p0 p1 r m j : Int) (W : World) : Prop where
  hR : Rul W w.heap.size p0 p1 r m j
  hB : Below w.heap.size w W
theorem RSt.kept {w W W' : World} {p0 p1 r m j : Int} (h : RSt w p0 p1 r m j W) (g : Below W.heap.size W W') : RSt w p0 p1 r m j W' := ⟨h.hR.kept g, bthen h.hB g⟩

set_option maxHeartbeats 6400000 in
theorem pright_of (p0 p1 r m j k0 n0 b0 a0 c0 q0 k1 n1 b1 a1 c1 q1 w0 w1 k2 n2 b2 a2 c2 q2 k3 n3 b3 a3 c3 q3 : Int) (w : World) (pw : ∀ v, Calls Try.prog 38 #[.agg #[.int .i64 p0, .int .i64 p1, .int .i64 r, .int .i64 m, .int .i64 j]] v fun e w' => e = .returned (.int .i64 0) ∧ Below v.heap.size v w')
    (x0 : ∀ v, Calls Try.prog 41 #[.agg #[.int .i64 k0, .int .i64 n0, .int .i64 b0, .int .i64 a0, .int .i64 c0, .int .i64 q0], .int .i64 0] v fun e w' => e = .returned (.tuple #[.agg #[.int .i64 k2, .int .i64 n2, .int .i64 b2, .int .i64 a2, .int .i64 c2, .int .i64 q2], .bool true]) ∧ Below v.heap.size v w')
    (x1 : ∀ v, Calls Try.prog 41 #[.agg #[.int .i64 k1, .int .i64 n1, .int .i64 b1, .int .i64 a1, .int .i64 c1, .int .i64 q1], .int .i64 0] v fun e w' => e = .returned (.tuple #[.agg #[.int .i64 k3, .int .i64 n3, .int .i64 b3, .int .i64 a3, .int .i64 c3, .int .i64 q3], .bool true]) ∧ Below v.heap.size v w')
    (g0 : decide (min w0 w1 < 0) = false) (g1 : decide (16 < max w0 w1) = false) (g2 : decide (m < w0 + w1) = false) (i0 : 0 ≤ w0 ∧ w0 ≤ 16) (i1 : 0 ≤ w1 ∧ w1 ≤ 16) (e0 : k0 = p0) (e1 : k1 = p1) :
    Calls Try.prog 40 #[.agg #[.int .i64 p0, .int .i64 p1, .int .i64 r, .int .i64 m, .int .i64 j], .agg #[.int .i64 k0, .int .i64 n0, .int .i64 b0, .int .i64 a0, .int .i64 c0, .int .i64 q0, .int .i64 k1, .int .i64 n1, .int .i64 b1, .int .i64 a1, .int .i64 c1, .int .i64 q1, .int .i64 w0, .int .i64 w1]] w fun e w' => e = .returned (.bool true) ∧ Below w.heap.size w w' := by
  subst e0 e1
  have Z : RSt w k0 k1 r m j ((w.alloc (.cells #[.int .i64 k0, .int .i64 k1, .int .i64 r, .int .i64 m, .int .i64 j] 24)).alloc (.cells #[.int .i64 k0, .int .i64 n0, .int .i64 b0, .int .i64 a0, .int .i64 c0, .int .i64 q0, .int .i64 k1, .int .i64 n1, .int .i64 b1, .int .i64 a1, .int .i64 c1, .int .i64 q1, .int .i64 w0, .int .i64 w1] 38)) := ⟨(Rul.new w _ rfl k0 k1 r m j).alloc _, balloc (balloc (Below.refl _ _) _) _⟩
  have Y := Sta.new (w.alloc (.cells #[.int .i64 k0, .int .i64 k1, .int .i64 r, .int .i64 m, .int .i64 j] 24)) (w.heap.size + 1) (by simp) k0 n0 b0 a0 c0 q0 k1 n1 b1 a1 c1 q1 w0 w1
  go_enter Try.func40, Try.ntmps40
  go_wp2_with (go_at_call 38; refine (pw _).mono ?_; clear pw; rintro x v ⟨rfl, b⟩; replace Z := Z.kept b; replace Y := Y.kept b; clear b; obtain ⟨y0, y1, y2, y3, y4, y5, y6, y7, y8, y9, y10, y11, y12, y13, _, _, _, _, _, _, _, _, _, _, _, _, _, _⟩ := Y; obtain ⟨⟨r0, r1, r2, r3, r4, _, _, _, _, _⟩, _⟩ := id Z)
  clear y0 y1 y2 y3 y4 y5 y6 y7 y8 y9 y10 y11 y12 y13 r0 r1 r2 r3 r4
  go_loopw [46] (fun i wr => (i = .int .i64 0 ∨ i = .int .i64 1 ∨ i = .int .i64 2) ∧ RSt w k0 k1 r m j wr) (fun i _ => 2 - (intOf i).toNat)
  case atStart => exact ⟨.inl rfl, Z⟩
  case round =>
    clear Z
    obtain ⟨rfl | rfl | rfl, Z⟩ := hrel
    · have Q := C.Ctl.new wr _ rfl k0 n0 b0 a0 c0 q0
      obtain ⟨u0, u1, u2, u3, u4, u5, _, _, _, _, _, _⟩ := id Q
      replace Z := Z.kept (balloc (Below.refl _ _) (.cells #[.int .i64 k0, .int .i64 n0, .int .i64 b0, .int .i64 a0, .int .i64 c0, .int .i64 q0] 35))
      go_wp2_with (go_at_call 41; refine (x0 _).mono ?_; clear x0 u0 u1 u2 u3 u4 u5; rintro x v1 ⟨rfl, b⟩; replace Z := (Z.kept b).kept (balloc (Below.refl _ _) (.cells #[.int .i64 k2, .int .i64 n2, .int .i64 b2, .int .i64 a2, .int .i64 c2, .int .i64 q2] 35)); replace Q := (Q.kept b).alloc (.cells #[.int .i64 k2, .int .i64 n2, .int .i64 b2, .int .i64 a2, .int .i64 c2, .int .i64 q2] 35); clear b; obtain ⟨u0, _, _, _, _, _, _, _, _, _, _, _⟩ := Q; obtain ⟨⟨r0, r1, _, _, _, _, _, _, _, _⟩, _⟩ := id Z)
      go_quiet (fail)
      go_wp2
      go_roundw
      case rel => exact ⟨.inr (.inl rfl), Z.kept (below_drewN (Below.refl _ _) _)⟩
      case measure => simp [intOf]
    · have Q := C.Ctl.new wr _ rfl k1 n1 b1 a1 c1 q1
      obtain ⟨u0, u1, u2, u3, u4, u5, _, _, _, _, _, _⟩ := id Q
      replace Z := Z.kept (balloc (Below.refl _ _) (.cells #[.int .i64 k1, .int .i64 n1, .int .i64 b1, .int .i64 a1, .int .i64 c1, .int .i64 q1] 35))
      go_wp2_with (go_at_call 41; refine (x1 _).mono ?_; clear x1 u0 u1 u2 u3 u4 u5; rintro x v1 ⟨rfl, b⟩; replace Z := (Z.kept b).kept (balloc (Below.refl _ _) (.cells #[.int .i64 k3, .int .i64 n3, .int .i64 b3, .int .i64 a3, .int .i64 c3, .int .i64 q3] 35)); replace Q := (Q.kept b).alloc (.cells #[.int .i64 k3, .int .i64 n3, .int .i64 b3, .int .i64 a3, .int .i64 c3, .int .i64 q3] 35); clear b; obtain ⟨u0, _, _, _, _, _, _, _, _, _, _, _⟩ := Q; obtain ⟨⟨r0, r1, _, _, _, _, _, _, _, _⟩, _⟩ := id Z)
      go_quiet (fail)
      go_wp2
      go_roundw
      case rel => exact ⟨.inr (.inr rfl), Z.kept (below_drewN (Below.refl _ _) _)⟩
      case measure => simp [intOf]
    · go_wp2
      go_ret
      exact ⟨rfl, Z.hB⟩

theorem pright_yes (r : Ru) (s : Sx) (h : pright r s) (w : World) :
    Calls Try.prog 40 #[.agg #[.int .i64 r.k0, .int .i64 r.k1, .int .i64 r.r, .int .i64 r.m, .int .i64 r.j], .agg #[.int .i64 s.f0.k, .int .i64 s.f0.n, .int .i64 s.f0.b, .int .i64 s.f0.a, .int .i64 s.f0.s, .int .i64 s.f0.q, .int .i64 s.f1.k, .int .i64 s.f1.n, .int .i64 s.f1.b, .int .i64 s.f1.a, .int .i64 s.f1.s, .int .i64 s.f1.q, .int .i64 s.w0, .int .i64 s.w1]] w fun e w' => e = .returned (.bool true) ∧ Below w.heap.size w w' := by
  have hi : inr 0 := by unfold inr; omega
  have pw := fun v => pwrong_is r 0 (wrong_ok.2 h.1) v
  have x0 := fun v => pnext_yes s.f0 0 h.2.1.1 hi v
  have x1 := fun v => pnext_yes s.f1 0 h.2.2.1.1 hi v
  have hr := h.1.2
  unfold ranges at hr
  obtain ⟨_, ⟨_, e0⟩, ⟨_, e1⟩, h5, h6, h7⟩ := h
  exact pright_of r.k0 r.k1 r.r r.m r.j s.f0.k s.f0.n s.f0.b s.f0.a s.f0.s s.f0.q s.f1.k s.f1.n s.f1.b s.f1.a s.f1.s s.f1.q s.w0 s.w1 _ _ _ _ _ _ _ _ _ _ _ _ w pw x0 x1 (decide_eq_false (by omega)) (decide_eq_false (by omega)) (decide_eq_false (by omega)) (by omega) (by omega) e0 e1

end Go.Proofs.Ytbnofjpiioneiaa.D


namespace Go.Proofs.Ytbnofjpiioneiaa.K
open Go.RowKit
attribute [local go_sem] idx0 idx1

set_option maxHeartbeats 3200000 in
theorem oright_not (r m a b s t : Int) (w : World) (t0 t1 t2 t3 t4 t5 t6 t7 : Bool) (h0 : decide (1 ≤ r) = t0) (h1 : decide (r ≤ 12) = t1) (h2 : decide (0 ≤ m) = t2) (h3 : decide (m ≤ 16) = t3) (h4 : decide (0 ≤ a) = t4) (h5 : decide (0 ≤ b) = t5) (h6 : decide (a ≤ 16) = t6) (h7 : decide (b ≤ 16 - min a 16) = t7) (ha : t4 = true → 0 ≤ a)
    (hn : (t0 && (t1 && (t2 && (t3 && (t4 && (t5 && (t6 && t7))))))) = false) :
    Calls Try.prog 56 #[.int .i64 r, .int .i64 m, .agg #[.int .i64 a, .int .i64 b], .agg #[.int .i64 s, .int .i64 t]] w fun e w' => e = .returned (.bool false) ∧ w' = (w.alloc (.cells #[.int .i64 a, .int .i64 b] 22)).alloc (.cells #[.int .i64 s, .int .i64 t] 22) := by
  cases t0
  case' true => cases t1
  case' true.true => cases t2
  case' true.true.true => cases t3
  case' true.true.true.true => cases t4
  case' true.true.true.true.true => cases t5
  case' true.true.true.true.true.true => cases t6
  case' true.true.true.true.true.true.true => obtain rfl : t7 = false := hn
  all_goals
    first | replace ha := ha rfl | clear ha
    try clear hn
    go_enter Try.func56, Try.ntmps56
    go_wp2
    go_loop [9, 51] (fun ok i => ok = .bool false ∧ (i = .int .i64 0 ∨ i = .int .i64 1 ∨ i = .int .i64 2)) (fun _ i => 2 - (intOf i).toNat)
    case atStart => exact ⟨rfl, .inl rfl⟩
    case round =>
      obtain ⟨rfl, rfl | rfl | rfl⟩ := hrel
      · go_wp2
        go_round
        case rel => exact ⟨rfl, .inr (.inl rfl)⟩
        case measure => simp [intOf]
      · go_wp2
        go_round
        case rel => exact ⟨rfl, .inr (.inr rfl)⟩
        case measure => simp [intOf]
      · go_wp2
        go_ret
        exact ⟨rfl, rfl⟩

set_option maxHeartbeats 3200000 in
theorem oright_yes (r m a b s t : Int) (w : World) (h0 : 1 ≤ r) (h1 : r ≤ 12) (h2 : 0 ≤ m) (h3 : m ≤ 16) (h4 : 0 ≤ a) (h5 : 0 ≤ b) (h6 : a ≤ 16) (h7 : b ≤ 16 - min a 16) (x0 x1 y0 y1 : Bool) (k0 : decide (0 ≤ s) = x0) (k1 : decide (s ≤ 12) = x1) (j0 : decide (0 ≤ t) = y0) (j1 : decide (t ≤ 12) = y1) :
    Calls Try.prog 56 #[.int .i64 r, .int .i64 m, .agg #[.int .i64 a, .int .i64 b], .agg #[.int .i64 s, .int .i64 t]] w fun e w' => e = .returned (.bool (x0 && x1 && (y0 && y1))) ∧ w' = (w.alloc (.cells #[.int .i64 a, .int .i64 b] 22)).alloc (.cells #[.int .i64 s, .int .i64 t] 22) := by
  go_enter Try.func56, Try.ntmps56
  go_wp2
  go_loop [9, 51] (fun ok i => i = .int .i64 0 ∧ ok = .bool true ∨ i = .int .i64 1 ∧ ok = .bool (x0 && x1) ∨ i = .int .i64 2 ∧ ok = .bool (x0 && x1 && (y0 && y1))) (fun _ i => 2 - (intOf i).toNat)
  case atStart => exact .inl ⟨rfl, rfl⟩
  case round =>
    obtain ⟨rfl, rfl⟩ | ⟨rfl, rfl⟩ | ⟨rfl, rfl⟩ := hrel
    · cases x0
      case' true => cases x1
      all_goals
        go_wp2
        go_round
        case rel => exact .inr (.inl ⟨rfl, rfl⟩)
        case measure => simp [intOf]
    · generalize (x0 && x1) = z
      cases z
      case' true => cases y0
      case' true.true => cases y1
      all_goals
        go_wp2
        go_round
        case rel => exact .inr (.inr ⟨rfl, rfl⟩)
        case measure => simp [intOf]
    · go_wp2
      go_ret
      exact ⟨rfl, rfl⟩

theorem oright_any (r m a b s t : Int) (w : World) :
    Calls Try.prog 56 #[.int .i64 r, .int .i64 m, .agg #[.int .i64 a, .int .i64 b], .agg #[.int .i64 s, .int .i64 t]] w fun e w' => e = .returned (.bool (decide (lr r m a b s t))) ∧ w' = (w.alloc (.cells #[.int .i64 a, .int .i64 b] 22)).alloc (.cells #[.int .i64 s, .int .i64 t] 22) := by
  by_cases h : 1 ≤ r ∧ r ≤ 12 ∧ 0 ≤ m ∧ m ≤ 16 ∧ 0 ≤ a ∧ 0 ≤ b ∧ a ≤ 16 ∧ b ≤ 16 - min a 16
  · obtain ⟨h0, h1, h2, h3, h4, h5, h6, h7⟩ := h
    refine (oright_yes r m a b s t w h0 h1 h2 h3 h4 h5 h6 h7 _ _ _ _ rfl rfl rfl rfl).mono ?_
    rintro e w' ⟨rfl, rfl⟩
    refine ⟨?_, rfl⟩
    congr 2
    rw [Bool.eq_iff_iff]
    simp only [Bool.and_eq_true, decide_eq_true_iff]
    unfold lr
    omega
  · rw [show decide (lr r m a b s t) = false from decide_eq_false (fun k => h (by unfold lr at k; omega))]
    refine oright_not r m a b s t w _ _ _ _ _ _ _ _ rfl rfl rfl rfl rfl rfl rfl rfl (fun k => of_decide_eq_true k) ?_
    rw [Bool.eq_false_iff]
    intro k
    simp only [Bool.and_eq_true, decide_eq_true_iff] at k
    exact h (by omega)

set_option maxHeartbeats 1600000 in
set_option linter.unusedVariables false in
theorem upto_of (n a b s t o0 o1 k h g x y q0 q1 : Int) (w : World) (hn : 0 ≤ n ∧ n ≤ 28) (ha : 0 ≤ a ∧ a ≤ 16) (hb : 0 ≤ b ∧ b ≤ 16) (hs : 0 ≤ s ∧ s ≤ 12) (ht : 0 ≤ t ∧ t ≤ 12) (e0 : min n a = o0) (e1 : min (n - o0) b = o1) (e2 : n - (o0 + o1) = k) (e3 : min s t = h) (e4 : min k (s + t) = g) (d0 : (k + 1).tdiv 2 = q0) (d1 : k.tdiv 2 = q1)
    (i0 : 0 ≤ o0 ∧ o0 ≤ 16) (i1 : 0 ≤ o1 ∧ o1 ≤ 16) (i2 : 0 ≤ k ∧ k ≤ 28) (i3 : 0 ≤ h ∧ h ≤ 12) (i4 : 0 ≤ g ∧ g ≤ 28) (i5 : 0 ≤ q0 ∧ q0 ≤ 28) (i6 : 0 ≤ q1 ∧ q1 ≤ 28)
    (hc : k ≤ 2 * h ∧ x = o0 + q0 ∧ y = o1 + q1 ∨ decide (k ≤ 2 * h) = false ∧ h < s ∧ x = o0 + g - h ∧ y = o1 + h ∨ decide (k ≤ 2 * h) = false ∧ decide (h < s) = false ∧ x = o0 + h ∧ y = o1 + g - h) :
    Calls Try.prog 57 #[.int .i64 n, .agg #[.int .i64 a, .int .i64 b], .agg #[.int .i64 s, .int .i64 t]] w fun e w' => e = .returned (.agg #[.int .i64 x, .int .i64 y]) ∧ Below w.heap.size w w' := by
  rcases hc with ⟨c0, rfl, rfl⟩ | ⟨c0, c1, rfl, rfl⟩ | ⟨c0, c1, rfl, rfl⟩
  all_goals
    go_enter Try.func57, Try.ntmps57
    go_wp2
    refine bodyPost_ret (by simp [results, Try.results57, go_sem]) rfl ⟨rfl, ?_⟩
    exact balloc (balloc (balloc (balloc (Below.refl _ _) _) _) _) _

theorem upto_any (n a b s t : Int) (w : World) (hn : 0 ≤ n ∧ n ≤ 28) (ha : 0 ≤ a ∧ a ≤ 16) (hb : 0 ≤ b ∧ b ≤ 16) (hs : 0 ≤ s ∧ s ≤ 12) (ht : 0 ≤ t ∧ t ≤ 12) :
    Calls Try.prog 57 #[.int .i64 n, .agg #[.int .i64 a, .int .i64 b], .agg #[.int .i64 s, .int .i64 t]] w fun e w' => e = .returned (.agg #[.int .i64 (u0 n a b s t), .int .i64 (u1 n a b s t)]) ∧ Below w.heap.size w w' := by
  have p0 : (n - (min n a + min (n - min n a) b) + 1).tdiv 2 = (n - (min n a + min (n - min n a) b) + 1) / 2 := Int.tdiv_eq_ediv_of_nonneg (by omega)
  have p1 : (n - (min n a + min (n - min n a) b)).tdiv 2 = (n - (min n a + min (n - min n a) b)) / 2 := Int.tdiv_eq_ediv_of_nonneg (by omega)
  refine upto_of n a b s t _ _ _ _ _ _ _ _ _ w hn ha hb hs ht rfl rfl rfl rfl rfl p0 p1 (by omega) (by omega) (by omega) (by omega) (by omega) (by omega) (by omega) ?_
  unfold u0 u1
  by_cases h1 : n - (min n a + min (n - min n a) b) ≤ 2 * min s t
  · rw [if_pos h1, if_pos h1]
    exact .inl ⟨h1, rfl, rfl⟩
  · rw [if_neg h1, if_neg h1]
    by_cases h2 : s > min s t
    · rw [if_pos h2, if_pos h2]
      exact .inr (.inl ⟨decide_eq_false h1, h2, rfl, rfl⟩)
    · rw [if_neg h2, if_neg h2]
      exact .inr (.inr ⟨decide_eq_false h1, decide_eq_false h2, rfl, rfl⟩)

end Go.Proofs.Ytbnofjpiioneiaa.K
