/- PROVED: what the verifier's pnext answers where all is right. what the verifier's PWrong and PStart answer. CONDITIONS: none beyond each theorem's own. -/
import Derived.Test.YtjageagnclmnjaaGreatDoorT38VYes
import Derived.Test.YtjageagnclmnjaaGreatDoorT39CLn
import Derived.Test.YtjageagnclmnjaaGreatDoorT40LRefNext
import Derived.Test.YtjageagnclmnjaaGreatDoorB01Tx
import Derived.Test.YtjageagnclmnjaaGreatDoorB19LCtl
import Derived.Test.YtjageagnclmnjaaGreatDoorB02DMem
import Derived.Deep.RegionHeld3
namespace Go.Proofs.YtjageagnclmnjaaGreatDoor.D
open Go.RowKit K

theorem two {w w1 : World} {k n b a s q : Int} (hb : Below ((w.alloc (.cells #[.int .i64 k, .int .i64 n, .int .i64 b, .int .i64 a, .int .i64 s, .int .i64 q] 42)).alloc (.cells #[.int .i64 0, .int .i64 0, .int .i64 0, .int .i64 0, .int .i64 0, .int .i64 0] 42)).heap.size ((w.alloc (.cells #[.int .i64 k, .int .i64 n, .int .i64 b, .int .i64 a, .int .i64 s, .int .i64 q] 42)).alloc (.cells #[.int .i64 0, .int .i64 0, .int .i64 0, .int .i64 0, .int .i64 0, .int .i64 0] 42)) w1) :
    C.Ctl w1 w.heap.size k n b a s q ∧ C.Ctl w1 (w.heap.size + 1) 0 0 0 0 0 0 := C.two hb

set_option maxHeartbeats 1600000 in
theorem pn1 (n b a s q d K N B A S Q : Int) (w : World) (c : ∀ v, Calls Tryz.prog 135 #[.agg #[.int .i64 1, .int .i64 n, .int .i64 b, .int .i64 a, .int .i64 s, .int .i64 q], .int .i64 d] v fun e w' => e = .returned (.tuple #[.agg #[.int .i64 K, .int .i64 N, .int .i64 B, .int .i64 A, .int .i64 S, .int .i64 Q], .int .i64 0]) ∧ Below v.heap.size v w') :
    Calls Tryz.prog 105 #[.agg #[.int .i64 1, .int .i64 n, .int .i64 b, .int .i64 a, .int .i64 s, .int .i64 q], .int .i64 d] w fun e w' => e = .returned (.tuple #[.agg #[.int .i64 K, .int .i64 N, .int .i64 B, .int .i64 A, .int .i64 S, .int .i64 Q], .bool true]) ∧ Below w.heap.size w w' := by
  go_enter Tryz.func105, Tryz.ntmps105
  go_wp2_with (go_at_call 135; refine (c _).mono ?_; clear c; rintro e w1 ⟨rfl, HB⟩; obtain ⟨X, Y⟩ := two HB; replace HB := C.up2 HB; obtain ⟨c0, c1, c2, c3, c4, c5, f0, f1, f2, f3, f4, f5⟩ := X; obtain ⟨d0, d1, d2, d3, d4, d5, g0, g1, g2, g3, g4, g5⟩ := Y)
  refine bodyPost_ret (v := .tuple #[.agg #[.int .i64 K, .int .i64 N, .int .i64 B, .int .i64 A, .int .i64 S, .int .i64 Q], .bool true]) (by simp [results, Tryz.results105, go_sem, d0, d1, d2, d3, d4, d5]) rfl ⟨rfl, ?_⟩
  repeat (with_reducible refine Below.setCell ?_ (by simp) _)
  exact HB

set_option maxHeartbeats 1600000 in
theorem pn2 (n b a s q d K N B A S Q : Int) (w : World) (c : ∀ v, Calls Tryz.prog 136 #[.agg #[.int .i64 2, .int .i64 n, .int .i64 b, .int .i64 a, .int .i64 s, .int .i64 q], .int .i64 d] v fun e w' => e = .returned (.tuple #[.agg #[.int .i64 K, .int .i64 N, .int .i64 B, .int .i64 A, .int .i64 S, .int .i64 Q], .int .i64 0]) ∧ Below v.heap.size v w') :
    Calls Tryz.prog 105 #[.agg #[.int .i64 2, .int .i64 n, .int .i64 b, .int .i64 a, .int .i64 s, .int .i64 q], .int .i64 d] w fun e w' => e = .returned (.tuple #[.agg #[.int .i64 K, .int .i64 N, .int .i64 B, .int .i64 A, .int .i64 S, .int .i64 Q], .bool true]) ∧ Below w.heap.size w w' := by
  go_enter Tryz.func105, Tryz.ntmps105
  go_wp2_with (go_at_call 136; refine (c _).mono ?_; clear c; rintro e w1 ⟨rfl, HB⟩; obtain ⟨X, Y⟩ := two HB; replace HB := C.up2 HB; obtain ⟨c0, c1, c2, c3, c4, c5, f0, f1, f2, f3, f4, f5⟩ := X; obtain ⟨d0, d1, d2, d3, d4, d5, g0, g1, g2, g3, g4, g5⟩ := Y)
  refine bodyPost_ret (v := .tuple #[.agg #[.int .i64 K, .int .i64 N, .int .i64 B, .int .i64 A, .int .i64 S, .int .i64 Q], .bool true]) (by simp [results, Tryz.results105, go_sem, d0, d1, d2, d3, d4, d5]) rfl ⟨rfl, ?_⟩
  repeat (with_reducible refine Below.setCell ?_ (by simp) _)
  exact HB

set_option maxHeartbeats 1600000 in
theorem pn3 (n b a s q d K N B A S Q : Int) (w : World) (c : ∀ v, Calls Tryz.prog 137 #[.agg #[.int .i64 3, .int .i64 n, .int .i64 b, .int .i64 a, .int .i64 s, .int .i64 q], .int .i64 d] v fun e w' => e = .returned (.tuple #[.agg #[.int .i64 K, .int .i64 N, .int .i64 B, .int .i64 A, .int .i64 S, .int .i64 Q], .int .i64 0]) ∧ Below v.heap.size v w') :
    Calls Tryz.prog 105 #[.agg #[.int .i64 3, .int .i64 n, .int .i64 b, .int .i64 a, .int .i64 s, .int .i64 q], .int .i64 d] w fun e w' => e = .returned (.tuple #[.agg #[.int .i64 K, .int .i64 N, .int .i64 B, .int .i64 A, .int .i64 S, .int .i64 Q], .bool true]) ∧ Below w.heap.size w w' := by
  go_enter Tryz.func105, Tryz.ntmps105
  go_wp2_with (go_at_call 137; refine (c _).mono ?_; clear c; rintro e w1 ⟨rfl, HB⟩; obtain ⟨X, Y⟩ := two HB; replace HB := C.up2 HB; obtain ⟨c0, c1, c2, c3, c4, c5, f0, f1, f2, f3, f4, f5⟩ := X; obtain ⟨d0, d1, d2, d3, d4, d5, g0, g1, g2, g3, g4, g5⟩ := Y)
  refine bodyPost_ret (v := .tuple #[.agg #[.int .i64 K, .int .i64 N, .int .i64 B, .int .i64 A, .int .i64 S, .int .i64 Q], .bool true]) (by simp [results, Tryz.results105, go_sem, d0, d1, d2, d3, d4, d5]) rfl ⟨rfl, ?_⟩
  repeat (with_reducible refine Below.setCell ?_ (by simp) _)
  exact HB

theorem pnext_yes (c : Ct) (d : Int) (h : cright c) (hd : inr d) (w : World) :
    Calls Tryz.prog 105 #[.agg #[.int .i64 c.k, .int .i64 c.n, .int .i64 c.b, .int .i64 c.a, .int .i64 c.s, .int .i64 c.q], .int .i64 d] w fun e w' => e = .returned (.tuple #[.agg #[.int .i64 (K.nx c d).k, .int .i64 (K.nx c d).n, .int .i64 (K.nx c d).b, .int .i64 (K.nx c d).a, .int .i64 (K.nx c d).s, .int .i64 (K.nx c d).q], .bool true]) ∧ Below w.heap.size w w' := by
  obtain ⟨k, n, b, a, s, q⟩ := c
  rcases h with h | h | h
  · obtain rfl : k = 1 := h.1
    exact pn1 n b a s q d _ _ _ _ _ _ w (fun v => by have := V.ref_yes 1 n b a s q d v h hd; rw [show K.nx ⟨1, n, b, a, s, q⟩ d = kn ⟨1, n, b, a, s, q⟩ d from rfl]; obtain ⟨_, _, _, e1, e2, e3⟩ := h; simp only at e1 e2 e3; subst e1 e2 e3; exact this)
  · obtain rfl : k = 2 := h.1
    exact pn2 n b a s q d _ _ _ _ _ _ w (fun v => by have := C.lnext_yes 2 n b a s q d v h hd; rw [show K.nx ⟨2, n, b, a, s, q⟩ d = K.ln ⟨2, n, b, a, s, q⟩ d from rfl]; obtain ⟨_, _, _, _, _, e3⟩ := h; simp only at e3; subst e3; exact this)
  · obtain rfl : k = 3 := h.1
    exact pn3 n b a s q d _ _ _ _ _ _ w (fun v => by have := L.ref_yes 3 n b a s q d v h hd; rw [show K.nx ⟨3, n, b, a, s, q⟩ d = mn ⟨3, n, b, a, s, q⟩ d from rfl]; obtain ⟨_, _, _, e1, e2, _⟩ := h; simp only at e1 e2; subst e1 e2; exact this)

end Go.Proofs.YtjageagnclmnjaaGreatDoor.D


namespace Go.Proofs.YtjageagnclmnjaaGreatDoor.D
open Go.RowKit K

theorem tok : Hid True := trivial

set_option maxHeartbeats 3200000 in
theorem pwrong_kind (k0 k1 r m j : Int) (w : World) (h : min k0 k1 < 1 ∨ decide (min k0 k1 < 1) = false ∧ 3 < max k0 k1) :
    Calls Tryz.prog 66 #[.agg #[.int .i64 k0, .int .i64 k1, .int .i64 r, .int .i64 m, .int .i64 j]] w fun e w' => e = .returned (.int .i64 5) ∧ Below w.heap.size w w' := by
  rcases h with h | ⟨h, h'⟩
  all_goals
    go_enter Tryz.func66, Tryz.ntmps66
    go_wp2
    go_ret
    exact ⟨rfl, balloc (Below.refl _ _) _⟩

set_option maxHeartbeats 3200000 in
theorem pwrong_of (k0 k1 r m j : Int) (w : World) (h : decide (min k0 k1 < 1) = false) (h' : decide (3 < max k0 k1) = false) (t0 t1 t2 t3 t4 t5 : Bool) (h0 : decide (r < 1) = t0) (h1 : decide (12 < r) = t1) (h2 : decide (m < 0) = t2) (h3 : decide (16 < m) = t3) (h4 : decide (j < 0) = t4) (h5 : decide (3 < j) = t5) :
    Calls Tryz.prog 66 #[.agg #[.int .i64 k0, .int .i64 k1, .int .i64 r, .int .i64 m, .int .i64 j]] w fun e w' => e = .returned (.int .i64 (if (t0 || (t1 || (t2 || (t3 || (t4 || t5))))) then 2 else 0)) ∧ Below w.heap.size w w' := by
  cases t0
  case' false => cases t1
  case' false.false => cases t2
  case' false.false.false => cases t3
  case' false.false.false.false => cases t4
  case' false.false.false.false.false => cases t5
  all_goals
    go_enter Tryz.func66, Tryz.ntmps66
    go_wp2
    go_ret
    exact ⟨rfl, balloc (Below.refl _ _) _⟩

theorem pwrong_any (r : Ru) (w : World) :
    Calls Tryz.prog 66 #[.agg #[.int .i64 r.k0, .int .i64 r.k1, .int .i64 r.r, .int .i64 r.m, .int .i64 r.j]] w fun e w' => e = .returned (.int .i64 (wrong r)) ∧ Below w.heap.size w w' := by
  by_cases hk : kinds r
  · have hk' := hk
    unfold kinds at hk'
    have := pwrong_of r.k0 r.k1 r.r r.m r.j w (decide_eq_false (by omega)) (decide_eq_false (by omega)) _ _ _ _ _ _ rfl rfl rfl rfl rfl rfl
    refine this.mono ?_
    rintro e w' ⟨rfl, b⟩
    refine ⟨?_, b⟩
    congr 2
    unfold wrong
    rw [if_pos hk]
    by_cases hr : ranges r
    · rw [if_pos hr]
      unfold ranges at hr
      rw [if_neg]
      simp only [Bool.or_eq_true, decide_eq_true_iff]
      omega
    · rw [if_neg hr]
      unfold ranges at hr
      rw [if_pos]
      simp only [Bool.or_eq_true, decide_eq_true_iff]
      omega
  · rw [show wrong r = 5 by unfold wrong; rw [if_neg hk]]
    unfold kinds at hk
    refine pwrong_kind r.k0 r.k1 r.r r.m r.j w ?_
    by_cases h : min r.k0 r.k1 < 1
    · exact .inl h
    · exact .inr ⟨decide_eq_false h, by omega⟩
theorem pwrong_is (r : Ru) (e : Int) (h : wrong r = e) (w : World) :
    Calls Tryz.prog 66 #[.agg #[.int .i64 r.k0, .int .i64 r.k1, .int .i64 r.r, .int .i64 r.m, .int .i64 r.j]] w fun x w' => x = .returned (.int .i64 e) ∧ Below w.heap.size w w' := by subst h; exact pwrong_any r w

theorem one_any (k : Int) (w : World) :
    Calls Tryz.prog 103 #[.int .i64 k] w fun e w' => e = .returned (.agg #[.int .i64 k, .int .i64 1, .int .i64 (-1), .int .i64 0, .int .i64 0, .int .i64 0]) ∧ Below w.heap.size w w' := by
  go_enter Tryz.func103, Tryz.ntmps103
  go_wp2
  exact bodyPost_ret (by simp [results, Tryz.results103, go_sem]) rfl ⟨rfl, balloc (Below.refl _ _) _⟩

set_option maxHeartbeats 3200000 in
theorem pstart_no (r : Ru) (e : Int) (h : wrong r = e) (he : (e != 0) = true) (w : World) :
    Calls Tryz.prog 68 #[.agg #[.int .i64 r.k0, .int .i64 r.k1, .int .i64 r.r, .int .i64 r.m, .int .i64 r.j]] w fun x w' => x = .returned (.tuple #[.agg #[.int .i64 0, .int .i64 0, .int .i64 0, .int .i64 0, .int .i64 0, .int .i64 0, .int .i64 0, .int .i64 0, .int .i64 0, .int .i64 0, .int .i64 0, .int .i64 0, .int .i64 0, .int .i64 0], .int .i64 e]) ∧ Below w.heap.size w w' := by
  have p := fun v => pwrong_is r e h v
  obtain ⟨k0, k1, rr, m, j⟩ := r
  have X := Rul.new w _ rfl k0 k1 rr m j
  have Y := Sta.new (w.alloc (.cells #[.int .i64 k0, .int .i64 k1, .int .i64 rr, .int .i64 m, .int .i64 j] 33)) (w.heap.size + 1) (by simp) 0 0 0 0 0 0 0 0 0 0 0 0 0 0
  have B : Below w.heap.size w ((w.alloc (.cells #[.int .i64 k0, .int .i64 k1, .int .i64 rr, .int .i64 m, .int .i64 j] 33)).alloc (.cells #[.int .i64 0, .int .i64 0, .int .i64 0, .int .i64 0, .int .i64 0, .int .i64 0, .int .i64 0, .int .i64 0, .int .i64 0, .int .i64 0, .int .i64 0, .int .i64 0, .int .i64 0, .int .i64 0] 45)) := balloc (balloc (Below.refl _ _) _) _
  go_enter Tryz.func68, Tryz.ntmps68
  go_wp2_with (go_at_call 66; refine (p _).mono ?_; clear p; rintro x v ⟨rfl, b⟩; replace Y := Y.kept b; replace B := bthen B b; obtain ⟨y0, y1, y2, y3, y4, y5, y6, y7, y8, y9, y10, y11, y12, y13, g0, g1, g2, g3, g4, g5, g6, g7, g8, g9, g10, g11, g12, g13⟩ := id Y)
  refine bodyPost_ret (v := .tuple #[.agg #[.int .i64 0, .int .i64 0, .int .i64 0, .int .i64 0, .int .i64 0, .int .i64 0, .int .i64 0, .int .i64 0, .int .i64 0, .int .i64 0, .int .i64 0, .int .i64 0, .int .i64 0, .int .i64 0], .int .i64 e]) ?_ rfl ⟨rfl, ?_⟩
  · simp [results, Tryz.results68, go_sem, y0, y1, y2, y3, y4, y5, y6, y7, y8, y9, y10, y11, y12, y13]
  · repeat (with_reducible refine Below.setCell ?_ (by simp) _)
    exact B

set_option maxHeartbeats 3200000 in
theorem pstart_yes (r : Ru) (h : wrong r = 0) (w : World) :
    Calls Tryz.prog 68 #[.agg #[.int .i64 r.k0, .int .i64 r.k1, .int .i64 r.r, .int .i64 r.m, .int .i64 r.j]] w fun x w' => x = .returned (.tuple #[.agg #[.int .i64 r.k0, .int .i64 1, .int .i64 (-1), .int .i64 0, .int .i64 0, .int .i64 0, .int .i64 r.k1, .int .i64 1, .int .i64 (-1), .int .i64 0, .int .i64 0, .int .i64 0, .int .i64 0, .int .i64 0], .int .i64 0]) ∧ Below w.heap.size w w' := by
  have p := fun v => pwrong_is r 0 h v
  obtain ⟨k0, k1, rr, m, j⟩ := r
  have X := Rul.new w _ rfl k0 k1 rr m j
  replace X := X.alloc (.cells #[.int .i64 0, .int .i64 0, .int .i64 0, .int .i64 0, .int .i64 0, .int .i64 0, .int .i64 0, .int .i64 0, .int .i64 0, .int .i64 0, .int .i64 0, .int .i64 0, .int .i64 0, .int .i64 0] 45)
  have Y := Sta.new (w.alloc (.cells #[.int .i64 k0, .int .i64 k1, .int .i64 rr, .int .i64 m, .int .i64 j] 33)) (w.heap.size + 1) (by simp) 0 0 0 0 0 0 0 0 0 0 0 0 0 0
  have B : Below w.heap.size w ((w.alloc (.cells #[.int .i64 k0, .int .i64 k1, .int .i64 rr, .int .i64 m, .int .i64 j] 33)).alloc (.cells #[.int .i64 0, .int .i64 0, .int .i64 0, .int .i64 0, .int .i64 0, .int .i64 0, .int .i64 0, .int .i64 0, .int .i64 0, .int .i64 0, .int .i64 0, .int .i64 0, .int .i64 0, .int .i64 0] 45)) := balloc (balloc (Below.refl _ _) _) _
  have T1 := tok
  go_enter Tryz.func68, Tryz.ntmps68
  go_wp2_with (go_at_call 66; refine (p _).mono ?_; clear p; rintro x v ⟨rfl, b⟩; replace X := X.kept b; replace Y := Y.kept b; replace B := bthen B b)
  go_region_held3 (fun w' => w'.cell? ⟨w.heap.size, 0, none⟩ = some (.int .i64 k0) ∧ w'.cell? ⟨w.heap.size, 1, none⟩ = some (.int .i64 k1)) (first | with_reducible exact ⟨X.c0, X.c1⟩ | with_reducible exact ⟨X.drew.c0, X.drew.c1⟩ | go_keep)
    (first
    | (clear T1; go_at_call 103; refine (one_any _ _).mono ?_; rintro x v1 ⟨rfl, b⟩; replace X := (X.drewN 1).kept b; replace Y := (Y.drewN 1).kept b; replace B := bthen (below_drewN B 1) b; clear b)
    | (go_at_call 103; refine (one_any _ _).mono ?_; rintro x v2 ⟨rfl, b⟩; replace X := X.kept b; replace Y := Y.kept b; replace B := bthen B b; clear b; obtain ⟨y0, y1, y2, y3, y4, y5, y6, y7, y8, y9, y10, y11, y12, y13, g0, g1, g2, g3, g4, g5, g6, g7, g8, g9, g10, g11, g12, g13⟩ := id Y; obtain ⟨xx0, xx1, _, _, _, _, _, _, _, _⟩ := id X))
  all_goals
    go_wp2
    refine bodyPost_ret (v := .tuple #[.agg #[.int .i64 k0, .int .i64 1, .int .i64 (-1), .int .i64 0, .int .i64 0, .int .i64 0, .int .i64 k1, .int .i64 1, .int .i64 (-1), .int .i64 0, .int .i64 0, .int .i64 0, .int .i64 0, .int .i64 0], .int .i64 0]) ?_ rfl ⟨rfl, ?_⟩
    · simp [results, Tryz.results68, go_sem, y0, y1, y2, y3, y4, y5, y6, y7, y8, y9, y10, y11, y12, y13]
    · repeat (with_reducible refine Below.setCell ?_ (by simp) _)
      exact B

end Go.Proofs.YtjageagnclmnjaaGreatDoor.D

