/- PROVED: what is sent in all comes, is lost, or waits, of both, after however many rounds; and no round brings more than the rate. CONDITIONS: the arguments hold together at most 1048576 values. -/
import Derived.Test.YtobgjnjndkfjoaaDAlive
import Derived.Test.YtobgjnjndkfjoaaDSums
import Derived.Test.YtobgjnjndkfjoaaDBulk
namespace Go.Proofs.Ytobgjnjndkfjoaa.D
open Go.RowKit K
set_option linter.unusedVariables false

set_option maxHeartbeats 3200000 in
theorem big_no (G : Nat) (p0 p1 r m j s0 s1 g0 g1 l0 l1 : Int) (w : World) (X : Rul w G p0 p1 r m j) (hg : 0 ≤ g0 ∧ g0 ≤ 100) (hg' : 0 ≤ g1 ∧ g1 ≤ 100) (h : decide (r < g0 + g1) = false) :
    Calls Try.prog 23 #[.agg #[.int .i64 s0, .int .i64 s1, .int .i64 g0, .int .i64 g1, .int .i64 l0, .int .i64 l1], .pointer (some ⟨G, 0, none⟩)] w fun e w' => e = .returned (.bool false) ∧ Below w.heap.size w w' := by
  replace X := X.alloc (.cells #[.int .i64 s0, .int .i64 s1, .int .i64 g0, .int .i64 g1, .int .i64 l0, .int .i64 l1] 34)
  have B : Below w.heap.size w (w.alloc (.cells #[.int .i64 s0, .int .i64 s1, .int .i64 g0, .int .i64 g1, .int .i64 l0, .int .i64 l1] 34)) := balloc (Below.refl _ _) _
  obtain ⟨x0, x1, x2, x3, x4, _, _, _, _, _⟩ := X
  go_enter Try.func23, Try.ntmps23
  go_wp2
  go_ret
  exact ⟨rfl, B⟩

set_option maxHeartbeats 3200000 in
theorem index_none (G : Nat) (p0 p1 r m j : Int) (ao : Option Addr) (cp n : Nat) (R : List Rx) (hn : R.length = n) (hb : n ≤ 1048576) (hin : ∀ x ∈ R, (0 ≤ x.c0 ∧ x.c0 ≤ 100) ∧ (0 ≤ x.c1 ∧ x.c1 ≤ 100) ∧ x.c0 + x.c1 ≤ r) (w : World) (X : Rul w G p0 p1 r m j) (hr : RRow w ao R) :
    Calls Try.prog 32 #[.slice ao n cp, .func (.func 23) #[] #[.pointer (some ⟨G, 0, none⟩)]] w fun e w' => e = .returned (.int .i64 (-1)) ∧ Below w.heap.size w w' := by
  have hmem : Hid (∀ k, k < n → R.getD k R0 ∈ R) := fun k hk => by
    rw [List.getD_eq_getElem?_getD, List.getElem?_eq_getElem (by omega)]
    exact List.getElem_mem _
  have hl : Hid (R.length = n) := hn
  replace hin : Hid _ := hin
  clear hn
  go_enter Try.func32, Try.ntmps32
  go_wp2
  go_loopw [8] (fun i wr => ∃ k : Nat, k ≤ n ∧ i = .int .i64 k ∧ Below w.heap.size w wr) (fun i _ => n - (intOf i).toNat)
  case atStart => exact ⟨0, Nat.zero_le _, rfl, Below.refl _ _⟩
  case round =>
    obtain ⟨k, hk, rfl, B⟩ := hrel
    by_cases hlt : k < n
    · have q1 := hl.out
      obtain ⟨bb, oo, rfl, hc⟩ := (hr.kept B).at (by omega)
      obtain ⟨x0, x1, x2, x3, x4, x5⟩ := hc k (by omega)
      obtain ⟨u0, u1, u2⟩ := hin.out _ (hmem.out k hlt)
      have hltI : (k : Int) < n := by omega
      clear hc q1 hin hmem
      generalize R.getD k R0 = Y at x0 x1 x2 x3 x4 x5 u0 u1 u2
      obtain ⟨s0, s1, g0, g1, l0, l1⟩ := Y
      simp only at x0 x1 x2 x3 x4 x5 u0 u1 u2
      have hq := big_no G p0 p1 r m j s0 s1 g0 g1 l0 l1 wr (X.kept B) u0 u1 (decide_eq_false (by omega))
      clear u0 u1 u2 X hr
      go_wp2_with (go_at_call 23; refine hq.mono ?_; clear hq; rintro xx v1 ⟨rfl, b⟩; replace B := bthen B b; clear b)
      go_roundw
      case rel => exact ⟨k + 1, by omega, by go_num, B⟩
      case measure => simp [intOf]; omega
    · obtain rfl : k = n := by omega
      go_wp2
      go_ret
      exact ⟨rfl, B⟩
theorem contains_none (G : Nat) (p0 p1 r m j : Int) (ao : Option Addr) (cp n : Nat) (R : List Rx) (hn : R.length = n) (hb : n ≤ 1048576) (hin : ∀ x ∈ R, (0 ≤ x.c0 ∧ x.c0 ≤ 100) ∧ (0 ≤ x.c1 ∧ x.c1 ≤ 100) ∧ x.c0 + x.c1 ≤ r) (w : World) (X : Rul w G p0 p1 r m j) (hr : RRow w ao R) :
    Calls Try.prog 22 #[.slice ao n cp, .func (.func 23) #[] #[.pointer (some ⟨G, 0, none⟩)]] w fun e w' => e = .returned (.bool false) ∧ Below w.heap.size w w' := by
  have hi := index_none G p0 p1 r m j ao cp n R hn hb hin w X hr
  clear hin X hr
  go_enter Try.func22, Try.ntmps22
  go_wp2_with (go_at_call 32; refine hi.mono ?_; clear hi; rintro e w'' ⟨rfl, b⟩)
  go_ret
  exact ⟨rfl, b⟩

set_option maxHeartbeats 6400000 in
theorem ds_err (p0 p1 r m j E : Int) (he : (E != 0) = true) (a : Option Addr) (cap n : Nat) (ls : List (Int × Int)) (w : World) (hv : VRow w a ls)
    (pl : ∀ v, VRow v a ls → Calls Try.prog 17 #[.agg #[.int .i64 p0, .int .i64 p1, .int .i64 r, .int .i64 m, .int .i64 j], .slice a n cap] v fun e w' => e = .returned (.tuple #[.slice none 0 0, .agg #[.int .i64 0, .int .i64 0, .int .i64 0, .int .i64 0, .int .i64 0, .int .i64 0, .int .i64 0, .int .i64 0, .int .i64 0, .int .i64 0, .int .i64 0, .int .i64 0, .int .i64 0, .int .i64 0], .int .i64 E]) ∧ Below v.heap.size v w') :
    Calls Try.prog 5 #[.agg #[.int .i64 p0, .int .i64 p1, .int .i64 r, .int .i64 m, .int .i64 j], .slice a n cap] w fun e w' => e = .returned (.bool true) ∧ Below w.heap.size w w' := by
  have X := Rul.new w _ rfl p0 p1 r m j
  have B : Below w.heap.size w (w.alloc (.cells #[.int .i64 p0, .int .i64 p1, .int .i64 r, .int .i64 m, .int .i64 j] 24)) := balloc (Below.refl _ _) _
  replace hv := hv.alloc (.cells #[.int .i64 p0, .int .i64 p1, .int .i64 r, .int .i64 m, .int .i64 j] 24)
  go_enter Try.func5, Try.ntmps5
  go_wp2_with (first
    | (go_at_call 20; refine (alive_any _).mono ?_; rintro xx v0 ⟨rfl, b⟩; replace X := X.kept b; replace hv := hv.kept b; replace B := bthen B b; clear b; obtain ⟨x0, x1, x2, x3, x4, _, _, _, _, _⟩ := id X)
    | (go_at_call 17; refine (pl _ hv).mono ?_; clear pl x0 x1 x2 x3 x4; rintro xx v1 ⟨rfl, b⟩; replace B := balloc (bthen B b) (.cells #[.int .i64 0, .int .i64 0, .int .i64 0, .int .i64 0, .int .i64 0, .int .i64 0, .int .i64 0, .int .i64 0, .int .i64 0, .int .i64 0, .int .i64 0, .int .i64 0, .int .i64 0, .int .i64 0] 29); clear b))
  go_ret
  exact ⟨rfl, B⟩

set_option maxHeartbeats 12800000 in
theorem ds_ok (p0 p1 r m j k0 n0 b0 a0 c0 q0 k1 n1 b1 a1 c1 q1 w0 w1 A0 A1 D0 D1 E0 E1 F0 F1 : Int) (a : Option Addr) (cap n : Nat) (ls : List (Int × Int)) (R : List Rx) (hR : R.length = n) (hn : n ≤ 1048576) (w : World) (hv : VRow w a ls)
    (f0 : IntKind.i64.wrap (A0 + D0) = F0) (f1 : IntKind.i64.wrap (F0 + w0) = E0) (f2 : IntKind.i64.wrap (A1 + D1) = F1) (f3 : IntKind.i64.wrap (F1 + w1) = E1)
    (pl : ∀ v, VRow v a ls → Calls Try.prog 17 #[.agg #[.int .i64 p0, .int .i64 p1, .int .i64 r, .int .i64 m, .int .i64 j], .slice a n cap] v fun e w' => ∃ ao cp, e = .returned (.tuple #[.slice ao n cp, .agg #[.int .i64 k0, .int .i64 n0, .int .i64 b0, .int .i64 a0, .int .i64 c0, .int .i64 q0, .int .i64 k1, .int .i64 n1, .int .i64 b1, .int .i64 a1, .int .i64 c1, .int .i64 q1, .int .i64 w0, .int .i64 w1], .int .i64 0]) ∧ RRow w' ao R ∧ Below v.heap.size v w')
    (su : ∀ ao cp v, RRow v ao R → Calls Try.prog 21 #[.slice ao n cp] v fun e w' => e = .returned (.tuple #[.agg #[.int .i64 A0, .int .i64 A1], .agg #[.int .i64 D0, .int .i64 D1], .agg #[.int .i64 E0, .int .i64 E1]]) ∧ Below v.heap.size v w')
    (co : ∀ ao cp v, Rul v w.heap.size p0 p1 r m j → RRow v ao R → Calls Try.prog 22 #[.slice ao n cp, .func (.func 23) #[] #[.pointer (some ⟨w.heap.size, 0, none⟩)]] v fun e w' => e = .returned (.bool false) ∧ Below v.heap.size v w') :
    Calls Try.prog 5 #[.agg #[.int .i64 p0, .int .i64 p1, .int .i64 r, .int .i64 m, .int .i64 j], .slice a n cap] w fun e w' => e = .returned (.bool true) ∧ Below w.heap.size w w' := by
  have X := Rul.new w _ rfl p0 p1 r m j
  have B : Below w.heap.size w (w.alloc (.cells #[.int .i64 p0, .int .i64 p1, .int .i64 r, .int .i64 m, .int .i64 j] 24)) := balloc (Below.refl _ _) _
  replace hv := hv.alloc (.cells #[.int .i64 p0, .int .i64 p1, .int .i64 r, .int .i64 m, .int .i64 j] 24)
  go_enter Try.func5, Try.ntmps5
  go_wp2_with (first
    | (go_at_call 20; refine (alive_any _).mono ?_; rintro xx v0 ⟨rfl, b⟩; replace X := X.kept b; replace hv := hv.kept b; replace B := bthen B b; clear b; obtain ⟨x0, x1, x2, x3, x4, _, _, _, _, _⟩ := id X)
    | (go_at_call 17; refine (pl _ hv).mono ?_; clear pl x0 x1 x2 x3 x4; rintro xx v1 ⟨ao, cp, rfl, hr, b⟩; replace X := (X.kept b).alloc (.cells #[.int .i64 k0, .int .i64 n0, .int .i64 b0, .int .i64 a0, .int .i64 c0, .int .i64 q0, .int .i64 k1, .int .i64 n1, .int .i64 b1, .int .i64 a1, .int .i64 c1, .int .i64 q1, .int .i64 w0, .int .i64 w1] 29); have Y := Sta.new v1 _ rfl k0 n0 b0 a0 c0 q0 k1 n1 b1 a1 c1 q1 w0 w1; replace hr := hr.alloc (.cells #[.int .i64 k0, .int .i64 n0, .int .i64 b0, .int .i64 a0, .int .i64 c0, .int .i64 q0, .int .i64 k1, .int .i64 n1, .int .i64 b1, .int .i64 a1, .int .i64 c1, .int .i64 q1, .int .i64 w0, .int .i64 w1] 29); replace B := balloc (bthen B b) (.cells #[.int .i64 k0, .int .i64 n0, .int .i64 b0, .int .i64 a0, .int .i64 c0, .int .i64 q0, .int .i64 k1, .int .i64 n1, .int .i64 b1, .int .i64 a1, .int .i64 c1, .int .i64 q1, .int .i64 w0, .int .i64 w1] 29); clear b; obtain ⟨C, hC⟩ : ∃ C, v1.heap.size = C := ⟨_, rfl⟩; rw [hC] at Y)
    | (go_at_call 21; refine (su _ _ _ hr).mono ?_; clear su; rintro xx v2 ⟨rfl, b⟩; have T : Tri (((v2.alloc (.cells #[.int .i64 A0, .int .i64 A1] 22)).alloc (.cells #[.int .i64 D0, .int .i64 D1] 22)).alloc (.cells #[.int .i64 E0, .int .i64 E1] 22)) v2.heap.size A0 A1 D0 D1 E0 E1 := ⟨((Arr.new v2 _ rfl A0 A1).alloc _).alloc _, (Arr.new (v2.alloc _) _ (by simp) D0 D1).alloc _, Arr.new ((v2.alloc _).alloc _) _ (by simp) E0 E1⟩; have bb : Below v2.heap.size v2 (((v2.alloc (.cells #[.int .i64 A0, .int .i64 A1] 22)).alloc (.cells #[.int .i64 D0, .int .i64 D1] 22)).alloc (.cells #[.int .i64 E0, .int .i64 E1] 22)) := balloc (balloc (balloc (Below.refl _ _) _) _) _; replace X := (X.kept b).kept bb; replace Y := (Y.kept b).kept bb; replace hr := (hr.kept b).kept bb; replace B := bthen (bthen B b) bb; clear b bb))
  clear hv
  obtain ⟨W2, hW2⟩ : ∃ W2, (((v2.alloc (.cells #[.int .i64 A0, .int .i64 A1] 22)).alloc (.cells #[.int .i64 D0, .int .i64 D1] 22)).alloc (.cells #[.int .i64 E0, .int .i64 E1] 22)) = W2 := ⟨_, rfl⟩
  rw [hW2] at X Y hr B T ⊢
  clear hW2
  go_loopw [32] (fun i wr => ∃ q, wr = W2.drewN q ∧ (i = .int .i64 0 ∨ i = .int .i64 1 ∨ i = .int .i64 2)) (fun i _ => 2 - (intOf i).toNat)
  case atStart => exact ⟨0, rfl, .inl rfl⟩
  case round =>
    obtain ⟨q, rfl, rfl | rfl | rfl⟩ := hrel
    · obtain ⟨⟨a0', _, _, _⟩, ⟨d0', _, _, _⟩, ⟨e0', _, _, _⟩⟩ := id T
      have y12 := Y.c12
      clear co f2 f3 X Y T hr
      go_wp2
      go_quiet (fail)
      go_wp2
      go_roundw
      case rel => exact ⟨q + nq, rfl, .inr (.inl rfl)⟩
      case measure => simp [intOf]
    · obtain ⟨⟨_, a0', _, _⟩, ⟨_, d0', _, _⟩, ⟨_, e0', _, _⟩⟩ := id T
      have y13 := Y.c13
      clear co f0 f1 X Y T hr
      go_wp2
      go_quiet (fail)
      go_wp2
      go_roundw
      case rel => exact ⟨q + nq, rfl, .inr (.inr rfl)⟩
      case measure => simp [intOf]
    · replace co := co ao cp (W2.drewN q) (X.drewN q) (hr.kept (below_drewN (Below.refl _ _) q))
      replace B := below_drewN B q
      clear f0 f1 f2 f3 X Y T hr
      go_wp2_with (go_at_call 22; refine co.mono ?_; clear co; rintro xx v3 ⟨rfl, b⟩; replace B := bthen B b)
      go_ret
      exact ⟨rfl, B⟩

theorem duelSums_walk (p0 p1 r m j : Int) (a : Option Addr) (cap : Nat) (ls : List (Int × Int)) (w : World) (hv : FarV w a cap ls) (hl : ls.length ≤ 1048576) :
    Calls Try.prog 5 #[.agg #[.int .i64 p0, .int .i64 p1, .int .i64 r, .int .i64 m, .int .i64 j], .slice a ls.length cap] w fun e w' => e = .returned (.bool true) ∧ Below w.heap.size w w' := by
  by_cases h : wrong ⟨p0, p1, r, m, j⟩ = 0
  · have h1 := fun v q => play_any ⟨p0, p1, r, m, j⟩ h a cap ls.length ls rfl hl v q
    by_cases g : allLate ⟨p0, p1, r, m, j⟩ ls
    · have hp := start_right (wrong_ok.1 h)
      have hi := rounds_in hp g
      have hc := rounds_come hp g
      have hk := total_keeps hp g
      have hlen := rounds_len ⟨p0, p1, r, m, j⟩ (K.start ⟨p0, p1, r, m, j⟩) ls
      have hs := steps_right hp g
      have t0 := total_in (f := (·.c0)) fun x hx => (hi x hx).2.2.1
      have t1 := total_in (f := (·.c1)) fun x hx => (hi x hx).2.2.2.1
      have t2 := total_in (f := (·.l0)) fun x hx => (hi x hx).2.2.2.2.1
      have t3 := total_in (f := (·.l1)) fun x hx => (hi x hx).2.2.2.2.2
      rw [hlen] at t0 t1 t2 t3
      have hwb : (0 ≤ (steps ⟨p0, p1, r, m, j⟩ (K.start ⟨p0, p1, r, m, j⟩) ls).w0 ∧ (steps ⟨p0, p1, r, m, j⟩ (K.start ⟨p0, p1, r, m, j⟩) ls).w0 ≤ 16) ∧ (0 ≤ (steps ⟨p0, p1, r, m, j⟩ (K.start ⟨p0, p1, r, m, j⟩) ls).w1 ∧ (steps ⟨p0, p1, r, m, j⟩ (K.start ⟨p0, p1, r, m, j⟩) ls).w1 ≤ 16) := by
        obtain ⟨⟨_, hr⟩, _, _, h5, h6, h7⟩ := hs
        unfold ranges at hr
        omega
      have e0 : (K.start ⟨p0, p1, r, m, j⟩).w0 = 0 := rfl
      have e1 : (K.start ⟨p0, p1, r, m, j⟩).w1 = 0 := rfl
      rw [e0, e1] at hk
      refine ds_ok p0 p1 r m j (steps ⟨p0, p1, r, m, j⟩ (K.start ⟨p0, p1, r, m, j⟩) ls).f0.k (steps ⟨p0, p1, r, m, j⟩ (K.start ⟨p0, p1, r, m, j⟩) ls).f0.n (steps ⟨p0, p1, r, m, j⟩ (K.start ⟨p0, p1, r, m, j⟩) ls).f0.b (steps ⟨p0, p1, r, m, j⟩ (K.start ⟨p0, p1, r, m, j⟩) ls).f0.a (steps ⟨p0, p1, r, m, j⟩ (K.start ⟨p0, p1, r, m, j⟩) ls).f0.s (steps ⟨p0, p1, r, m, j⟩ (K.start ⟨p0, p1, r, m, j⟩) ls).f0.q (steps ⟨p0, p1, r, m, j⟩ (K.start ⟨p0, p1, r, m, j⟩) ls).f1.k (steps ⟨p0, p1, r, m, j⟩ (K.start ⟨p0, p1, r, m, j⟩) ls).f1.n (steps ⟨p0, p1, r, m, j⟩ (K.start ⟨p0, p1, r, m, j⟩) ls).f1.b (steps ⟨p0, p1, r, m, j⟩ (K.start ⟨p0, p1, r, m, j⟩) ls).f1.a (steps ⟨p0, p1, r, m, j⟩ (K.start ⟨p0, p1, r, m, j⟩) ls).f1.s (steps ⟨p0, p1, r, m, j⟩ (K.start ⟨p0, p1, r, m, j⟩) ls).f1.q (steps ⟨p0, p1, r, m, j⟩ (K.start ⟨p0, p1, r, m, j⟩) ls).w0 (steps ⟨p0, p1, r, m, j⟩ (K.start ⟨p0, p1, r, m, j⟩) ls).w1 _ _ _ _ _ _ _ _ a cap ls.length ls (rounds ⟨p0, p1, r, m, j⟩ (K.start ⟨p0, p1, r, m, j⟩) ls) hlen hl w hv.1 (wrap_in (x := total (·.c0) (rounds ⟨p0, p1, r, m, j⟩ (K.start ⟨p0, p1, r, m, j⟩) ls) + total (·.l0) (rounds ⟨p0, p1, r, m, j⟩ (K.start ⟨p0, p1, r, m, j⟩) ls)) (by omega)) ((wrap_in (by omega)).trans ?_) (wrap_in (x := total (·.c1) (rounds ⟨p0, p1, r, m, j⟩ (K.start ⟨p0, p1, r, m, j⟩) ls) + total (·.l1) (rounds ⟨p0, p1, r, m, j⟩ (K.start ⟨p0, p1, r, m, j⟩) ls)) (by omega)) ((wrap_in (by omega)).trans ?_) (fun v q => (h1 v q).mono ?_) (fun ao cp v q => sums_any ao cp _ _ hlen hl hi v q) (fun ao cp v q1 q2 => contains_none _ _ _ _ _ _ ao cp _ _ hlen hl (fun x hx => ⟨(hi x hx).2.2.1, (hi x hx).2.2.2.1, (hc x hx).2⟩) v q1 q2)
      · have := hk.1; omega
      · have := hk.2; omega
      · rintro e w' ⟨⟨_, ao, cp, rfl, _, hr, _⟩ | ⟨h, _⟩, b⟩
        · exact ⟨ao, cp, rfl, hr, b⟩
        · exact absurd g h
    · refine ds_err p0 p1 r m j 2 (by decide) a cap ls.length ls w hv.1 (fun v q => (h1 v q).mono ?_)
      rintro e w' ⟨⟨h, _⟩ | ⟨_, rfl⟩, b⟩
      · exact absurd h g
      · exact ⟨rfl, b⟩
  · exact ds_err p0 p1 r m j (wrong ⟨p0, p1, r, m, j⟩) (by simpa using h) a cap ls.length ls w hv.1 (fun v q => play_wrong ⟨p0, p1, r, m, j⟩ _ rfl (by simpa using h) _ v)

end Go.Proofs.Ytobgjnjndkfjoaa.D
namespace Go.Proofs.Ytobgjnjndkfjoaa.duelSums
open Go.ChangeShapes Go.WideShapes Go.ChangeAt Go.RowKit D
set_option linter.unusedVariables false

theorem contract (H : Type) (enc : TypeId × Value → H) (W : World) (base : Nat) (args : Array Value) (ds gs : List (DataW H)) (before : List MemPlace)
    (hval : ∀ (j : Nat) t v, Try.f5.params[j]? = some t → args[j]? = some v → Value.okWide Try.prog W .any base t v)
    (hW : DataW.Whole enc Try.prog Try.f5.params.toList Rows.duelSumsSpec.vars false W args.toList ds gs before) (hk : Rows.uptoSmall H (ds ++ gs) = true) :
    Calls Try.prog 5 args W fun e W' => ∃ v, e = .returned v ∧ Rows.duelSumsSpec.post enc Try.prog Try.f5 false true false false W args v W' := by
  have hW' := hW
  obtain ⟨p, q, hA0, hV, rfl, hfz, hnd⟩ := hW
  have hA : DataW.TrodAll enc Try.prog W 0 (fun _ => true) true Try.f5.params.toList args.toList ds p := hA0
  rw [Try.params5] at hA hval
  obtain ⟨v0, vs0, d0, ds0, p0, q0, hargs, rfl, rfl, h0, r0⟩ := trodAll_cons hA
  obtain ⟨v1, vs1, d1, ds1, p1, q1, rfl, rfl, rfl, h1, r1⟩ := trodAll_cons r0
  obtain ⟨rfl, rfl, rfl⟩ := trodAll_nil r1
  obtain rfl : args = #[v0, v1] := by cases args; simp_all
  obtain ⟨rfl, rfl⟩ := trodVars_none hV
  have k0 := h0
  have lt0 : ∀ x ∈ p0, x.block < W.heap.size := by obtain ⟨m, hm⟩ := k0; exact DataW.trod_lt m _ _ _ hm
  obtain ⟨x0_0, x0_1, x0_2, x0_3, x0_4, rfl, _⟩ := openR (hval 0 24 v0 rfl rfl) h0
  have k1 := h1
  have lt1 : ∀ x ∈ p1, x.block < W.heap.size := by obtain ⟨m, hm⟩ := k1; exact DataW.trod_lt m _ _ _ hm
  obtain ⟨a1, len1, cap1, rfl⟩ := okWide_slice Try.underlying40 (hval 1 40 v1 rfl rfl)
  obtain ⟨z1, rfl, w1, e1⟩ := farV h1
  have l1 : z1.length ≤ 1048576 := by
    rcases e1 with ⟨_, e⟩ | ⟨elems, spare, e, hle⟩
    · omega
    · subst e
      exact Nat.le_trans hle (bulk_at (i := 1) (elems := elems) (spare := spare) hk rfl)
  clear hA0
  refine (duelSums_walk x0_0 x0_1 x0_2 x0_3 x0_4 a1 cap1 z1 W w1 l1).mono fun e W' ⟨he, bel⟩ => ?_
  subst he
  exact ⟨_, rfl, _, _, _, [], _, [], hW', trodAll_mk1 (shut_bool Try.underlying4 _), (trodAll_cons_mk (Below.trod laidOut (by kernel_rfl) (of_decide_eq_true (by kernel_rfl)) k0 bel lt0) (trodAll_cons_mk (Below.trod laidOut (by kernel_rfl) (of_decide_eq_true (by kernel_rfl)) k1 bel lt1) trodAll_mk0)), rfl, bel.frame _, fun h => by cases h⟩

set_option maxRecDepth 100000 in
theorem lifted (os : Os) (started : os.Started) (H : Type) (enc : TypeId × Value → H) (F : Stop.Interp) :
    ReturnsInHanded {} Try.checked os 5 .any ((Rows.OpenSpec.upto Rows.duelSumsSpec).pre6 enc Try.prog Try.f5 Rows.duelSumsUptoRow.domain false) (((Rows.OpenSpec.upto Rows.duelSumsSpec).at F).post enc Try.prog Try.f5 false true false false) := by
  refine returnsInHanded_of_cond (C := Try.checked) (s := Rows.OpenSpec.upto Rows.duelSumsSpec) (k := Rows.uptoSmall) rfl own started (by kernel_rfl) Try.func5
    (OpenSpec.witness (enc := enc) (C := Try.checked) (s := Rows.OpenSpec.upto Rows.duelSumsSpec) (k := Rows.uptoSmall) rfl false ⟨#[], #[.agg #[.int .i64 0, .int .i64 0, .int .i64 0, .int .i64 0, .int .i64 0], .slice none 0 0], []⟩ 8 (by kernel_rfl) (by kernel_rfl) (by kernel_rfl)
      (x := ([.agg [.agg [.lit (.int .i64 0), .lit (.int .i64 0)], .lit (.int .i64 0), .lit (.int .i64 0), .lit (.int .i64 0)], .nil], [], [])) (by kernel_rfl) rfl (by kernel_rfl)) ?_
  intro W base args ds gs before hval hW _ hk _
  exact contract H enc W base args ds gs before hval hW hk

theorem proved : Rows.DuelSumsUptoSaid :=
  OpenClaim.holds_of_cond 5 Try.f5 rfl rfl rfl rfl rfl rfl rfl ⟨rfl, rfl, rfl, rfl, rfl⟩ rfl rfl rfl rfl rfl (by kernel_rfl) Try.func5 (by kernel_rfl)
    (of_decide_eq_true (by kernel_rfl)) (by unfold Func.isWrapper; first | (rw [if_pos (by decide +kernel)]; kernel_rfl) | (rw [if_neg (by decide +kernel)]; exact ⟨rfl, rfl⟩))
    (fun os started H enc _ F => lifted os started H enc F)

end Go.Proofs.Ytobgjnjndkfjoaa.duelSums
namespace Go.Proofs.Ytobgjnjndkfjoaa
theorem duelSumsUpto_holds : Rows.DuelSumsUptoSaid := duelSums.proved
#print axioms duelSumsUpto_holds
end Go.Proofs.Ytobgjnjndkfjoaa
