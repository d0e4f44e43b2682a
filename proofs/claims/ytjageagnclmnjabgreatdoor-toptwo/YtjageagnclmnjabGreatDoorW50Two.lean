/- PROVED: the walk of the law TopTwo. CONDITIONS: none beyond each theorem's own. -/
import Derived.Test.YtjageagnclmnjabGreatDoorW48Shp
import Derived.Test.YtjageagnclmnjabGreatDoorW49BBHigh
namespace Go.Proofs.YtjageagnclmnjabGreatDoor.B
set_option maxRecDepth 100000
open Go.RowKit
set_option linter.unusedVariables false

/-- what the loop gathers of the first k -/
def sm (F : Nat → Int) : Nat → Int
  | 0 => 0
  | k + 1 => wrap64 (sm F k + max (min (F k) 1099511627776) 0)
theorem sm_acc {F : Nat → Int} {n : Nat} (hn : n < 300) (h : ∀ j, j < n → inr (F j)) (k : Nat) (hk : k ≤ n) : sm F k = acc F k := by
  induction k with
  | zero => rfl
  | succ k ih =>
    have h1 := ih (by omega)
    have h2 := h k (by omega)
    have h3 := acc_lo h k (by omega)
    unfold inr at h2
    show wrap64 (sm F k + max (min (F k) 1099511627776) 0) = acc F k + F k
    rw [h1, show max (min (F k) 1099511627776) 0 = F k by omega]
    exact IntWalk.wrap64_in _ (by omega)
theorem serves_l (R : Int) (hR : inr R) (x : Int) (n : Nat) (hx : x = (n : Int)) (hn : n ≤ 300) (S : List Int) (hS : serves R 0 n = S) (hl : S.length = n) (w : World) :
    Calls Tryz.prog 14 #[.int .i64 R, .int .i64 0, .int .i64 x] w (AnsN w n S) := by
  subst hx; subst hS
  have h := hR
  unfold inr at h
  exact (serves_any R 0 n (by omega) (by omega) (by omega) w).mono fun e w' q => q.told hl rfl
set_option maxHeartbeats 6400000 in
theorem two_bad (a b : Int) (ao : Option Addr) (c n : Nat) (z : List Int) (S : Int) (w : World) (L : D.Lw w) (hz : Row w ao z) (en : Hid (z.length = n)) (hn : n ≤ 35184372088832) (hS : Hid (sm (fun j => z.getD j 0) n = S)) (b1 : Bool) (hb1 : Hid (decide (bright a b z) = b1))
    (hbad : b1 = false ∨ b1 = true ∧ decide (1099511627776 < S) = true) :
    Calls Tryz.prog 4 #[.int .i64 a, .int .i64 b, .slice ao n c] w fun e w' => e = .returned (.bool true) ∧ Below w.heap.size w w' := by
  have B : Below w.heap.size w w := Below.refl _ _
  go_enter Tryz.func4, Tryz.ntmps4
  go_wp2_with (go_at_call 7; refine (D.alive_top _ L).mono ?_; clear L; rintro e v0 ⟨rfl, b9⟩; replace hz := hz.kept b9; replace B := bthen B b9; clear b9)
  go_loopw [7, 24] (fun s i wr => ∃ k : Nat, k ≤ n ∧ i = .int .i64 k ∧ s = .int .i64 (sm (fun j => z.getD j 0) k) ∧ wr = v0) (fun _ i _ => n - (intOf i).toNat)
  case atStart => exact ⟨0, Nat.zero_le _, rfl, rfl, rfl⟩
  case round =>
    obtain ⟨k, hk, rfl, rfl, rfl⟩ := hrel
    by_cases hlt : k < n
    · obtain ⟨g, o, rfl, e⟩ := hz.at (by have := en.out; omega)
      have cc := e k (by have := en.out; omega)
      have hkI : (k : Int) < n := by omega
      obtain ⟨V, hV⟩ : ∃ V, sm (fun j => z.getD j 0) (k + 1) = V := ⟨_, rfl⟩
      have hWv : wrap64 (sm (fun j => z.getD j 0) k + max (min (z.getD k 0) 1099511627776) 0) = V := hV
      have hWw : IntKind.i64.wrap (sm (fun j => z.getD j 0) k + max (min (z.getD k 0) 1099511627776) 0) = V := by rw [wrapEq]; exact hV
      replace hV : Hid _ := hV
      generalize z.getD k 0 = x at cc hWv hWw
      generalize sm (fun j => z.getD j 0) k = y at hWv hWw ⊢
      go_wp2
      go_roundw
      case rel => exact ⟨k + 1, by omega, by go_num, by rw [hV.out], by first | rfl | trivial⟩
      case measure => simp [intOf]; omega
    · obtain rfl : k = n := by omega
      rw [hS.out]
      rcases hbad with rfl | ⟨rfl, t1⟩
      all_goals
        go_wp2_with (go_at_call 10; refine (qright_l a b ao _ k z _ hz en.out _ hb1.out).mono ?_; rintro e v3 ⟨rfl, b9⟩; replace B := bthen B b9; clear b9)
        go_ret
        exact ⟨rfl, B⟩
set_option maxHeartbeats 12800000 in
theorem two_ok (a b : Int) (ao : Option Addr) (c n : Nat) (z P P1 P2 Q Q1 Q2 U1 U2 S1 S2 S3 C A : List Int) (S : Int) (w : World) (L : D.Lw w) (hz : Row w ao z) (en : Hid (z.length = n)) (hn : n < 300) (hS : Hid (sm (fun j => z.getD j 0) n = S)) (t1 : decide (1099511627776 < S) = false)
    (hb1 : Hid (decide (bright a b z) = true)) (ha : Hid (inr a)) (hb : Hid (inr b)) (lP : Hid (P.length = n)) (lQ : Hid (Q.length = n))
    (g1 : Hid (bright a 1099511627776 z)) (g2 : Hid (bright b 1099511627776 P)) (m : Int) (hm : Hid (min a b = m)) (g3 : Hid (bright m 1099511627776 z))
    (hP : Hid (outs (qg a 1099511627776 fun j => z.getD j 0) n = P)) (hP1 : Hid (outs (ql a 1099511627776 fun j => z.getD j 0) n = P1)) (hP2 : Hid (outs (qw a 1099511627776 fun j => z.getD j 0) n = P2))
    (hQ : Hid (outs (qg b 1099511627776 fun j => P.getD j 0) n = Q)) (hQ1 : Hid (outs (ql b 1099511627776 fun j => P.getD j 0) n = Q1)) (hQ2 : Hid (outs (qw b 1099511627776 fun j => P.getD j 0) n = Q2))
    (hU : Hid (outs (qg m 1099511627776 fun j => z.getD j 0) n = Q)) (hU1 : Hid (outs (ql m 1099511627776 fun j => z.getD j 0) n = U1)) (hU2 : Hid (outs (qw m 1099511627776 fun j => z.getD j 0) n = U2))
    (s1 : Hid (serves a 0 (n + 1 : Nat) = S1)) (l1 : Hid (S1.length = n + 1)) (s2 : Hid (serves b 0 (n + 1 : Nat) = S2)) (l2 : Hid (S2.length = n + 1)) (s3 : Hid (conv S1 S2 = S3)) (l3 : Hid (S3.length = n + 1))
    (hC : Hid (of Q = C)) (lC : Hid (C.length = n + 1)) (hA : Hid (of z = A)) (lA : Hid (A.length = n + 1)) (hV : Hid (conv A S3 = C)) :
    Calls Tryz.prog 4 #[.int .i64 a, .int .i64 b, .slice ao n c] w fun e w' => e = .returned (.bool true) ∧ Below w.heap.size w w' := by
  have B : Below w.heap.size w w := Below.refl _ _
  have hwr : IntKind.i64.wrap ((n : Int) + 1) = (n : Int) + 1 := wrap_in (by omega)
  have hwv : wrap64 ((n : Int) + 1) = (n : Int) + 1 := IntWalk.wrap64_in _ (by omega)
  go_enter Tryz.func4, Tryz.ntmps4
  go_wp2_with (go_at_call 7; refine (D.alive_top _ L).mono ?_; clear L; rintro e v0 ⟨rfl, b9⟩; replace hz := hz.kept b9; replace B := bthen B b9; clear b9)
  go_loopw [7, 24] (fun s i wr => ∃ k : Nat, k ≤ n ∧ i = .int .i64 k ∧ s = .int .i64 (sm (fun j => z.getD j 0) k) ∧ wr = v0) (fun _ i _ => n - (intOf i).toNat)
  case atStart => exact ⟨0, Nat.zero_le _, rfl, rfl, rfl⟩
  case round =>
    obtain ⟨k, hk, rfl, rfl, rfl⟩ := hrel
    by_cases hlt : k < n
    · obtain ⟨g, o, rfl, e⟩ := hz.at (by have := en.out; omega)
      have cc := e k (by have := en.out; omega)
      have hkI : (k : Int) < n := by omega
      obtain ⟨V, hV⟩ : ∃ V, sm (fun j => z.getD j 0) (k + 1) = V := ⟨_, rfl⟩
      have hWv : wrap64 (sm (fun j => z.getD j 0) k + max (min (z.getD k 0) 1099511627776) 0) = V := hV
      have hWw : IntKind.i64.wrap (sm (fun j => z.getD j 0) k + max (min (z.getD k 0) 1099511627776) 0) = V := by rw [wrapEq]; exact hV
      replace hV : Hid _ := hV
      generalize z.getD k 0 = x at cc hWv hWw
      generalize sm (fun j => z.getD j 0) k = y at hWv hWw ⊢
      go_wp2
      go_roundw
      case rel => exact ⟨k + 1, by omega, by go_num, by rw [hV.out], by first | rfl | trivial⟩
      case measure => simp [intOf]; omega
    · obtain rfl : k = n := by omega
      rw [hS.out]
      have hmi : (if a ≤ b then a else b) = m := by have := hm.out; omega
      have T0 := tok
      have T1 := tok
      have T2 := tok
      have T3 := tok
      have T4 := tok
      have T5 := tok
      have T6 := tok
      have T7 := tok
      have T8 := tok
      have T9 := tok
      have T10 := tok
      have hmm := hm.out
      go_wp2_with (first
        | (clear T0; go_at_call 10; refine (qright_l a b ao _ k z _ hz en.out _ hb1.out).mono ?_; rintro e v1 ⟨rfl, b9⟩; replace hz := hz.kept b9; replace B := bthen B b9; clear b9)
        | (clear T1; go_at_call 11; refine (play_l a 1099511627776 ao _ k z P P1 P2 _ hz en.out g1.out hP.out hP1.out hP2.out).mono ?_; rintro e v2 ⟨a1, c1, a2, c2, a3, c3, rfl, _, h1, _, _, b9⟩; replace hz := hz.kept b9; replace B := bthen B b9; clear b9)
        | (clear T2; go_at_call 11; refine (play_l b 1099511627776 a1 _ k P Q Q1 Q2 _ h1 lP.out g2.out hQ.out hQ1.out hQ2.out).mono ?_; rintro e v3 ⟨a4, c4, a5, c5, a6, c6, rfl, _, h2, _, _, b9⟩; replace hz := hz.kept b9; replace B := bthen B b9; clear b9 h1)
        | (clear T3; go_at_call 11; refine (play_l m 1099511627776 ao _ k z Q U1 U2 _ hz en.out g3.out hU.out hU1.out hU2.out).mono ?_; rintro e v4 ⟨a7, c7, a8, c8, a9, c9, rfl, _, h3, _, _, b9⟩; replace hz := hz.kept b9; replace h2 := h2.kept b9; replace B := bthen B b9; clear b9)
        | (clear T4; go_at_call 14; refine (serves_l a ha.out _ (k + 1) (by omega) (by omega) S1 s1.out l1.out _).mono ?_; rintro e v5 ⟨d1, f1, rfl, _, h4, b9⟩; replace hz := hz.kept b9; replace h2 := h2.kept b9; replace h3 := h3.kept b9; replace B := bthen B b9; clear b9)
        | (clear T5; go_at_call 14; refine (serves_l b hb.out _ (k + 1) (by omega) (by omega) S2 s2.out l2.out _).mono ?_; rintro e v6 ⟨d2, f2, rfl, _, h5, b9⟩; replace hz := hz.kept b9; replace h2 := h2.kept b9; replace h3 := h3.kept b9; replace h4 := h4.kept b9; replace B := bthen B b9; clear b9)
        | (clear T6; go_at_call 13; refine (conv_r d1 d2 _ _ (k + 1) S1 S2 S3 s3.out _ h4 h5 l1.out l2.out (by omega)).mono ?_; rintro e v7 ⟨d3, f3, rfl, _, h6, b9⟩; replace hz := hz.kept b9; replace h2 := h2.kept b9; replace h3 := h3.kept b9; replace B := bthen B b9; clear b9 h4 h5)
        | (clear T7; go_at_call 15; refine (equal_n a4 a7 _ _ k k Q Q _ h2 h3 lQ.out lQ.out (by omega) (by omega) true (decide_eq_true rfl)).mono ?_; rintro e v8 ⟨rfl, b9⟩; replace hz := hz.kept b9; replace h2 := h2.kept b9; replace h6 := h6.kept b9; replace B := bthen B b9; clear b9 h3)
        | (clear T8; go_at_call 16; refine (of_r a4 _ k Q C hC.out _ h2 lQ.out (by omega)).mono ?_; rintro e v9 ⟨d4, f4, rfl, _, h7, b9⟩; replace hz := hz.kept b9; replace h6 := h6.kept b9; replace B := bthen B b9; clear b9 h2)
        | (clear T9; go_at_call 16; refine (of_r ao _ k z A hA.out _ hz en.out (by omega)).mono ?_; rintro e v10 ⟨d5, f5, rfl, _, h8, b9⟩; replace h6 := h6.kept b9; replace h7 := h7.kept b9; replace B := bthen B b9; clear b9 hz)
        | (clear T10; go_at_call 13; refine (conv_r d5 d3 _ _ (k + 1) A S3 C hV.out _ h8 h6 lA.out l3.out (by omega)).mono ?_; rintro e v11 ⟨d6, f6, rfl, _, h9, b9⟩; replace h7 := h7.kept b9; replace B := bthen B b9; clear b9 h8 h6)
        | (go_at_call 15; refine (equal_n d4 d6 _ _ (k + 1) (k + 1) C C _ h7 h9 lC.out lC.out (by omega) (by omega) true (decide_eq_true rfl)).mono ?_; rintro e v12 ⟨rfl, b9⟩; replace B := bthen B b9; clear b9 h7 h9))
      go_ret
      exact ⟨rfl, B⟩
theorem topTwo_go (a b : Int) (ao : Option Addr) (c : Nat) (z : List Int) (w : World) (L : D.Lw w) (hz : Row w ao z) (hl : z.length ≤ 35184372088832) :
    Calls Tryz.prog 4 #[.int .i64 a, .int .i64 b, .slice ao z.length c] w fun e w' => e = .returned (.bool true) ∧ Below w.heap.size w w' := by
  by_cases h1 : bright a b z
  · by_cases c1 : 1099511627776 < sm (fun j => z.getD j 0) z.length
    · exact two_bad a b ao c _ z _ w L hz rfl hl rfl true (decide_eq_true h1) (.inr ⟨rfl, decide_eq_true c1⟩)
    have hF : ∀ j, j < z.length → inr ((fun j => z.getD j 0) j) := h1.2.2.2
    have hM : inr 1099511627776 := by unfold inr; omega
    have ha := h1.1
    have hb := h1.2.1
    have hn := h1.2.2.1
    have hm : inr (min a b) := by unfold inr at *; omega
    have hs : acc (fun j => z.getD j 0) z.length ≤ 1099511627776 := by
      rw [sm_acc hn hF _ (Nat.le_refl _)] at c1; omega
    have g1 : bright a 1099511627776 z := ⟨ha, hM, h1.2.2⟩
    have g3 : bright (min a b) 1099511627776 z := ⟨hm, hM, h1.2.2⟩
    have g2 : bright b 1099511627776 (outs (qg a 1099511627776 fun j => z.getD j 0) z.length) := outs_bright h1 hb hM fun j hj => qg_in ha hM hF j hj
    have ext : ∀ k, k < z.length → (outs (qg a 1099511627776 fun j => z.getD j 0) z.length).getD k 0 = qg a 1099511627776 (fun j => z.getD j 0) k := fun k hk => outs_getD _ _ _ hk
    have two := fun j hj => two_queues ha hb hF hn hM hs j hj
    have eQ : outs (qg b 1099511627776 fun j => (outs (qg a 1099511627776 fun j => z.getD j 0) z.length).getD j 0) z.length = outs (qg b 1099511627776 (qg a 1099511627776 fun j => z.getD j 0)) z.length :=
      outs_ext fun j hj => qg_ext j fun i hi => ext i (by omega)
    have eU : outs (qg (min a b) 1099511627776 fun j => z.getD j 0) z.length = outs (qg b 1099511627776 (qg a 1099511627776 fun j => z.getD j 0)) z.length :=
      outs_ext fun j hj => ((two j hj).1).symm
    have e1 := serves_line ha (z.length + 1) (by omega)
    have e2 := serves_line hb (z.length + 1) (by omega)
    have hG : ∀ j, j < z.length → inr (qg b 1099511627776 (qg a 1099511627776 fun j => z.getD j 0) j) := fun j hj => qg_in hb hM (fun i hi => qg_in ha hM hF i hi) j hj
    have l1 : (serves a 0 (z.length + 1 : Nat)).length = z.length + 1 := by rw [e1, line_len ha ha]
    have l2 : (serves b 0 (z.length + 1 : Nat)).length = z.length + 1 := by rw [e2, line_len hb hb]
    have l3 : (conv (serves a 0 (z.length + 1 : Nat)) (serves b 0 (z.length + 1 : Nat))).length = z.length + 1 := by rw [conv_len, l1, l2]; omega
    refine two_ok a b ao c z.length z _ _ _ (outs (qg b 1099511627776 (qg a 1099511627776 fun j => z.getD j 0)) z.length) _ _ _ _ _ _ _ (of (outs (qg b 1099511627776 (qg a 1099511627776 fun j => z.getD j 0)) z.length)) _ _ w L hz rfl hn rfl (decide_eq_false c1) (decide_eq_true h1) ha hb (outs_len _ _) (outs_len _ _) g1 g2 (min a b) rfl g3 rfl rfl rfl eQ rfl rfl eU rfl rfl rfl l1 rfl l2 rfl l3 rfl ?_ rfl (of_len _) ?_
    · show (of _).length = _
      rw [of_len, outs_len]
    · show conv _ _ = _
      refine list_ext (by rw [conv_len, of_len, of_len, outs_len, l3]; omega) fun t ht => ?_
      rw [conv_len, of_len, l3] at ht
      have ht' : t ≤ z.length := by omega
      rw [conv_getD _ _ _ (by rw [of_len, l3]; omega), of_outs h1 hG t ht', acc_ext t fun j hj => (two j (by omega)).2, (two_sums ha hb hF hn t ht').1]
      refine cv_ext (fun j hj => of_getD h1 j (by omega)) fun j hj => ?_
      rw [conv_getD _ _ _ (by rw [l1, l2]; omega)]
      refine cv_ext (fun i hi => ?_) fun i hi => ?_
      · rw [e1, line_getD ha ha _ _ (by omega)]
      · rw [e2, line_getD hb hb _ _ (by omega)]
  · exact two_bad a b ao c _ z _ w L hz rfl hl rfl false (decide_eq_false h1) (.inl rfl)
end Go.Proofs.YtjageagnclmnjabGreatDoor.B
