/- PROVED: what the document's own delays are. CONDITIONS: none beyond each theorem's own. -/
import Derived.Test.YtmhdodlgbbaonaaQRef
import Derived.Test.YtmhdodlgbbaonaaQDelay
import Derived.Test.YtmhdodlgbbaonaaRefOf
namespace Go.Proofs.Ytmhdodlgbbaonaa
open Go.RowKit

theorem dof_n (a : Option Addr) (c n : Nat) (f S : List Int) (hS : of f = S) (w : World) (k : Row w a f) (e1 : f.length = n) (h : n ≤ 17592186044415) (hc : n ≤ c) :
    Calls Try.prog 25 #[.slice a n c] w (AnsN w (n + 1) S) := by
  subst e1
  exact (dof_any a c f w k h hc).mono fun e w' q => q.told (of_len f) hS

theorem gplay_r (R M : Int) (a : Option Addr) (cap n : Nat) (z P L Q : List Int) (w : World) (hz : Row w a z) (en : z.length = n) (h : bright R M z) (hP : pw R M z = P) (hL : pl R M z = L) (hQ : pq R M z = Q) :
    Calls Try.prog 10 #[.int .i64 R, .int .i64 M, .slice a n cap] w (Ans3 w n P L Q) := by
  subst en
  have := gplay_any R M a cap z w hz h
  unfold pw at hP
  unfold pl at hL
  unfold pq at hQ
  rw [if_pos h] at hP hL hQ
  rw [hP, hL, hQ] at this
  exact this
set_option maxHeartbeats 800000 in
theorem gplay_none (R M : Int) (a : Option Addr) (cap n : Nat) (z : List Int) (w : World) (hz : Row w a z) (en : z.length = n) (hl : n ≤ 17592186044414) (h : ¬ bright R M z) :
    Calls Try.prog 10 #[.int .i64 R, .int .i64 M, .slice a n cap] w (Ans3 w 0 [] [] []) := by
  subst en
  have hb := fright_any R M a cap z w hz hl
  rw [decide_eq_false h] at hb
  generalize z.length = n at hb ⊢
  go_enter Try.func10, Try.ntmps10
  go_wp2_with (go_at_call 12; refine hb.mono ?_; rintro e w1 ⟨rfl, b1⟩; clear hb)
  go_ret3
  exact ⟨none, 0, none, 0, none, 0, rfl, Nat.le_refl _, .inl rfl, .inl rfl, .inl rfl, b1⟩

theorem Gath.drewN {w : World} {t : Value} {wr : World} {R : List Int} (h : Gath w t wr R) (q : Nat) : Gath w t (wr.drewN q) R := ⟨own_drew h.own q, below_drewN h.below q⟩

set_option maxHeartbeats 3200000 in
set_option maxRecDepth 100000 in
theorem gdelays_go (R : Int) (a : Option Addr) (cap n : Nat) (z P Y Z OZ OP : List Int) (A G : Nat → Int) (w : World) (r : Row w a z) (en : Hid (z.length = n)) (hn : n < 300) (hcap : n ≤ cap) (hb : Hid (bright R 1099511627776 z))
    (hP : Hid (pw R 1099511627776 z = P)) (hY : Hid (pl R 1099511627776 z = Y)) (hZ : Hid (pq R 1099511627776 z = Z)) (lP : Hid (P.length = n)) (o1 : Hid (of z = OZ)) (o2 : Hid (of P = OP)) (m1 : Hid (OZ.length = n + 1)) (m2 : Hid (OP.length = n + 1))
    (g1 : Hid (∀ j, j ≤ n → OZ.getD j 0 = A j)) (g2 : Hid (∀ j, j ≤ n → OP.getD j 0 = G j)) (D : Nat → Int) (hD : Hid (delay A G n = D)) :
    Calls Try.prog 15 #[.int .i64 R, .slice a n cap] w (AnsN w n (outs D n)) := by
  obtain ⟨i0, hi, hz0, hz1, hz2'⟩ := info_parts Try.info3
  have B : Below w.heap.size w w := Below.refl _ _
  have T1 := tok
  have T2 := tok
  have T3 := tok
  go_enter Try.func15, Try.ntmps15
  go_wp2_with (first
    | (clear T1; go_at_call 10; refine (gplay_r R 1099511627776 a _ n z P Y Z _ r en.out hb.out hP.out hY.out hZ.out).mono ?_; rintro e v1 ⟨a1, c1, a2, c2, a3, c3, rfl, hc1, r1, _, _, b1⟩; replace B := bthen B b1; replace r := r.kept b1; clear b1)
    | (clear T2; go_at_call 25; refine (dof_n a _ n z OZ o1.out _ r en.out (by omega) hcap).mono ?_; rintro e v2 ⟨a4, c4, rfl, _, r4, b2⟩; replace B := bthen B b2; replace r1 := r1.kept b2; clear b2 r)
    | (clear T3; go_at_call 25; refine (dof_n a1 _ n P OP o2.out _ r1 lP.out (by omega) hc1).mono ?_; rintro e v3 ⟨a5, c5, rfl, _, r5, b3⟩; replace B := bthen B b3; replace r4 := r4.kept b3; clear b3 r1))
  generalize hN1 : n + 1 = N1 at *
  replace hN1 : Hid (n + 1 = N1) := hN1
  go_loopw [10, 26] (fun t i wr => ∃ k : Nat, k ≤ n ∧ i = .int .i64 k ∧ Gath v3 t wr (outs D k)) (fun _ i _ => n - (intOf i).toNat)
  case atStart => exact ⟨0, Nat.zero_le _, rfl, Gath.start v3⟩
  case round =>
    obtain ⟨k, hk, rfl, hG⟩ := hrel
    by_cases hlt : k < n
    · have hlI : (k : Int) < n := by omega
      go_wp2
      go_loopw [12] (fun d wi => ∃ j : Nat, k + j ≤ n ∧ d = .int .i64 j ∧ (∀ i, i < j → G (k + i + 1) < A (k + 1)) ∧ Gath v3 u10 wi (outs D k)) (fun d _ => n - (intOf d).toNat)
      case atStart => exact ⟨0, by omega, rfl, fun i hi => by omega, hG⟩
      case round =>
        clear hG
        obtain ⟨j, hj, rfl, hall, hG⟩ := hrel
        have hN2 := hN1.out
        obtain ⟨b4, s4, rfl, e4⟩ := (r4.kept hG.below).at (by rw [m1.out]; omega)
        obtain ⟨k1, hk1⟩ : ∃ k1, k + 1 = k1 := ⟨_, rfl⟩
        obtain ⟨s, hs⟩ : ∃ s, k + j = s := ⟨_, rfl⟩
        have hkI : (k : Int) + 1 = (k1 : Int) := by omega
        have hsI : (k : Int) + (j : Int) = (s : Int) := by omega
        have hw1 : IntKind.i64.wrap (k1 : Int) = (k1 : Int) := wrapIn (by omega)
        have hw2 : IntKind.i64.wrap (s : Int) = (s : Int) := wrapIn (by omega)
        have hk2 : (k1 : Int) < (N1 : Int) := by omega
        have hRl := outs_len D k
        by_cases hsn : k + j < n
        · obtain ⟨b5, s5, rfl, e5⟩ := (r5.kept hG.below).at (by rw [m2.out]; omega)
          obtain ⟨s1, hs1⟩ : ∃ s1, s + 1 = s1 := ⟨_, rfl⟩
          have hs1I : (s : Int) + 1 = (s1 : Int) := by omega
          have hw3 : IntKind.i64.wrap (s1 : Int) = (s1 : Int) := wrapIn (by omega)
          have hs2 : (s1 : Int) < (N1 : Int) := by omega
          have hs3 : (s : Int) < (n : Int) := by omega
          have c4 := e4 k1 (by rw [m1.out]; omega)
          have c5 := e5 s1 (by rw [m2.out]; omega)
          rw [g1.out _ (by omega)] at c4
          rw [g2.out _ (by omega)] at c5
          clear e4 e5 r4 r5
          have hall2 : Hid (G s1 < A k1 → ∀ i, i < j + 1 → G (k + i + 1) < A (k + 1)) := fun h i hi => by
            by_cases e : i = j
            · subst e; rw [show k + i + 1 = s1 by omega, hk1]; exact h
            · exact hall i (by omega)
          have hend : Hid (A k1 ≤ G s1 → (j : Int) = D k) := fun h => by
            rw [← hD.out, delay_is A G n k j (by omega) (by omega) hall (fun _ => by rw [show k + j + 1 = s1 by omega, hk1]; exact h), if_neg (by omega)]
          clear hall
          generalize A k1 = y at *
          generalize G s1 = x at *
          by_cases hxy : x < y
          · have hall3 := hall2.out hxy
            replace hall3 : Hid _ := hall3
            have hk1' : Hid (k + 1 = k1) := hk1
            have hs' : Hid (k + j = s) := hs
            have hs1' : Hid (s + 1 = s1) := hs1
            clear hall2 hend hk1 hs hs1 hN2
            go_wp2
            go_quiet (fail)
            go_wp2
            go_roundw
            case rel => exact ⟨j + 1, by omega, by go_num, hall3.out, hG.drewN _⟩
            case measure => simp [intOf]; omega
          · have hval : Hid ((j : Int) = D k) := hend.out (by omega)
            have hxd : decide (x < y) = false := decide_eq_false hxy
            have hsn2 : ¬ (s : Int) = (n : Int) := by omega
            clear hall2 hend hk1 hs hs1 hN2
            go_wp2
            go_quiet (fail)
            have hG2 := hG.drewN nq
            go_wp2_with (at_builtin; refine wpList_append_own _ rfl _ _ 22 rfl v3.heap.size 3 i0 (.int .i64 0) 1 8 Try.underlying22 hi hz0 hz1 hz2' rfl (by decide) _ _ _ rfl (hG2.own.alloc _) ⟨_, 0, none⟩ 1 1 [.int .i64 j] rfl rfl (cell_one_new _ _ _) (by simp [Value.oneCell']) (by unfold maxLen; omega) (by omega) (by have := hG.below.size; simp; omega) ?_; intro t' w2 hown' hgrow _; have hS := hG2.next (Below.refl _ _) hval.out hown' hgrow; clear hown' hgrow)
            go_roundw
            case rel => exact ⟨k + 1, by omega, by go_num, hS⟩
            case measure => simp [intOf]; omega
        · have hsn1 : (s : Int) = (n : Int) := by omega
          have hsn2 : decide ((s : Int) < (n : Int)) = false := decide_eq_false (by omega)
          have hval : Hid (-1 = D k) := by
            show _ = _
            rw [← hD.out, delay_is A G n k j (by omega) (by omega) hall (fun h => absurd h hsn), if_pos (by omega)]
          clear hall hk1 hs hN2 e4
          go_wp2
          go_quiet (fail)
          have hG2 := hG.drewN nq
          go_wp2_with (at_builtin; refine wpList_append_own _ rfl _ _ 22 rfl v3.heap.size 3 i0 (.int .i64 0) 1 8 Try.underlying22 hi hz0 hz1 hz2' rfl (by decide) _ _ _ rfl (hG2.own.alloc _) ⟨_, 0, none⟩ 1 1 [.int .i64 (-1)] rfl rfl (cell_one_new _ _ _) (by simp [Value.oneCell']) (by unfold maxLen; omega) (by omega) (by have := hG.below.size; simp; omega) ?_; intro t' w2 hown' hgrow _; have hS := hG2.next (Below.refl _ _) hval.out hown' hgrow; clear hown' hgrow)
          go_roundw
          case rel => exact ⟨k + 1, by omega, by go_num, hS⟩
          case measure => simp [intOf]; omega
    · obtain rfl : k = n := by omega
      go_wp2
      go_ret
      obtain ⟨ao, d, e, h1, h2, h3⟩ := hG.done
      rw [outs_len] at e h1
      exact ⟨ao, d, e, h1, h2, bthen B h3⟩

/-- what GDelays answers where it is Right -/
theorem gdelays_any (R : Int) (a : Option Addr) (cap n : Nat) (z : List Int) (w : World) (hz : Row w a z) (en : z.length = n) (hc : n ≤ cap) (h : bright R 1099511627776 z) (D : List Int) (hD : dels R z = D) :
    Calls Try.prog 15 #[.int .i64 R, .slice a n cap] w (AnsN w n D) := by
  subst en
  have e : dels R z = outs (delay (acc fun j => z.getD j 0) (acc (qg R 1099511627776 fun j => z.getD j 0)) z.length) z.length := by unfold dels; rw [if_pos h]
  rw [← hD, e]
  have hg := qg_in h.1 h.2.1 h.2.2.2
  have hw : pw R 1099511627776 z = outs (qg R 1099511627776 fun j => z.getD j 0) z.length := by unfold pw; rw [if_pos h]
  refine gdelays_go R a cap z.length z _ _ _ _ _ (acc fun j => z.getD j 0) (acc (qg R 1099511627776 fun j => z.getD j 0)) w hz rfl h.2.2.1 hc h rfl rfl rfl (by show _ = _; rw [hw, outs_len]) rfl rfl (of_len _) (by show _ = _; rw [of_len, hw, outs_len]) (fun j hj => of_getD h j hj) (fun j hj => ?_) _ rfl
  rw [hw]; exact of_outs h hg j hj
set_option maxHeartbeats 1600000 in
/-- where it is not Right: none -/
theorem gdelays_none (R : Int) (a : Option Addr) (cap n : Nat) (z : List Int) (w : World) (hz : Row w a z) (en : z.length = n) (hc : n ≤ cap) (hl : n ≤ 17592186044414) (h : ¬ bright R 1099511627776 z) :
    Calls Try.prog 15 #[.int .i64 R, .slice a n cap] w (AnsN w 0 []) := by
  have B : Below w.heap.size w w := Below.refl _ _
  replace h : Hid _ := h
  replace en : Hid _ := en
  have T1 := tok
  have T2 := tok
  have T3 := tok
  go_enter Try.func15, Try.ntmps15
  go_wp2_with (first
    | (clear T1; go_at_call 10; refine (gplay_none R 1099511627776 a _ n z _ hz en.out hl h.out).mono ?_; rintro e v1 ⟨a1, c1, a2, c2, a3, c3, rfl, hc1, r1, _, _, b1⟩; replace B := bthen B b1; replace hz := hz.kept b1; clear b1)
    | (clear T2; go_at_call 25; refine (dof_n a _ n z _ rfl _ hz en.out (by omega) hc).mono ?_; rintro e v2 ⟨a4, c4, rfl, _, r4, b2⟩; replace B := bthen B b2; replace r1 := r1.kept b2; clear b2 hz)
    | (clear T3; go_at_call 25; refine (dof_n a1 _ 0 [] _ rfl _ r1 rfl (by omega) hc1).mono ?_; rintro e v3 ⟨a5, c5, rfl, _, r5, b3⟩; replace B := bthen B b3; clear b3 r1))
  go_loopw [10, 26] (fun t i wr => t = .slice none 0 0 ∧ i = .int .i64 0 ∧ v3 = wr) (fun _ i _ => 0)
  case atStart => exact ⟨rfl, rfl, rfl⟩
  case round =>
    obtain ⟨rfl, rfl, rfl⟩ := hrel
    go_wp2
    go_ret
    exact ⟨none, 0, rfl, Nat.le_refl _, .inl rfl, B⟩

end Go.Proofs.Ytmhdodlgbbaonaa
