/- PROVED: what mean.steepest answers. CONDITIONS: none beyond each theorem's own. -/
import Derived.Test.YtdbpgcaodgkcjaaSl
namespace Go.Proofs.Ytdbpgcaodgkcjaa
open Go.RowKit
set_option linter.unusedVariables false

set_option maxHeartbeats 3200000 in
theorem steepest_any (n : Nat) (es : List Eg) (hG : Gph n es) (g c : Nat) (O : Nat → Nat) (N1 : Nat) (hN1 : N1 = n + 1) (w : World) (hT : Tbl w g c n O es) :
    Calls Try.prog 21 #[.slice (some ⟨g, 0, none⟩) N1 c] w fun e w' => ∃ (N : Int) (m : Int × Int), e = .returned (.int .i64 N) ∧ Stp es n n N m ∧ Below w.heap.size w w' := by
  have n3 := hG.n3
  have i2 : (N1 : Int) - 1 = (n : Int) := by omega
  have i3 : (n : Int) < (N1 : Int) := by omega
  have hls : Hid (∀ (v : Nat) (x : Int × Nat), v < n → tb es n v = some x → ∀ u, Tbl u g c n O es → Calls Try.prog 29 #[.slice (some ⟨g, 0, none⟩) N1 c, .int .i64 v] u fun e w' => ∃ s : Int × Int, e = .returned (.agg #[.int .i64 s.1, .int .i64 s.2]) ∧ Lsl es n v n s ∧ Below u.heap.size u w') := fun v x hv hx u hu => leastSlope_any n es hG g c O N1 hN1 v hv x hx u hu
  have hgh : Hid (Gph n es) := hG
  have T0 := hT.alloc (.cells #[.int .i64 0, .int .i64 0] 58)
  have tn := T0.top n (Nat.le_refl _)
  have st : Stp es n 0 (-1) (0, 0) := Stp.start es n (0, 0)
  have FM := Fr.new58 w _ rfl 0 0
  have B1 : Below w.heap.size w (w.alloc (.cells #[.int .i64 0, .int .i64 0] 58)) := balloc (Below.refl _ _) _
  obtain ⟨W1, hW1⟩ : ∃ W1, w.alloc (.cells #[.int .i64 0, .int .i64 0] 58) = W1 := ⟨_, rfl⟩
  rw [hW1] at FM B1 tn
  replace hN1 : Hid _ := hN1
  clear hG T0
  go_enter Try.func21, Try.ntmps21
  go_wp2
  clear tn
  go_loopw [3, 15] (fun x i wr => ∃ k : Nat, k ≤ n ∧ i = .int .i64 k ∧ ∃ (N : Int) (m : Int × Int), x = .int .i64 N ∧ Stp es n k N m ∧ Fr wr w.heap.size m.1 m.2 ∧ Below w.heap.size w wr) (fun _ i _ => n - (intOf i).toNat)
  case atStart => exact ⟨0, Nat.zero_le _, rfl, _, _, rfl, st, FM, B1⟩
  case round =>
    clear st FM B1 hW1
    obtain ⟨k, hk, rfl, N, ⟨m1, m2⟩, rfl, hS, FM, B⟩ := hrel
    simp only at FM
    by_cases hlt : k < n
    · have hkI : (k : Int) < (n : Int) := by omega
      have T := hT.kept B
      have hBs := B.size
      obtain ⟨c0, c1⟩ := (T.row n (Nat.le_refl _)).c k hlt
      obtain ⟨X, hX⟩ : ∃ X, wv (tb es n k) = X := ⟨_, rfl⟩
      obtain ⟨Y, hY⟩ : ∃ Y, lv (tb es n k) = Y := ⟨_, rfl⟩
      simp only [hX, hY] at c0 c1
      have T1 := T.alloc (.cells #[.int .i64 X, .int .i64 Y] 60)
      have B1 := balloc B (.cells #[.int .i64 X, .int .i64 Y] 60)
      have FM1 := FM.alloc (.cells #[.int .i64 X, .int .i64 Y] 60)
      have x0 : (wr.alloc (.cells #[.int .i64 X, .int .i64 Y] 60)).cell? ⟨wr.heap.size, 0, none⟩ = some (.int .i64 X) := by rw [World.cell?_alloc_at _ _ _ _ rfl]; rfl
      obtain ⟨W2, hW2⟩ : ∃ W2, wr.alloc (.cells #[.int .i64 X, .int .i64 Y] 60) = W2 := ⟨_, rfl⟩
      obtain ⟨E, hEE⟩ : ∃ E, wr.heap.size = E := ⟨_, rfl⟩
      rw [hW2] at T1 B1 FM1 x0
      rw [hEE] at x0
      clear T B FM hT
      cases hd : tb es n k with
      | none =>
        have hS2 := hS.skip hd
        rw [hd] at hX
        have hX' : (X == -1152921504606846976) = true := beq_iff_eq.2 hX.symm
        clear hX hd hY
        go_wp2
        go_roundw
        case rel => exact ⟨k + 1, by omega, by go_num, N, (m1, m2), rfl, hS2, FM1, B1⟩
        case measure => simp [intOf]; omega
      | some y =>
        have yr := tb_range hgh.out.wgt hd
        rw [hd] at hX
        have hX2 : y.1 = X := hX
        have hX' : (X == -1152921504606846976) = false := beq_eq_false_iff_ne.2 (by omega)
        have h29 := hls.out k y hlt hd
        clear hX hX2 yr hY
        have hwE : w.heap.size ≤ E := by rw [← hEE]; exact hBs
        by_cases hN : N = -1
        · subst hN
          go_wp2_with (go_at_call 29; refine (h29 _ T1).mono ?_; rintro e W3 ⟨⟨s1, s2⟩, rfl, hL, bb⟩; clear h29; replace T1 := T1.kept bb; replace B1 := bthen B1 bb; replace FM1 := FM1.kept bb; replace B1 := balloc B1 (.cells #[.int .i64 s1, .int .i64 s2] 58); replace FM1 := FM1.alloc (.cells #[.int .i64 s1, .int .i64 s2] 58); have FS := Fr.new58 W3 W3.heap.size rfl s1 s2; have hne : W3.heap.size ≠ w.heap.size := (by have := B1.size; have : w.heap.size < W3.heap.size := (by have h1 := bb.size; rw [← hW2] at h1; simp at h1; have h2 : w.heap.size ≤ E := hwE; omega); omega); obtain ⟨W4, hW4⟩ : ∃ W4, W3.alloc (.cells #[.int .i64 s1, .int .i64 s2] 58) = W4 := ⟨_, rfl⟩; obtain ⟨E3, hE3⟩ : ∃ E3, W3.heap.size = E3 := ⟨_, rfl⟩; rw [hW4] at B1 FM1 FS; rw [hE3] at FS hne; obtain ⟨s0, s01, sf0, sf1⟩ := id FS; obtain ⟨l0, l01, lf0, lf1⟩ := id FM1; have hS2 := hS.take hL (.inl rfl); clear hL bb T1 hS)
          have FM3 : ∀ q, Fr (((W4.drewN q).setCell ⟨w.heap.size, 0, none⟩ (.int .i64 s1)).setCell ⟨w.heap.size, 1, none⟩ (.int .i64 s2)) w.heap.size s1 s2 := fun q => (FM1.drewN q).put s1 s2
          have B3 : ∀ q, Below w.heap.size w (((W4.drewN q).setCell ⟨w.heap.size, 0, none⟩ (.int .i64 s1)).setCell ⟨w.heap.size, 1, none⟩ (.int .i64 s2)) := fun q => put2S (P := w.heap.size) (below_drewN B1 q) (Nat.le_refl _) (.int .i64 s1) (.int .i64 s2)
          clear B1 FM1 FS
          go_region
          all_goals
            go_wp2
            go_roundw
            case rel => exact ⟨k + 1, by omega, by go_num, (k : Int), (s1, s2), rfl, hS2, FM3 1, B3 1⟩
            case measure => simp [intOf]; omega
        · have hN' : (N == -1) = false := beq_eq_false_iff_ne.2 hN
          obtain ⟨v0, -, -, hL0, -⟩ := hS.yes hN
          have so := hL0.range hgh.out.wgt n3
          clear hL0
          have T2 := True.intro
          go_wp2_with (first
            | (go_at_call 29; refine (h29 _ T1).mono ?_; rintro e W3 ⟨⟨s1, s2⟩, rfl, hL, bb⟩; clear h29; replace T1 := T1.kept bb; replace B1 := bthen B1 bb; replace FM1 := FM1.kept bb; replace B1 := balloc B1 (.cells #[.int .i64 s1, .int .i64 s2] 58); replace FM1 := FM1.alloc (.cells #[.int .i64 s1, .int .i64 s2] 58); have FS := Fr.new58 W3 W3.heap.size rfl s1 s2; have hne : W3.heap.size ≠ w.heap.size := (by have := B1.size; have : w.heap.size < W3.heap.size := (by have h1 := bb.size; rw [← hW2] at h1; simp at h1; have h2 : w.heap.size ≤ E := hwE; omega); omega); obtain ⟨W4, hW4⟩ : ∃ W4, W3.alloc (.cells #[.int .i64 s1, .int .i64 s2] 58) = W4 := ⟨_, rfl⟩; obtain ⟨E3, hE3⟩ : ∃ E3, W3.heap.size = E3 := ⟨_, rfl⟩; rw [hW4] at B1 FM1 FS; rw [hE3] at FS hne; obtain ⟨s0, s01, sf0, sf1⟩ := id FS; obtain ⟨l0, l01, lf0, lf1⟩ := id FM1; have so2 := hL.range hgh.out.wgt n3; have h30 := below_any m1 m2 s1 s2 so so2; clear bb T1 so so2)
            | (go_at_call 30; refine (h30 _).mono ?_; rintro e W5 ⟨rfl, bb⟩; clear h30 s0 s01 sf0 sf1 l0 l01 lf0 lf1; replace B1 := bthen B1 bb; replace FM1 := FM1.kept bb; replace FS := FS.kept bb; clear bb hW4; obtain ⟨s0, s01, sf0, sf1⟩ := id FS; obtain ⟨l0, l01, lf0, lf1⟩ := id FM1; generalize hbb : decide (sbl (m1, m2) (s1, s2)) = bb))
          · have hb : bb = true := by assumption
            rw [hb] at hbb
            have hS2 := hS.take hL (.inr (of_decide_eq_true hbb))
            have FM3 : ∀ q, Fr (((W5.drewN q).setCell ⟨w.heap.size, 0, none⟩ (.int .i64 s1)).setCell ⟨w.heap.size, 1, none⟩ (.int .i64 s2)) w.heap.size s1 s2 := fun q => (FM1.drewN q).put s1 s2
            have B3 : ∀ q, Below w.heap.size w (((W5.drewN q).setCell ⟨w.heap.size, 0, none⟩ (.int .i64 s1)).setCell ⟨w.heap.size, 1, none⟩ (.int .i64 s2)) := fun q => put2S (P := w.heap.size) (below_drewN B1 q) (Nat.le_refl _) (.int .i64 s1) (.int .i64 s2)
            clear B1 FM1 FS hbb hS hL
            go_region
            all_goals
              go_wp2
              go_roundw
              case rel => exact ⟨k + 1, by omega, by go_num, (k : Int), (s1, s2), rfl, hS2, FM3 1, B3 1⟩
              case measure => simp [intOf]; omega
          · have hb : bb = false := by first | assumption | (cases bb; (rfl); (exact absurd rfl (by assumption)))
            rw [hb] at hbb
            have hS2 := hS.keep hL hN (of_decide_eq_false hbb)
            exact ⟨⟨k + 1, by omega, by go_num, N, (m1, m2), rfl, hS2, FM1, B1⟩, by simp [intOf]; omega⟩
    · obtain rfl : k = n := by omega
      go_wp2
      go_ret
      exact ⟨N, _, rfl, hS, B⟩

end Go.Proofs.Ytdbpgcaodgkcjaa
