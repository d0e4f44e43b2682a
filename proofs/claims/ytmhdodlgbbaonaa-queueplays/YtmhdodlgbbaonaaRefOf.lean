/- PROVED: what the document's own sums of steps are. CONDITIONS: none beyond each theorem's own. -/
import Derived.Test.YtmhdodlgbbaonaaOf
namespace Go.Proofs.Ytmhdodlgbbaonaa
open Go.RowKit

theorem rfit_any (x : Int) (w : World) :
    Calls Try.prog 38 #[.int .i64 x] w fun e w' => e = .returned (.int .i64 (fit x)) ∧ w' = w := by
  by_cases h0 : x < 0
  · go_enter Try.func38, Try.ntmps38
    go_wp2
    go_ret
    exact ⟨ret_int (by unfold fit; omega), rfl⟩
  · by_cases h1 : 1152921504606846976 < x
    · go_enter Try.func38, Try.ntmps38
      go_wp2
      go_ret
      exact ⟨ret_int (by unfold fit; omega), rfl⟩
    · go_enter Try.func38, Try.ntmps38
      go_wp2
      go_ret
      exact ⟨ret_int (by unfold fit; omega), rfl⟩

theorem rplus_any (a b : Int) (w : World) :
    Calls Try.prog 34 #[.int .i64 a, .int .i64 b] w fun e w' => e = .returned (.int .i64 (plus a b)) ∧ w' = w := by
  have ha0 := fit_lo a
  have ha1 := fit_hi a
  have hb0 := fit_lo b
  have hb1 := fit_hi b
  by_cases h : 1152921504606846976 - fit b < fit a
  · have e : plus a b = 1152921504606846976 := by unfold plus; generalize fit a = x at *; generalize fit b = y at *; unfold fit; omega
    rw [e]
    go_enter Try.func34, Try.ntmps34
    go_wp2_with (go_at_call 38; refine (rfit_any _ _).mono ?_; rintro e w' ⟨rfl, rfl⟩)
    go_ret
    exact ⟨rfl, rfl⟩
  · have e : plus a b = fit a + fit b := fit_of _ (by omega) (by omega)
    rw [e]
    go_enter Try.func34, Try.ntmps34
    go_wp2_with (go_at_call 38; refine (rfit_any _ _).mono ?_; rintro e w' ⟨rfl, rfl⟩)
    go_ret
    exact ⟨rfl, rfl⟩


set_option maxHeartbeats 1600000 in
theorem dof_any (a : Option Addr) (cap : Nat) (z : List Int) (w : World) (hz : Row w a z) (hl : z.length ≤ 17592186044415) (hc : z.length ≤ cap) :
    Calls Try.prog 25 #[.slice a z.length cap] w (Ans w (of z)) := by
  obtain ⟨i0, hi, hz0, hz1, hz2⟩ := info_parts Try.info3
  have hw1 : IntKind.i64.wrap ((z.length : Int) + 1) = (z.length : Int) + 1 := wrap_in (by omega)
  go_enter Try.func25, Try.ntmps25
  go_wp2
  go_loopw [3, 11] (fun t i wr => ∃ k : Nat, k ≤ z.length + 1 ∧ i = .int .i64 k ∧ Gath w t wr (outs (psum fun j => z.getD j 0) k)) (fun _ i _ => z.length + 1 - (intOf i).toNat)
  case atStart => exact ⟨0, Nat.zero_le _, rfl, Gath.start w⟩
  case round =>
    obtain ⟨k, hkn, rfl, hG⟩ := hrel
    by_cases hlt : k < z.length + 1
    · have hki : (k : Int) < (z.length : Int) + 1 := by omega
      have hkc : k ≤ cap := by omega
      have hkc2 : (k : Int) ≤ cap := by omega
      have ho1 := hG.own
      have hRl := outs_len (psum fun j => z.getD j 0) k
      have hzr := hz.kept hG.below
      clear hz
      go_wp2
      go_loopw [5, 18] (fun n i wi => ∃ j : Nat, j ≤ k ∧ i = .int .i64 j ∧ n = .int .i64 (psum (fun j => z.getD j 0) j) ∧ wi = wr) (fun _ i _ => k - (intOf i).toNat)
      case atStart => exact ⟨0, Nat.zero_le _, rfl, rfl, rfl⟩
      case round =>
        obtain ⟨j, hjk, rfl, rfl, rfl⟩ := hrel
        by_cases hj : j < k
        · obtain ⟨g, off, rfl, hcz⟩ := hzr.at (by omega)
          have hx := hcz j (by omega)
          have hp : Hid (psum (fun j => z.getD j 0) (j + 1) = plus (psum (fun j => z.getD j 0) j) (z.getD j 0)) := rfl
          generalize z.getD j 0 = x at hx hp
          generalize psum (fun j => z.getD j 0) j = s at hp ⊢
          clear hcz hG ho1 hzr hRl
          go_wp2_with (go_at_call 34; refine (rplus_any _ _ _).mono ?_; rintro e w' ⟨rfl, rfl⟩)
          go_roundw
          case rel => exact ⟨j + 1, by omega, by go_num, by rw [hp.out], by trivial⟩
          case measure => simp [intOf]; omega
        · obtain rfl : j = k := by omega
          have hk2 : j + 1 ≤ 17592186044416 := by omega
          obtain ⟨s, hs1⟩ : ∃ s, psum (fun j => z.getD j 0) j = s := ⟨_, rfl⟩
          rw [hs1]
          have hs : Hid (s = psum (fun j => z.getD j 0) j) := hs1.symm
          clear hs1
          go_wp2_with (at_builtin; refine wpList_append_own _ rfl _ _ 22 rfl w.heap.size 3 i0 (.int .i64 0) 1 8 Try.underlying22 hi hz0 hz1 hz2 rfl (by decide) _ _ _ rfl (ho1.alloc _) ⟨wr.heap.size, 0, none⟩ 1 1 [.int .i64 s] rfl rfl (cell_one_new _ _ _) (by simp [Value.oneCell']) (by unfold maxLen; omega) (by omega) (by have := hG.below.size; simp; omega) ?_; intro t' w2 hown' hgrow _; have hS := hG.next (Below.refl _ _) hs.out hown' hgrow; clear hown' hgrow ho1)
          go_roundw
          case rel => exact ⟨j + 1, by omega, by go_num, hS⟩
          case measure => simp [intOf]; omega
    · obtain rfl : k = z.length + 1 := by omega
      have hni : ¬ ((z.length + 1 : Nat) : Int) < (z.length : Int) + 1 := by omega
      go_wp2
      go_ret
      exact hG.done

end Go.Proofs.Ytmhdodlgbbaonaa
