/- PROVED: what the document's own answers of chapter 4 are: sums, curves, steps, numbers at a tick. CONDITIONS: none beyond each theorem's own. -/
import Derived.Test.YtedcbchelliljaaOf
namespace Go.Proofs.Ytedcbchelliljaa
open Go.RowKit

set_option maxHeartbeats 1600000 in
theorem dof_any (a : Option Addr) (cap : Nat) (z : List Int) (w : World) (hz : Row w a z) (hl : z.length ≤ 17592186044415) (hc : z.length ≤ cap) :
    Calls Try.prog 10 #[.slice a z.length cap] w (Ans w (of z)) := by
  obtain ⟨i0, hi, hz0, hz1, hz2⟩ := info_parts Try.info3
  have hw1 : IntKind.i64.wrap ((z.length : Int) + 1) = (z.length : Int) + 1 := wrap_in (by omega)
  go_enter Try.func10, Try.ntmps10
  go_wp2
  go_loopw [3, 11] (fun t i wr => ∃ k : Nat, k ≤ z.length + 1 ∧ i = .int .i64 k ∧ Gath w t wr (outs (psum fun j => z.getD j 0) k)) (fun _ i _ => z.length + 1 - (intOf i).toNat)
  case atStart => exact ⟨0, Nat.zero_le _, rfl, Gath.start w⟩
  case round =>
    obtain ⟨k, hkn, rfl, hG⟩ := hrel
    by_cases hlt : k < z.length + 1
    · have hki : (k : Int) < (z.length : Int) + 1 := by omega
      have hkc : k ≤ cap := by omega
      have hkc2 : (k : Int) ≤ cap := by omega
      have ho1 := hG.own
      have hRl := outs_len (psum fun j => z.getD j 0) k
      have hzr := hz.kept hG.below
      clear hz
      go_wp2
      go_loopw [5, 18] (fun n i wi => ∃ j : Nat, j ≤ k ∧ i = .int .i64 j ∧ n = .int .i64 (psum (fun j => z.getD j 0) j) ∧ wi = wr) (fun _ i _ => k - (intOf i).toNat)
      case atStart => exact ⟨0, Nat.zero_le _, rfl, rfl, rfl⟩
      case round =>
        obtain ⟨j, hjk, rfl, rfl, rfl⟩ := hrel
        by_cases hj : j < k
        · obtain ⟨g, off, rfl, hcz⟩ := hzr.at (by omega)
          have hx := hcz j (by omega)
          have hp : Hid (psum (fun j => z.getD j 0) (j + 1) = plus (psum (fun j => z.getD j 0) j) (z.getD j 0)) := rfl
          generalize z.getD j 0 = x at hx hp
          generalize psum (fun j => z.getD j 0) j = s at hp ⊢
          clear hcz hG ho1 hzr hRl
          go_wp2_with (go_at_call 23; refine (rplus_any _ _ _).mono ?_; rintro e w' ⟨rfl, rfl⟩)
          go_roundw
          case rel => exact ⟨j + 1, by omega, by go_num, by rw [hp.out], by trivial⟩
          case measure => simp [intOf]; omega
        · obtain rfl : j = k := by omega
          have hk2 : j + 1 ≤ 17592186044416 := by omega
          obtain ⟨s, hs1⟩ : ∃ s, psum (fun j => z.getD j 0) j = s := ⟨_, rfl⟩
          rw [hs1]
          have hs : Hid (s = psum (fun j => z.getD j 0) j) := hs1.symm
          clear hs1
          go_wp2_with (at_builtin; refine wpList_append_own _ rfl _ _ 22 rfl w.heap.size 3 i0 (.int .i64 0) 1 8 Try.underlying22 hi hz0 hz1 hz2 rfl (by decide) _ _ _ rfl (ho1.alloc _) ⟨wr.heap.size, 0, none⟩ 1 1 [.int .i64 s] rfl rfl (cell_one_new _ _ _) (by simp [Value.oneCell']) (by unfold maxLen; omega) (by omega) (by have := hG.below.size; simp; omega) ?_; intro t' w2 hown' hgrow _; have hS := hG.next (Below.refl _ _) hs.out hown' hgrow; clear hown' hgrow ho1)
          go_roundw
          case rel => exact ⟨j + 1, by omega, by go_num, hS⟩
          case measure => simp [intOf]; omega
    · obtain rfl : k = z.length + 1 := by omega
      have hni : ¬ ((z.length + 1 : Nat) : Int) < (z.length : Int) + 1 := by omega
      go_wp2
      go_ret
      exact hG.done

/-- the steps: k of them -/
def stp (z : List Int) (j : Nat) : Int := less (z.getD (j + 1) 0) (z.getD j 0)
theorem stp_all (z : List Int) : outs (stp z) (z.length - 1) = stepsOf z :=
  list_ext (by rw [outs_len, stepsOf_len]) fun j hj => by
    rw [outs_len] at hj
    rw [outs_getD _ _ _ hj, stepsOf_getD _ _ (by omega)]; rfl

set_option maxHeartbeats 1600000 in
theorem dsteps_any (a : Option Addr) (cap : Nat) (z : List Int) (w : World) (hz : Row w a z) (hl : z.length ≤ 17592186044416) :
    Calls Try.prog 14 #[.slice a z.length cap] w (Ans w (stepsOf z)) := by
  obtain ⟨i0, hi, hz0, hz1, hz2⟩ := info_parts Try.info3
  go_enter Try.func14, Try.ntmps14
  go_wp2
  go_loopw [3, 8] (fun t i wr => ∃ k : Nat, k ≤ z.length ∧ i = .int .i64 k ∧ Gath w t wr (outs (stp z) (k - 1))) (fun _ i _ => z.length - (intOf i).toNat)
  case atStart => exact ⟨0, Nat.zero_le _, rfl, Gath.start w⟩
  case round =>
    obtain ⟨k, hkn, rfl, hG⟩ := hrel
    by_cases hlt : k < z.length
    · obtain ⟨g, off, rfl, hcz⟩ := (hz.kept hG.below).at (by omega)
      have hx := hcz k hlt
      by_cases h0 : k = 0
      · subst h0
        rw [Nat.add_zero] at hx
        clear hcz hz
        go_wp2
        go_roundw
        case rel => exact ⟨0 + 1, by omega, by go_num, hG⟩
        case measure => simp [intOf]; omega
      · obtain ⟨p, hp⟩ : ∃ p, k = p + 1 := ⟨k - 1, by omega⟩
        have hk1 : k - 1 = p := by omega
        rw [hk1] at hG
        have hy := hcz p (by omega)
        have hpi : (k : Int) - 1 = (p : Int) := by omega
        have hw2 : IntKind.i64.wrap (p : Int) = p := wrap_in (by omega)
        have hk0 : (0 : Int) < k := by omega
        have hpl : p < z.length := by omega
        have hpli : (p : Int) < z.length := by omega
        have ho1 := hG.own
        have hRl := outs_len (stp z) p
        have hS0 : Hid (less (z.getD k 0) (z.getD p 0) = stp z p) := by rw [hp]; rfl
        have hpm : p + 1 ≤ 17592186044416 := by omega
        generalize z.getD k 0 = x at hx hS0
        generalize z.getD p 0 = y at hy hS0
        have HP : Hid (k = p + 1) := hp
        clear hcz hz hp hk1
        go_wp2_with (first
          | (go_at_call 30; refine (rless_any _ _ _).mono ?_; rintro e w' ⟨rfl, rfl⟩)
          | (at_builtin; refine wpList_append_own _ rfl _ _ 22 rfl w.heap.size 3 i0 (.int .i64 0) 1 8 Try.underlying22 hi hz0 hz1 hz2 rfl (by decide) _ _ _ rfl (ho1.alloc _) ⟨_, 0, none⟩ 1 1 [.int .i64 (less x y)] rfl rfl (cell_one_new _ _ _) (by simp [Value.oneCell']) (by unfold maxLen; omega) (by omega) (by have := hG.below.size; simp; omega) ?_; intro t' w2 hown' hgrow _; have hS := hG.next (Below.refl _ _) hS0.out hown' hgrow; clear hown' hgrow ho1))
        go_roundw
        case rel => exact ⟨k + 1, by omega, by go_num, by rw [Nat.add_sub_cancel, HP.out]; exact hS⟩
        case measure => simp [intOf]; omega
    · obtain rfl : k = z.length := by omega
      rw [stp_all] at hG
      go_wp2
      go_ret
      exact hG.done

/-- what is told of tick t by the first k numbers -/
def attk (z : List Int) (t : Int) (k : Nat) : Int := if k = 0 ∨ t < 0 then 0 else fit (z.getD (min t (k - 1)).toNat 0)
theorem attk_all (z : List Int) (t : Int) : attk z t z.length = att z t := rfl
theorem attk_in (z : List Int) (t : Int) (k : Nat) (h : (k : Int) ≤ t) : attk z t (k + 1) = fit (z.getD k 0) := by
  unfold attk
  rw [if_neg (by omega), show (min t (((k + 1 : Nat) : Int) - 1)).toNat = k by omega]
theorem attk_out (z : List Int) (t : Int) (k : Nat) (h : t < (k : Int)) : attk z t (k + 1) = attk z t k := by
  unfold attk
  by_cases ht : t < 0
  · rw [if_pos (.inr ht), if_pos (.inr ht)]
  · rw [if_neg (by omega), if_neg (by omega), show (min t (((k + 1 : Nat) : Int) - 1)).toNat = (min t ((k : Int) - 1)).toNat by omega]

set_option maxHeartbeats 1600000 in
theorem dat_any (a : Option Addr) (cap : Nat) (z : List Int) (t : Int) (w : World) (hz : Row w a z) (hl : z.length ≤ 17592186044416) :
    Calls Try.prog 16 #[.slice a z.length cap, .int .i64 t] w fun e w' => e = .returned (.int .i64 (att z t)) ∧ w' = w := by
  go_enter Try.func16, Try.ntmps16
  go_wp2
  go_loopw [5, 10] (fun x i wr => ∃ k : Nat, k ≤ z.length ∧ i = .int .i64 k ∧ x = .int .i64 (attk z t k) ∧ wr = w) (fun _ i _ => z.length - (intOf i).toNat)
  case atStart => exact ⟨0, Nat.zero_le _, rfl, by unfold attk; rw [if_pos (.inl rfl)], rfl⟩
  case round =>
    obtain ⟨k, hkn, rfl, rfl, rfl⟩ := hrel
    by_cases hlt : k < z.length
    · obtain ⟨g, off, rfl, hcz⟩ := hz.at (by omega)
      have hx := hcz k hlt
      by_cases hkt : (k : Int) ≤ t
      · have hA : Hid (attk z t (k + 1) = fit (z.getD k 0)) := attk_in z t k hkt
        generalize z.getD k 0 = x at hx hA
        generalize attk z t k = y
        clear hcz hz
        go_wp2_with (go_at_call 31; refine (rfit_any _ _).mono ?_; rintro e w' ⟨rfl, rfl⟩)
        go_roundw
        case rel => exact ⟨k + 1, by omega, by go_num, by rw [hA.out], by trivial⟩
        case measure => simp [intOf]; omega
      · have hkt2 : t < (k : Int) := by omega
        have hA : Hid (attk z t (k + 1) = attk z t k) := attk_out z t k hkt2
        generalize z.getD k 0 = x at hx
        generalize attk z t k = y at hA ⊢
        clear hcz hz
        go_wp2
        go_roundw
        case rel => exact ⟨k + 1, by omega, by go_num, by rw [hA.out], by trivial⟩
        case measure => simp [intOf]; omega
    · obtain rfl : k = z.length := by omega
      rw [attk_all]
      go_wp2
      go_ret
      exact ⟨rfl, rfl⟩

end Go.Proofs.Ytedcbchelliljaa
