/- PROVED: what the document's own Spread answers. CONDITIONS: none beyond each theorem's own. -/
import Derived.Test.YtgfmaolifnnkgaaRef
namespace Go.Proofs.Ytgfmaolifnnkgaa
open Go.RowKit

theorem csmooth_any (ao : Option Addr) (cap : Nat) (zs : List Int) (s : Int) (w : World) (hz : Row w ao zs) (hk : zs.length ≤ 17592186043904) :
    Calls Try.prog 9 #[.slice ao zs.length cap, .int .i64 s] w (Ans w (smooth zs s)) := by
  cases h : okS s with
  | false =>
    rw [smooth_no h]
    exact (csmooth_no ao _ cap s w (okS_not h)).mono fun e w' ⟨he, hw⟩ => ans_none he (hw ▸ Below.refl _ _)
  | true =>
    obtain ⟨h0, h1⟩ := okS_of h
    rw [smooth_ok h]
    obtain ⟨n, rfl⟩ := Int.eq_ofNat_of_zero_le h0
    exact csmooth_some ao cap zs n w hz hk (by omega)

set_option maxHeartbeats 800000 in
theorem cspread_short (ao : Option Addr) (cap : Nat) (zs : List Int) (s : Int) (w : World) (hz : Row w ao zs) (hk : zs.length ≤ 17592186043904) (h : okS s = false) (hp : 0 < zs.length) :
    Calls Try.prog 11 #[.slice ao zs.length cap, .int .i64 s] w (Ans w []) := by
  have hS := csmooth_any ao cap zs s w hz hk
  rw [smooth_no h] at hS
  go_enter Try.func11, Try.ntmps11
  go_wp2_with (go_at_call 9; refine hS.mono ?_; rintro e w1 ⟨ao1, cap1, rfl, hr1, b1⟩; clear hS)
  go_ret
  exact ans_none rfl b1

set_option maxHeartbeats 3200000 in
theorem cspread_some (ao : Option Addr) (cap : Nat) (zs : List Int) (s : Int) (w : World) (hz : Row w ao zs) (hk : zs.length ≤ 17592186043904) (h : (smooth zs s).length = zs.length) :
    Calls Try.prog 11 #[.slice ao zs.length cap, .int .i64 s] w (Ans w (smooth (fars (pw s) (fun j => zs.getD j 0) zs.length) s)) := by
  obtain ⟨i0, hi, hz0, hz1, hz2⟩ := info_parts Try.info3
  have hT := smooth_told zs s
  have hS0 := csmooth_any ao cap zs s w hz hk
  have hS3 := fun a3 cap3 u (hu : Row u a3 (fars (pw s) (fun j => zs.getD j 0) zs.length)) => csmooth_any a3 cap3 _ s u hu (by rw [fars_len]; exact hk)
  rw [h] at hT
  have hN := pw_pos s
  generalize pw s = N at hT hN hS3 ⊢
  generalize smooth zs s = R1 at hT h hS0
  go_enter Try.func11, Try.ntmps11
  go_wp2_with (go_at_call 9; refine hS0.mono ?_; rintro e w1 ⟨ao1, cap1, he, hr1, b1⟩; rw [h] at he; subst he; have hzw := hz.kept b1; clear hS0 hz)
  go_loopw [6, 21] (fun t i wr => ∃ k : Nat, k ≤ zs.length ∧ i = .int .i64 k ∧ Gath w1 t wr (fars N (fun j => zs.getD j 0) k)) (fun _ i _ => zs.length - (intOf i).toNat)
  case atStart => exact ⟨0, Nat.zero_le _, rfl, Gath.start w1⟩
  case round =>
    obtain ⟨k, hkn, rfl, hG⟩ := hrel
    by_cases hlt : k < zs.length
    · clear hS3
      obtain ⟨g, off, rfl, hcz⟩ := hzw.at (by omega)
      obtain ⟨g1, off1, rfl, hc1⟩ := hr1.at (by omega)
      have hx := (hG.below.cell (p := ⟨g, off + k, none⟩) (block_lt (hcz k hlt))).trans (hcz k hlt)
      have hy0 := (hG.below.cell (p := ⟨g1, off1 + 0, none⟩) (block_lt (hc1 0 (by omega)))).trans (hc1 0 (by omega))
      rw [Nat.add_zero, hT 0 (by omega)] at hy0
      have hfc := fit_cnt (zs.getD k 0)
      have cl := cnt_lo (zs.getD k 0)
      have ch := cnt_hi (zs.getD k 0)
      have tl := told_lo N (fun j => zs.getD j 0) hN (k - 1)
      have th := told_hi N (fun j => zs.getD j 0) hN (k - 1)
      have ho1 := hG.own
      have hRl := fars_len N (fun j => zs.getD j 0) k
      have hfa : far N (fun j => zs.getD j 0) k = apart (cnt (zs.getD k 0)) (told N (fun j => zs.getD j 0) (k - 1)) := rfl
      have tl0 := told_lo N (fun j => zs.getD j 0) hN 0
      have th0 := told_hi N (fun j => zs.getD j 0) hN 0
      cases k with
      | zero =>
        rw [Nat.add_zero] at hx
        simp only [Nat.zero_sub] at hfa tl th
        generalize told N (fun j => zs.getD j 0) 0 = t0 at hy0 hfa tl0 th0
        generalize cnt (zs.getD 0 0) = c at hfc cl ch hfa
        generalize zs.getD 0 0 = x at hx hfc
        have HF : Hid (far N (fun j => zs.getD j 0) 0 = apart c t0) := hfa
        clear hfa hcz hc1 hT hzw hr1 tl th
        by_cases hd : c < t0
        · have hd1 : decide (c - t0 < 0) = true := decide_eq_true (by omega)
          go_wp2_with (first
            | (go_at_call 16; refine (rfit_any _ _).mono ?_; rintro e wr ⟨rfl, rfl⟩)
            | (at_builtin; refine wpList_append_own _ rfl (.tmp 45) (.tmp 47) 22 rfl w1.heap.size 3 i0 (.int .i64 0) 1 8 Try.underlying22 hi hz0 hz1 hz2 rfl (by decide) _ _ _ rfl (ho1.alloc _) ⟨wr.heap.size, 0, none⟩ 1 1 [.int .i64 (-(c - t0))] rfl rfl (cell_one_new _ _ _) (by simp [Value.oneCell']) (by unfold maxLen; omega) (by omega) (by have := hG.below.size; simp; omega) ?_; intro t' w2 hown' hgrow _; have hS := hG.far (Below.refl _ _) (by have := HF.out; unfold apart at this; omega) hown' hgrow; clear hown' hgrow ho1))
          go_roundw
          case rel => exact ⟨0 + 1, by omega, by go_num, hS⟩
          case measure => simp [intOf]; omega
        · have hd1 : decide (c - t0 < 0) = false := decide_eq_false (by omega)
          go_wp2_with (first
            | (go_at_call 16; refine (rfit_any _ _).mono ?_; rintro e wr ⟨rfl, rfl⟩)
            | (at_builtin; refine wpList_append_own _ rfl (.tmp 45) (.tmp 47) 22 rfl w1.heap.size 3 i0 (.int .i64 0) 1 8 Try.underlying22 hi hz0 hz1 hz2 rfl (by decide) _ _ _ rfl (ho1.alloc _) ⟨wr.heap.size, 0, none⟩ 1 1 [.int .i64 (c - t0)] rfl rfl (cell_one_new _ _ _) (by simp [Value.oneCell']) (by unfold maxLen; omega) (by omega) (by have := hG.below.size; simp; omega) ?_; intro t' w2 hown' hgrow _; have hS := hG.far (Below.refl _ _) (by have := HF.out; unfold apart at this; omega) hown' hgrow; clear hown' hgrow ho1))
          go_roundw
          case rel => exact ⟨0 + 1, by omega, by go_num, hS⟩
          case measure => simp [intOf]; omega
      | succ p =>
        have hy := (hG.below.cell (p := ⟨g1, off1 + p, none⟩) (block_lt (hc1 p (by omega)))).trans (hc1 p (by omega))
        rw [hT p (by omega)] at hy
        simp only [Nat.add_sub_cancel] at hfa tl th
        generalize told N (fun j => zs.getD j 0) 0 = t0 at hy0 tl0 th0
        generalize told N (fun j => zs.getD j 0) p = t at hy hfa tl th
        generalize cnt (zs.getD (p + 1) 0) = c at hfc cl ch hfa
        generalize zs.getD (p + 1) 0 = x at hx hfc
        have HF : Hid (far N (fun j => zs.getD j 0) (p + 1) = apart c t) := hfa
        clear hfa hcz hc1 hT hzw hr1
        by_cases hd : c < t
        · have hd1 : decide (c - t < 0) = true := decide_eq_true (by omega)
          go_wp2_with (first
            | (go_at_call 16; refine (rfit_any _ _).mono ?_; rintro e wr ⟨rfl, rfl⟩)
            | (at_builtin; refine wpList_append_own _ rfl (.tmp 45) (.tmp 47) 22 rfl w1.heap.size 3 i0 (.int .i64 0) 1 8 Try.underlying22 hi hz0 hz1 hz2 rfl (by decide) _ _ _ rfl (ho1.alloc _) ⟨wr.heap.size, 0, none⟩ 1 1 [.int .i64 (-(c - t))] rfl rfl (cell_one_new _ _ _) (by simp [Value.oneCell']) (by unfold maxLen; omega) (by omega) (by have := hG.below.size; simp; omega) ?_; intro t' w2 hown' hgrow _; have hS := hG.far (Below.refl _ _) (by have := HF.out; unfold apart at this; omega) hown' hgrow; clear hown' hgrow ho1))
          go_roundw
          case rel => exact ⟨p + 1 + 1, by omega, by go_num, hS⟩
          case measure => simp [intOf]; omega
        · have hd1 : decide (c - t < 0) = false := decide_eq_false (by omega)
          go_wp2_with (first
            | (go_at_call 16; refine (rfit_any _ _).mono ?_; rintro e wr ⟨rfl, rfl⟩)
            | (at_builtin; refine wpList_append_own _ rfl (.tmp 45) (.tmp 47) 22 rfl w1.heap.size 3 i0 (.int .i64 0) 1 8 Try.underlying22 hi hz0 hz1 hz2 rfl (by decide) _ _ _ rfl (ho1.alloc _) ⟨wr.heap.size, 0, none⟩ 1 1 [.int .i64 (c - t)] rfl rfl (cell_one_new _ _ _) (by simp [Value.oneCell']) (by unfold maxLen; omega) (by omega) (by have := hG.below.size; simp; omega) ?_; intro t' w2 hown' hgrow _; have hS := hG.far (Below.refl _ _) (by have := HF.out; unfold apart at this; omega) hown' hgrow; clear hown' hgrow ho1))
          go_roundw
          case rel => exact ⟨p + 1 + 1, by omega, by go_num, hS⟩
          case measure => simp [intOf]; omega
    · have e : k = zs.length := by omega
      subst e
      obtain ⟨a3, cap3, rfl, hr3⟩ := owned_row hG.own
      have B := bthen b1 hG.below
      have hS2 := hS3 a3 cap3 wr hr3
      have hfl := fars_len N (fun j => zs.getD j 0) zs.length
      generalize hfa : fars N (fun j => zs.getD j 0) zs.length = fa at hS2 hfl ⊢
      rw [hfl] at hS2
      have HFA : Hid (fars N (fun j => zs.getD j 0) zs.length = fa) := hfa
      clear hfa
      clear hS3 hG hr3
      go_wp2_with (go_at_call 9; refine hS2.mono ?_; rintro e w2 ⟨ao2, cap2, rfl, hr2, b2⟩; clear hS2)
      go_ret
      have ef := HFA.out
      subst ef
      exact ⟨ao2, cap2, rfl, hr2, bthen B b2⟩

theorem cspread_any (ao : Option Addr) (cap : Nat) (zs : List Int) (s : Int) (w : World) (hz : Row w ao zs) (hk : zs.length ≤ 17592186043904) :
    Calls Try.prog 11 #[.slice ao zs.length cap, .int .i64 s] w (Ans w (spread zs s)) := by
  cases h : okS s with
  | true =>
    rw [spread_ok h]
    exact cspread_some ao cap zs s w hz hk (smooth_len h)
  | false =>
    rw [spread_no h]
    by_cases hp : 0 < zs.length
    · exact cspread_short ao cap zs s w hz hk h hp
    · obtain rfl : zs = [] := List.eq_nil_of_length_eq_zero (by omega)
      have := cspread_some ao cap [] s w hz hk (by rw [smooth_no h])
      rw [smooth_no h] at this
      exact this

end Go.Proofs.Ytgfmaolifnnkgaa
