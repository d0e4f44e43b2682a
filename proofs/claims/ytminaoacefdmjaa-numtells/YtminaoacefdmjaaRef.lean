/-
  The document's own answers to num, as the verifier's package has them: the same functions on integers.
-/
import Derived.Test.YtminaoacefdmjaaWalks
namespace Go.Proofs.Ytminaoacefdmjaa
open Go.RowKit

set_option maxHeartbeats 400000 in
theorem rfit_any (a : Int) (w : World) :
    Calls Try.prog 8 #[.int .i64 a] w fun e w' => e = .returned (.int .i64 (TwNum.fit a)) ∧ w' = w := by
  rcases TwNum.fit_cases a with ⟨h1, h2⟩ | ⟨h1, h2, h3⟩ | ⟨h1, h2⟩
  · rw [h2]
    clear h2
    go_enter Try.func8, Try.ntmps8
    go_wp2
    go_ret
    exact ⟨rfl, rfl⟩
  · rw [h3]
    clear h3
    go_enter Try.func8, Try.ntmps8
    go_wp2
    go_ret
    exact ⟨rfl, rfl⟩
  · rw [h2]
    clear h2
    go_enter Try.func8, Try.ntmps8
    go_wp2
    go_ret
    exact ⟨rfl, rfl⟩

set_option maxHeartbeats 400000 in
theorem rplus_any (a b : Int) (w : World) :
    Calls Try.prog 10 #[.int .i64 a, .int .i64 b] w fun e w' => e = .returned (.int .i64 (TwNum.plus a b)) ∧ w' = w := by
  have ha0 := TwNum.fit_lo a
  have ha1 := TwNum.fit_hi a
  have hb0 := TwNum.fit_lo b
  have hb1 := TwNum.fit_hi b
  by_cases h : 1152921504606846976 - TwNum.fit b < TwNum.fit a
  · have e : TwNum.plus a b = 1152921504606846976 := TwNum.fit_big _ (by omega)
    rw [e]
    go_enter Try.func10, Try.ntmps10
    go_wp2_with (go_at_call 8; refine (rfit_any _ _).mono ?_; rintro e w' ⟨rfl, rfl⟩)
    go_ret
    exact ⟨rfl, rfl⟩
  · have e : TwNum.plus a b = TwNum.fit a + TwNum.fit b := TwNum.fit_of _ (by omega) (by omega)
    rw [e]
    go_enter Try.func10, Try.ntmps10
    go_wp2_with (go_at_call 8; refine (rfit_any _ _).mono ?_; rintro e w' ⟨rfl, rfl⟩)
    go_ret
    exact ⟨rfl, rfl⟩

set_option maxHeartbeats 400000 in
theorem rless_any (a b : Int) (w : World) :
    Calls Try.prog 12 #[.int .i64 a, .int .i64 b] w fun e w' => e = .returned (.int .i64 (TwNum.less a b)) ∧ w' = w := by
  have ha0 := TwNum.fit_lo a
  have ha1 := TwNum.fit_hi a
  have hb0 := TwNum.fit_lo b
  have hb1 := TwNum.fit_hi b
  by_cases h1 : TwNum.fit b = 1152921504606846976
  · have e1 : TwNum.less a b = 0 := by unfold TwNum.less; rw [if_pos (Or.inl h1)]
    have t1 : (TwNum.fit b == 1152921504606846976) = true := by simpa using h1
    clear h1
    rw [e1]
    go_enter Try.func12, Try.ntmps12
    go_wp2_with (go_at_call 8; refine (rfit_any _ _).mono ?_; rintro e w' ⟨rfl, rfl⟩)
    go_ret
    exact ⟨rfl, rfl⟩
  · have t1 : (TwNum.fit b == 1152921504606846976) = false := by simpa using h1
    by_cases h3 : TwNum.fit a = 1152921504606846976
    · have e1 : TwNum.less a b = 1152921504606846976 := by unfold TwNum.less; rw [if_neg (by omega), if_pos h3]
      have t3 : (TwNum.fit a == 1152921504606846976) = true := by simpa using h3
      rw [e1]
      clear h1 h3
      go_enter Try.func12, Try.ntmps12
      go_wp2_with (go_at_call 8; refine (rfit_any _ _).mono ?_; rintro e w' ⟨rfl, rfl⟩)
      go_ret
      exact ⟨rfl, rfl⟩
    · have e1 : TwNum.less a b = max (TwNum.fit a - TwNum.fit b) 0 := by
        unfold TwNum.less; split <;> omega
      have t3 : (TwNum.fit a == 1152921504606846976) = false := by simpa using h3
      rw [e1]
      clear h1 h3
      go_enter Try.func12, Try.ntmps12
      go_wp2_with (go_at_call 8; refine (rfit_any _ _).mono ?_; rintro e w' ⟨rfl, rfl⟩)
      go_ret
      exact ⟨rfl, rfl⟩

set_option maxHeartbeats 400000 in
theorem fits_any (a b c d : Int) (w : World) (t : Bool) (ht : t = decide (a * b ≤ c * d)) (a0 : 0 ≤ a) (a1 : a ≤ 1152921504606846976) (b0 : 0 ≤ b) (b1 : b ≤ 1152921504606846976)
    (c0 : 0 ≤ c) (c1 : c ≤ 1152921504606846976) (d0 : 0 ≤ d) (d1 : d ≤ 1152921504606846976) :
    Calls Try.prog 18 #[.int .i64 a, .int .i64 b, .int .i64 c, .int .i64 d] w fun e w' => e = .returned (.bool t) ∧ w' = w := by
  have hx : 0 ≤ a * b := Int.mul_nonneg a0 b0
  have hy : 0 ≤ c * d := Int.mul_nonneg c0 d0
  by_cases h1 : a * b / 18446744073709551616 < c * d / 18446744073709551616
  · have : t = true := by rw [ht]; simp; omega
    subst this
    clear ht
    go_enter Try.func18, Try.ntmps18
    go_wp2_with (go_at_call 16; refine (mul64_any _ _ _ (by assumption) (by assumption) (by assumption) (by assumption)).mono ?_; rintro e w' ⟨rfl, rfl⟩)
    go_ret
    exact ⟨rfl, rfl⟩
  · by_cases h2 : a * b / 18446744073709551616 = c * d / 18446744073709551616
    · have t2 : (a * b / 18446744073709551616 == c * d / 18446744073709551616) = true := by simpa using h2
      by_cases h3 : a * b % 18446744073709551616 ≤ c * d % 18446744073709551616
      · have : t = true := by rw [ht]; simp; omega
        subst this
        clear ht h2
        go_enter Try.func18, Try.ntmps18
        go_wp2_with (go_at_call 16; refine (mul64_any _ _ _ (by assumption) (by assumption) (by assumption) (by assumption)).mono ?_; rintro e w' ⟨rfl, rfl⟩)
        go_ret
        exact ⟨rfl, rfl⟩
      · have : t = false := by rw [ht]; simp; omega
        have d1 : decide (a * b / 18446744073709551616 < c * d / 18446744073709551616) = false := by simpa using h1
        have d3 : decide (a * b % 18446744073709551616 ≤ c * d % 18446744073709551616) = false := by simpa using h3
        subst this
        clear ht h2
        go_enter Try.func18, Try.ntmps18
        go_wp2_with (go_at_call 16; refine (mul64_any _ _ _ (by assumption) (by assumption) (by assumption) (by assumption)).mono ?_; rintro e w' ⟨rfl, rfl⟩)
        go_ret
        exact ⟨rfl, rfl⟩
    · have t2 : (a * b / 18446744073709551616 == c * d / 18446744073709551616) = false := by simpa using h2
      have : t = false := by rw [ht]; simp; omega
      have d1 : decide (a * b / 18446744073709551616 < c * d / 18446744073709551616) = false := by simpa using h1
      subst this
      clear ht h2
      go_enter Try.func18, Try.ntmps18
      go_wp2_with (go_at_call 16; refine (mul64_any _ _ _ (by assumption) (by assumption) (by assumption) (by assumption)).mono ?_; rintro e w' ⟨rfl, rfl⟩)
      go_ret
      exact ⟨rfl, rfl⟩

set_option maxHeartbeats 400000 in
theorem rmuldiv_any (a b c : Int) (w : World) :
    Calls Try.prog 14 #[.int .i64 a, .int .i64 b, .int .i64 c] w fun e w' => e = .returned (.int .i64 (TwNum.muldiv a b c)) ∧ w' = w := by
  have ha0 := TwNum.fit_lo a
  have ha1 := TwNum.fit_hi a
  have hb0 := TwNum.fit_lo b
  have hb1 := TwNum.fit_hi b
  have hc0 := TwNum.fit_lo c
  have hc1 := TwNum.fit_hi c
  go_enter Try.func14, Try.ntmps14
  go_wp2_with (go_at_call 8; refine (rfit_any _ _).mono ?_; rintro e w' ⟨rfl, rfl⟩)
  go_loop [7, 8] (fun q k => ∃ (j : Nat) (x : Int), j ≤ 61 ∧ k = .int .i64 ((j : Int) - 1) ∧ q = .int .i64 x ∧ TwNum.Bits (TwNum.fit a * TwNum.fit b) (TwNum.fit c) x j) (fun _ k => (intOf k + 1).toNat)
  case atStart => exact ⟨61, 0, by omega, rfl, rfl, TwNum.bits_start (Int.mul_nonneg ha0 hb0)⟩
  case round =>
    obtain ⟨j, x, hj, rfl, rfl, hx⟩ := hrel
    cases j with
    | zero =>
      have e := TwNum.bits_end hx hc0
      have HE : Hid (x = TwNum.muldiv a b c) := e
      clear e
      go_wp2
      go_ret
      exact ⟨ret_int HE.out, rfl⟩
    | succ i =>
      have ei : ((i + 1 : Nat) : Int) - 1 = (i : Int) := by omega
      rw [ei]
      have hx0 := hx.x0
      have hx1 := hx.x1
      obtain ⟨p, hp⟩ : ∃ p : Int, p = 2 ^ i := ⟨_, rfl⟩
      have hp0 : 1 ≤ p := by rw [hp]; exact Int.pow_pos (by omega)
      have hp1 : p ≤ 1152921504606846976 := by rw [hp]; exact TwNum.pow_le60 (by omega)
      have ep : IntKind.i64.wrap (2 ^ i) = p := by rw [IntKind.wrap_i64]; omega
      have HP : Hid (p = 2 ^ i) := hp
      clear hp ei
      by_cases h1 : x + p ≤ 1152921504606846976
      · by_cases h2 : (x + p) * TwNum.fit c ≤ TwNum.fit a * TwNum.fit b
        · have H2 : Hid ((x + p) * TwNum.fit c ≤ TwNum.fit a * TwNum.fit b) := h2
          clear h2
          go_wp2_with (go_at_call 18; refine (fits_any _ _ _ _ _ true (by have := H2.out; simpa using this) (by omega) (by omega) (by omega) (by omega) (by omega) (by omega) (by omega) (by omega)).mono ?_; rintro e w' ⟨rfl, rfl⟩)
          go_round
          case rel => exact ⟨i, x + p, by omega, rfl, rfl, by rw [HP.out] at *; exact TwNum.bits_in hx h1 H2.out⟩
          case measure => simp [intOf]
        · have H2 : Hid (¬ (x + p) * TwNum.fit c ≤ TwNum.fit a * TwNum.fit b) := h2
          clear h2
          go_wp2_with (go_at_call 18; refine (fits_any _ _ _ _ _ false (by have := H2.out; simpa using this) (by omega) (by omega) (by omega) (by omega) (by omega) (by omega) (by omega) (by omega)).mono ?_; rintro e w' ⟨rfl, rfl⟩)
          go_round
          case rel => exact ⟨i, x, by omega, rfl, rfl, by rw [HP.out] at *; exact TwNum.bits_out hx hc0 (fun h => by have := H2.out; omega)⟩
          case measure => simp [intOf]
      · go_wp2
        go_round
        case rel => exact ⟨i, x, by omega, rfl, rfl, by rw [HP.out] at *; exact TwNum.bits_out hx hc0 (fun h => h1 h.1)⟩
        case measure => simp [intOf]

end Go.Proofs.Ytminaoacefdmjaa
