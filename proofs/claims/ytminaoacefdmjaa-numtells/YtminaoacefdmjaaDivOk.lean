/-
  bits.Div64 answers the quotient, wherever MulDiv calls it; so MulDiv answers the quotient, at every argument.
-/
import Derived.Test.YtminaoacefdmjaaDiv
import Derived.Lib.ItoaNum
namespace Go.Proofs.Ytminaoacefdmjaa
open Go.RowKit

theorem word_mask (a : Int) (h0 : 0 ≤ a) (h1 : a < 18446744073709551616) : bits .and .u64 a 4294967295 = a % 4294967296 := by
  obtain ⟨n, rfl⟩ := Int.eq_ofNat_of_zero_le h0
  have h := Mul64.maskN n (by omega)
  omega
theorem word_join (a b : Int) (s : Nat) (h0 : 0 ≤ a) (h1 : a < 18446744073709551616) (g0 : 0 ≤ b) (g1 : b < 2 ^ s) (g2 : b < 18446744073709551616) (hm : a % 2 ^ s = 0) : bits .or .u64 a b = a + b := by
  obtain ⟨m, rfl⟩ := Int.eq_ofNat_of_zero_le h0
  obtain ⟨n, rfl⟩ := Int.eq_ofNat_of_zero_le g0
  have e := bits_or_u64_nat m n (by omega) (by omega)
  have p2 : ((2 ^ s : Nat) : Int) = (2 : Int) ^ s := by simp
  rw [← p2] at g1 hm
  have j := nat_join s m n (by omega) (by omega)
  rw [j] at e
  rw [e]
  omega

/-- How far the divisor is shifted. -/
theorem shift_of (c : Int) (h0 : 2 ≤ c) (h1 : c ≤ 1152921504606846976) :
    ∃ s : Nat, 64 - (Lib.bitLen c.toNat : Int) = s ∧ 3 ≤ s ∧ s ≤ 62 ∧ 9223372036854775808 ≤ c * 2 ^ s ∧ c * 2 ^ s < 18446744073709551616 := by
  obtain ⟨n, rfl⟩ := Int.eq_ofNat_of_zero_le (show 0 ≤ c by omega)
  have e : Int.toNat (n : Int) = n := by simp
  rw [e]
  obtain ⟨a1, a2, a3⟩ := Lib.bitLenAux_bounds 64 n (by omega) (by omega)
  have hb : Lib.bitLen n = Lib.bitLenAux 64 n := rfl
  rw [hb]
  generalize Lib.bitLenAux 64 n = l at *
  have l1 : l ≤ 61 := by
    by_cases hl : l ≤ 61
    · exact hl
    · have h3 : 2 ^ 61 ≤ 2 ^ (l - 1) := Nat.pow_le_pow_right (by omega) (by omega)
      omega
  have l2 : 2 ≤ l := by
    by_cases hl : 2 ≤ l
    · exact hl
    · have h3 : 2 ^ l ≤ 2 ^ 1 := Nat.pow_le_pow_right (by omega) (by omega)
      omega
  refine ⟨64 - l, by omega, by omega, by omega, ?_, ?_⟩
  · have h3 : 2 ^ (l - 1) * 2 ^ (64 - l) ≤ n * 2 ^ (64 - l) := Nat.mul_le_mul_right _ a2
    rw [← Nat.pow_add, show l - 1 + (64 - l) = 63 by omega] at h3
    have h4 : ((n * 2 ^ (64 - l) : Nat) : Int) = (n : Int) * 2 ^ (64 - l) := by simp
    omega
  · have h3 : n * 2 ^ (64 - l) < 2 ^ l * 2 ^ (64 - l) := Nat.mul_lt_mul_of_pos_right a3 (Nat.pow_pos (by omega))
    rw [← Nat.pow_add, show l + (64 - l) = 64 by omega] at h3
    have h4 : ((n * 2 ^ (64 - l) : Nat) : Int) = (n : Int) * 2 ^ (64 - l) := by simp
    omega

/-- Div64 answers the quotient, wherever the high word is less than the divisor, and the divisor no more than Inf. -/
theorem div_ok (p c : Int) (hp0 : 0 ≤ p) (hp1 : p < 340282366920938463463374607431768211456) (hc0 : 0 ≤ c) (hc1 : c ≤ 1152921504606846976) : DivOk p c := by
  intro h1 w
  by_cases hz : p / 18446744073709551616 = 0
  · have hm : p % 18446744073709551616 = p := by omega
    rw [hz, hm]
    rw [hz] at h1
    exact div64_zero _ _ w hp0 (by omega) h1 (by omega)
  · have hh : 0 < p / 18446744073709551616 := by omega
    obtain ⟨s, es, s0, s1, b0, b1⟩ := shift_of c (by omega) hc1
    have pP : (0 : Int) < 2 ^ s := Int.pow_pos (by omega)
    have pR : (0 : Int) < 2 ^ (64 - s) := Int.pow_pos (by omega)
    have pPR : (2 : Int) ^ (64 - s) * 2 ^ s = 18446744073709551616 := by
      rw [← Int.pow_add, show 64 - s + s = 64 by omega]; rfl
    have hl0 : 0 ≤ p % 18446744073709551616 := by omega
    have hl1 : p % 18446744073709551616 < 18446744073709551616 := by omega
    have ep : p = p / 18446744073709551616 * 18446744073709551616 + p % 18446744073709551616 := by omega
    generalize p / 18446744073709551616 = hi at *
    generalize p % 18446744073709551616 = lo at *
    have hL : lo / 2 ^ (64 - s) < 2 ^ s := Int.ediv_lt_of_lt_mul pR (by rw [Int.mul_comm, pPR]; exact hl1)
    have hL0 : 0 ≤ lo / 2 ^ (64 - s) := Int.ediv_nonneg hl0 (by omega)
    have hH : (hi + 1) * 2 ^ s ≤ c * 2 ^ s := Int.mul_le_mul_of_nonneg_right (by omega) (by omega)
    rw [Int.add_mul, Int.one_mul] at hH
    have hH0 : 0 ≤ hi * 2 ^ s := Int.mul_nonneg (by omega) (by omega)
    have hHm : hi * 2 ^ s % 2 ^ s = 0 := Int.mul_emod_left hi (2 ^ s)
    have eY : IntKind.u64.wrap (c * 2 ^ s) = c * 2 ^ s := by rw [IntKind.wrap_u64]; omega
    have eH : IntKind.u64.wrap (hi * 2 ^ s) = hi * 2 ^ s := by rw [IntKind.wrap_u64]; omega
    have eu := word_join (hi * 2 ^ s) (lo / 2 ^ (64 - s)) s hH0 (by omega) hL0 hL (by omega) hHm
    have e10 : IntKind.u64.wrap (lo * 2 ^ s) = lo * 2 ^ s % 18446744073709551616 := by rw [IntKind.wrap_u64]
    have en0 := word_mask (c * 2 ^ s) (by omega) b1
    have eu0 := word_mask (lo * 2 ^ s % 18446744073709551616) (by omega) (by omega)
    have eq : lo * 2 ^ s / 18446744073709551616 = lo / 2 ^ (64 - s) := by
      rw [← pPR]; exact Int.mul_ediv_mul_of_pos_left lo _ pP
    have hA : TwKnuth.At (c * 2 ^ s) (c * 2 ^ s / 4294967296) (c * 2 ^ s % 4294967296) (hi * 2 ^ s + lo / 2 ^ (64 - s)) (lo * 2 ^ s % 18446744073709551616 / 4294967296) :=
      { hy := by omega, a0 := by omega, a1 := by omega, b0 := by omega, b1 := by omega, c0 := by omega, c1 := by omega, d0 := by omega, d1 := by omega }
    have h := div64_core hi lo c (c * 2 ^ s) _ _ (hi * 2 ^ s) _ _ _ _ _ s w es s0 s1 hh (by omega) hl0 (by omega) h1 hc1 eY rfl en0 eH rfl eu e10 rfl eu0 b1 hA (by omega) (by omega)
    have hb := TwKnuth.both (u0 := lo * 2 ^ s % 18446744073709551616 % 4294967296) hA (by omega) (by omega)
    have hq : ((hi * 2 ^ s + lo / 2 ^ (64 - s)) * 18446744073709551616 + lo * 2 ^ s % 18446744073709551616 / 4294967296 * 4294967296 + lo * 2 ^ s % 18446744073709551616 % 4294967296) = p * 2 ^ s := by
      have h5 : p * 2 ^ s = hi * 18446744073709551616 * 2 ^ s + lo * 2 ^ s := by rw [ep, Int.add_mul]
      have h6 : hi * 18446744073709551616 * 2 ^ s = hi * 2 ^ s * 18446744073709551616 := by rw [Int.mul_right_comm]
      omega
    rw [hb, hq, Int.mul_ediv_mul_of_pos_left p c pP] at h
    exact h

theorem muldiv_any (a b c : Int) (w : World) :
    Calls Try.prog 13 #[.int .i64 a, .int .i64 b, .int .i64 c] w fun e w' => e = .returned (.int .i64 (TwNum.muldiv a b c)) ∧ ∃ n, w' = w.drewN n := by
  refine muldiv_of a b c w (div_ok _ _ (Int.mul_nonneg (TwNum.fit_lo a) (TwNum.fit_lo b)) ?_ (TwNum.fit_lo c) (TwNum.fit_hi c))
  have := Int.mul_le_mul (TwNum.fit_hi a) (TwNum.fit_hi b) (TwNum.fit_lo b) (show (0 : Int) ≤ 1152921504606846976 by omega)
  omega

end Go.Proofs.Ytminaoacefdmjaa
