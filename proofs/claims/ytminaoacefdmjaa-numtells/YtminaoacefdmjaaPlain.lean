/-
  Plain numbers of package num: what Fit, Plus, Less and MulDiv answer, as functions on integers. Nothing of the program is imported here.
-/
namespace TwNum

def fit (a : Int) : Int := if a < 0 then 0 else if 1152921504606846976 < a then 1152921504606846976 else a
def plus (a b : Int) : Int := fit (fit a + fit b)
def less (a b : Int) : Int :=
  if fit b = 1152921504606846976 ∨ fit a < fit b then 0 else if fit a = 1152921504606846976 then 1152921504606846976 else fit a - fit b
/-- The quotient of two numbers that fit, held to Inf; Inf, if the divisor is 0. -/
def quo (p c : Int) : Int := if c = 0 then 1152921504606846976 else if 1152921504606846976 < p / c then 1152921504606846976 else p / c
def muldiv (a b c : Int) : Int := quo (fit a * fit b) (fit c)

theorem fit_lo (a : Int) : 0 ≤ fit a := by unfold fit; split <;> (try split) <;> omega
theorem fit_hi (a : Int) : fit a ≤ 1152921504606846976 := by unfold fit; split <;> (try split) <;> omega
theorem fit_of (a : Int) (h0 : 0 ≤ a) (h1 : a ≤ 1152921504606846976) : fit a = a := by unfold fit; rw [if_neg (by omega), if_neg (by omega)]
theorem fit_fit (a : Int) : fit (fit a) = fit a := fit_of _ (fit_lo a) (fit_hi a)
theorem fit_neg (a : Int) (h : a ≤ 0) : fit a = 0 := by unfold fit; split <;> (try split) <;> omega
theorem fit_big (a : Int) (h : 1152921504606846976 ≤ a) : fit a = 1152921504606846976 := by unfold fit; split <;> (try split) <;> omega
/-- All that is known of a number that is fitted, for omega. -/
theorem fit_cases (a : Int) : (a < 0 ∧ fit a = 0) ∨ (0 ≤ a ∧ a ≤ 1152921504606846976 ∧ fit a = a) ∨ (1152921504606846976 < a ∧ fit a = 1152921504606846976) := by
  unfold fit; split
  · omega
  · split <;> omega
theorem plus_lo (a b : Int) : 0 ≤ plus a b := fit_lo _
theorem plus_hi (a b : Int) : plus a b ≤ 1152921504606846976 := fit_hi _
theorem less_lo (a b : Int) : 0 ≤ less a b := by
  unfold less; have := fit_cases a; have := fit_cases b; split
  · omega
  · split <;> omega
theorem less_hi (a b : Int) : less a b ≤ 1152921504606846976 := by
  unfold less; have := fit_cases a; have := fit_cases b; split
  · omega
  · split <;> omega

theorem plus_comm (a b : Int) : plus a b = plus b a := by unfold plus; rw [Int.add_comm]
theorem plus_assoc (a b c : Int) : plus a (plus b c) = plus (plus a b) c := by
  unfold plus
  rw [fit_fit, fit_fit]
  have ha := fit_lo a; have hb := fit_lo b; have hc := fit_lo c
  rcases fit_cases (fit b + fit c) with h | h | h <;> rcases fit_cases (fit a + fit b) with h' | h' | h' <;> try omega
  · rw [h.2.2, h'.2.2, Int.add_assoc]
  all_goals (rw [fit_big _ (by omega), fit_big _ (by omega)])
theorem plus_zero (a : Int) : plus a 0 = fit a := by unfold plus; rw [fit_of 0 (by omega) (by omega), Int.add_zero, fit_fit]
theorem plus_inf (a : Int) : plus a 1152921504606846976 = 1152921504606846976 := by
  unfold plus; rw [fit_of 1152921504606846976 (by omega) (by omega)]; exact fit_big _ (by have := fit_lo a; omega)
theorem fit_mono {a b : Int} (h : a ≤ b) : fit a ≤ fit b := by have := fit_cases a; have := fit_cases b; omega
theorem fit_min (a b : Int) : fit (min a b) = min (fit a) (fit b) := by
  have := fit_cases a; have := fit_cases b; have := fit_cases (min a b); omega
theorem plus_min (a b c : Int) : plus a (min (fit b) (fit c)) = min (plus a b) (plus a c) := by
  unfold plus
  rw [← fit_min b c, fit_fit, fit_min b c]
  rcases Int.le_total (fit b) (fit c) with h | h
  · rw [Int.min_eq_left h, Int.min_eq_left (fit_mono (by omega))]
  · rw [Int.min_eq_right h, Int.min_eq_right (fit_mono (by omega))]
theorem plus_ge (a b : Int) : fit a ≤ plus a b := by
  unfold plus; have h := fit_lo b; rw [← fit_fit a]; apply fit_mono; rw [fit_fit]; omega

/-- What is more is added again. -/
theorem less_le (a b c : Int) (_ha : a ≤ 1099511627776) (_hb : b ≤ 1099511627776) (_hc : c ≤ 1099511627776) : less a b ≤ fit c ↔ fit a ≤ plus c b := by
  unfold less plus
  have := fit_cases a; have := fit_cases b; have := fit_cases c; have := fit_cases (fit c + fit b)
  split
  · omega
  · split <;> omega
theorem less_plus (a b : Int) (_ha : a ≤ 1099511627776) (_hb : b ≤ 1099511627776) : less (plus a b) b = fit a := by
  unfold less plus
  rw [fit_fit]
  have := fit_cases a; have := fit_cases b; have := fit_cases (fit a + fit b)
  split
  · omega
  · split <;> omega

/-! The quotient. -/
theorem quo_word {p c : Int} (h : p / 18446744073709551616 < c) (hp : 0 ≤ p) : p / c ≤ 18446744073709551615 := by
  have h0 : 0 < c := by have := Int.ediv_nonneg hp (show (0 : Int) ≤ 18446744073709551616 by omega); omega
  have h1 : p < c * 18446744073709551616 := by
    have := Int.ediv_mul_le p (show (18446744073709551616 : Int) ≠ 0 by omega)
    have := Int.lt_ediv_add_one_mul_self p (show (0 : Int) < 18446744073709551616 by omega)
    have h2 : (p / 18446744073709551616 + 1) * 18446744073709551616 ≤ c * 18446744073709551616 := Int.mul_le_mul_of_nonneg_right (by omega) (by omega)
    omega
  have h3 : p / c < 18446744073709551616 := Int.ediv_lt_of_lt_mul h0 (by rw [Int.mul_comm]; exact h1)
  omega
theorem quo_min {p c : Int} (h : c ≠ 0) : quo p c = min (p / c) 1152921504606846976 := by
  unfold quo; rw [if_neg h]; split <;> omega
theorem quo_inf {p c : Int} (_hp : 0 ≤ p) (hc : 0 ≤ c) (h : c ≤ p / 18446744073709551616) : quo p c = 1152921504606846976 := by
  unfold quo
  by_cases h0 : c = 0
  · rw [if_pos h0]
  · rw [if_neg h0, if_pos]
    have h1 : c * 18446744073709551616 ≤ p := by
      have := Int.ediv_mul_le p (show (18446744073709551616 : Int) ≠ 0 by omega)
      have h2 : c * 18446744073709551616 ≤ p / 18446744073709551616 * 18446744073709551616 := Int.mul_le_mul_of_nonneg_right h (by omega)
      omega
    have h3 : 18446744073709551616 ≤ p / c := Int.le_ediv_of_mul_le (by omega) (by rw [Int.mul_comm]; exact h1)
    omega

/-! Small numbers. -/
theorem mul_le30 {x y : Int} (hx : x < 1073741824) (hy : y < 1073741824) (hy0 : 0 ≤ y) : x * y ≤ 1152921504606846976 := by
  by_cases h : 0 ≤ x
  · have := Int.mul_le_mul (show x ≤ 1073741824 by omega) (show y ≤ 1073741824 by omega) hy0 (show (0 : Int) ≤ 1073741824 by omega)
    omega
  · have := Int.mul_nonpos_of_nonpos_of_nonneg (show x ≤ 0 by omega) hy0
    omega
theorem small_mul {x y : Int} (hx : x ≤ 1073741824) (hy : y ≤ 1073741824) : fit x * fit y ≤ 18446744073709551615 := by
  have h1 : fit x ≤ 1073741824 := by have := fit_cases x; omega
  have h2 : fit y ≤ 1073741824 := by have := fit_cases y; omega
  have := Int.mul_le_mul h1 h2 (fit_lo y) (show (0 : Int) ≤ 1073741824 by omega)
  omega
theorem muldiv_zero (a b : Int) : muldiv a b 0 = 1152921504606846976 := by
  unfold muldiv quo; rw [if_pos (by decide)]
theorem muldiv_comm (a b c : Int) : muldiv a b c = muldiv b a c := by unfold muldiv; rw [Int.mul_comm]
theorem ediv_le_self' {p c : Int} (hp : 0 ≤ p) (hc : 0 < c) : p / c ≤ p := Int.ediv_le_self c hp |> fun h => by have := hc; exact h
theorem muldiv_at {a b c : Int} (ha0 : 0 ≤ a) (ha1 : a ≤ 1073741824) (hb0 : 0 ≤ b) (hb1 : b ≤ 1073741824) (hc0 : 0 < c) (hc1 : c ≤ 1073741824) : muldiv a b c = a * b / c := by
  unfold muldiv
  rw [fit_of a ha0 (by omega), fit_of b hb0 (by omega), fit_of c (by omega) (by omega), quo_min (by omega)]
  have h1 := Int.mul_le_mul ha1 hb1 hb0 (show (0 : Int) ≤ 1073741824 by omega)
  have h2 := ediv_le_self' (Int.mul_nonneg ha0 hb0) hc0
  omega
theorem muldiv_ediv {a b c : Int} (ha0 : 0 ≤ a) (ha1 : a < 1073741824) (hb0 : 0 ≤ b) (hb1 : b < 1073741824) (hc0 : 0 < c) (hc1 : c ≤ 1073741824) : muldiv a b c = a * b / c :=
  muldiv_at ha0 (by omega) hb0 (by omega) hc0 hc1
theorem muldiv_up {a b c : Int} (ha0 : 0 ≤ a) (ha1 : a < 1073741824) (hb0 : 0 ≤ b) (hb1 : b < 1073741824) (hc0 : 0 < c) (hc1 : c ≤ 1073741824) : muldiv a b c ≤ muldiv (a + 1) b c := by
  rw [muldiv_at ha0 (by omega) hb0 (by omega) hc0 hc1, muldiv_at (by omega) (by omega) hb0 (by omega) hc0 hc1]
  exact Int.ediv_le_ediv hc0 (Int.mul_le_mul_of_nonneg_right (by omega) hb0)
theorem muldiv_one {a b : Int} (ha0 : 0 ≤ a) (ha1 : a < 1073741824) (hb0 : 0 ≤ b) (hb1 : b < 1073741824) : muldiv a b 1 = a * b := by
  rw [muldiv_at ha0 (by omega) hb0 (by omega) (by omega) (by omega), Int.ediv_one]

/-! Bit by bit. -/
/-- x is what the bits above the lowest j come to: it fits, and nothing beyond fits. -/
structure Bits (p c x : Int) (j : Nat) : Prop where
  x0 : 0 ≤ x
  x1 : x ≤ 1152921504606846976
  le : x * c ≤ p
  top : ∀ y : Int, y ≤ 1152921504606846976 → y * c ≤ p → y < x + 2 ^ j
theorem pow_le60 {i : Nat} (h : i ≤ 60) : (2 : Int) ^ i ≤ 1152921504606846976 := by
  have h1 : 2 ^ i ≤ 2 ^ 60 := Nat.pow_le_pow_right (by omega) h
  have h2 : ((2 ^ i : Nat) : Int) = (2 : Int) ^ i := by simp
  omega
theorem bits_start {p c : Int} (hp : 0 ≤ p) : Bits p c 0 61 :=
  { x0 := by omega, x1 := by omega, le := by rw [Int.zero_mul]; exact hp
    top := fun y hy _ => by
      have h : (2 : Int) ^ 61 = 2305843009213693952 := by decide
      omega }
theorem bits_in {p c x : Int} {i : Nat} (h : Bits p c x (i + 1)) (h1 : x + 2 ^ i ≤ 1152921504606846976) (h2 : (x + 2 ^ i) * c ≤ p) : Bits p c (x + 2 ^ i) i :=
  { x0 := by have := h.x0; have : (0 : Int) < 2 ^ i := Int.pow_pos (by omega); omega
    x1 := h1, le := h2
    top := fun y a b => by have := h.top y a b; rw [Int.pow_succ] at this; omega }
theorem bits_out {p c x : Int} {i : Nat} (h : Bits p c x (i + 1)) (hc : 0 ≤ c) (h1 : ¬ (x + 2 ^ i ≤ 1152921504606846976 ∧ (x + 2 ^ i) * c ≤ p)) : Bits p c x i :=
  { x0 := h.x0, x1 := h.x1, le := h.le
    top := fun y a b => by
      by_cases hy : y < x + 2 ^ i
      · exact hy
      · exfalso; apply h1
        have h2 : x + 2 ^ i ≤ y := by omega
        exact ⟨by omega, Int.le_trans (Int.mul_le_mul_of_nonneg_right h2 hc) b⟩ }
theorem bits_end {a b c x : Int} (h : Bits (fit a * fit b) (fit c) x 0) (hc : 0 ≤ fit c) : x = muldiv a b c := by
  unfold muldiv quo
  have h0 := h.x0; have h1 := h.x1; have hl := h.le; have ht := h.top
  have e1 : (2 : Int) ^ 0 = 1 := rfl
  rw [e1] at ht
  generalize fit a * fit b = p at *
  generalize fit c = d at *
  by_cases hz : d = 0
  · rw [if_pos hz]
    subst hz
    have := ht 1152921504606846976 (by omega) (by omega)
    omega
  · rw [if_neg hz]
    have hd : 0 < d := by omega
    have l1 : x ≤ p / d := Int.le_ediv_of_mul_le hd hl
    split
    · have := ht 1152921504606846976 (by omega) (Int.le_trans (Int.mul_le_mul_of_nonneg_right (show 1152921504606846976 ≤ p / d by omega) hc) (Int.ediv_mul_le p hz))
      omega
    · have := ht (p / d) (by omega) (Int.ediv_mul_le p hz)
      omega
end TwNum
