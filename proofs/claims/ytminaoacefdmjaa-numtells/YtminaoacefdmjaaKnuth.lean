/-
  Long division by halves of words, in plain integers: a guess at a digit of the quotient is too great by two at most, and is mended. Nothing of the program is imported here.
-/
namespace TwKnuth

/-- What a guess is made of: the divisor by halves, what is divided, and the next half digit. -/
structure At (y n1 n0 u u1 : Int) : Prop where
  hy : y = n1 * 4294967296 + n0
  a0 : 2147483648 ≤ n1
  a1 : n1 < 4294967296
  b0 : 0 ≤ n0
  b1 : n0 < 4294967296
  c0 : 0 ≤ u
  c1 : u < y
  d0 : 0 ≤ u1
  d1 : u1 < 4294967296

/-- The digit itself. -/
def dig (y u u1 : Int) : Int := (u * 4294967296 + u1) / y

/-- A guess: never too small. -/
structure Guess (y n1 u u1 q r : Int) : Prop where
  e : u = q * n1 + r
  r0 : 0 ≤ r
  r1 : r < 4294967296
  q0 : dig y u u1 ≤ q
  q1 : q ≤ 4294967297

theorem ypos {y n1 n0 u u1 : Int} (h : At y n1 n0 u u1) : 0 < y := by
  have := h.hy; have := h.a0; have := h.b0; omega

theorem dig_lo {y n1 n0 u u1 : Int} (h : At y n1 n0 u u1) : 0 ≤ dig y u u1 := by
  have hp := ypos h; have := h.c0; have := h.d0
  exact Int.ediv_nonneg (by omega) (by omega)

theorem dig_hi {y n1 n0 u u1 : Int} (h : At y n1 n0 u u1) : dig y u u1 < 4294967296 := by
  have hp := ypos h; have := h.c1; have := h.d1
  exact Int.ediv_lt_of_lt_mul hp (by omega)

/-- q times the divisor, by halves. -/
theorem times {y n1 n0 u u1 q r : Int} (h : At y n1 n0 u u1) (e : u = q * n1 + r) : q * y = (u - r) * 4294967296 + q * n0 := by
  have h1 := h.hy
  have h2 : u - r = q * n1 := by omega
  rw [h2, h1, Int.mul_add, Int.mul_assoc]

theorem first {y n1 n0 u u1 : Int} (h : At y n1 n0 u u1) : Guess y n1 u u1 (u / n1) (u - u / n1 * n1) := by
  have ha := h.a0; have ha1 := h.a1; have hy := h.hy; have hb := h.b1; have hc := h.c1; have hb0 := h.b0; have hc0 := h.c0; have hd := h.d1; have hd0 := h.d0
  have e1 : u / n1 * n1 + u % n1 = u := Int.ediv_mul_add_emod u n1
  have e2 := Int.emod_nonneg u (show n1 ≠ 0 by omega)
  have e3 := Int.emod_lt_of_pos u (show 0 < n1 by omega)
  refine ⟨by omega, by omega, by omega, ?_, ?_⟩
  · have h1 : u * 4294967296 + u1 < (u / n1 + 1) * y := by
      have h2 : (u / n1 + 1) * y = (u / n1 + 1) * n1 * 4294967296 + (u / n1 + 1) * n0 := by rw [hy, Int.mul_add, Int.mul_assoc]
      have h3 : (u / n1 + 1) * n1 = u / n1 * n1 + n1 := by rw [Int.add_mul]; omega
      have h4 : 0 ≤ (u / n1 + 1) * n0 := Int.mul_nonneg (by have := Int.ediv_nonneg hc0 (show 0 ≤ n1 by omega); omega) hb0
      rw [h2, h3]
      omega
    have h2 : dig y u u1 < u / n1 + 1 := Int.ediv_lt_of_lt_mul (ypos h) h1
    omega
  · have h1 : u / n1 < 4294967298 := Int.ediv_lt_of_lt_mul (by omega) (by omega)
    omega

/-- Too great: one less is still not too small. -/
theorem down {y n1 n0 u u1 q r : Int} (h : At y n1 n0 u u1) (g : Guess y n1 u u1 q r) (t : 4294967296 ≤ q ∨ 4294967296 * r + u1 < q * n0) : dig y u u1 ≤ q - 1 := by
  have hd := h.d1
  have h1 : u * 4294967296 + u1 < q * y := by
    rcases t with t | t
    · have h2 : 4294967296 * y ≤ q * y := Int.mul_le_mul_of_nonneg_right t (by have := ypos h; omega)
      have := h.c1
      omega
    · rw [times h g.e]
      omega
  have h2 : dig y u u1 < q := Int.ediv_lt_of_lt_mul (ypos h) h1
  omega

/-- Not too great: it is the digit. -/
theorem stop {y n1 n0 u u1 q r : Int} (h : At y n1 n0 u u1) (e : u = q * n1 + r) (hq : dig y u u1 ≤ q) (t : q * n0 ≤ 4294967296 * r + u1) : q = dig y u u1 := by
  have h1 : q * y ≤ u * 4294967296 + u1 := by rw [times h e]; omega
  have h2 : q ≤ dig y u u1 := Int.le_ediv_of_mul_le (ypos h) h1
  omega

theorem shut {y n1 n0 u u1 q r : Int} (h : At y n1 n0 u u1) (e : u = q * n1 + r) (hq : dig y u u1 ≤ q) (hq1 : q ≤ 4294967296) (hr : 4294967296 ≤ r) : q = dig y u u1 := by
  refine stop h e hq ?_
  have h0 : 0 ≤ q := by have := dig_lo h; omega
  have h1 : q * n0 ≤ 4294967296 * 4294967296 := Int.mul_le_mul hq1 (by have := h.b1; omega) h.b0 (by omega)
  have := h.d0
  omega

/-- What is left behind a digit. -/
theorem left {y n1 n0 u u1 : Int} (h : At y n1 n0 u u1) (hy : y < 18446744073709551616) :
    (((u * 4294967296 % 18446744073709551616 + u1) % 18446744073709551616) - dig y u u1 * y % 18446744073709551616) % 18446744073709551616 = (u * 4294967296 + u1) % y := by
  have e1 : (u * 4294967296 + u1) / y * y + (u * 4294967296 + u1) % y = u * 4294967296 + u1 := Int.ediv_mul_add_emod _ y
  have e2 := Int.emod_nonneg (u * 4294967296 + u1) (show y ≠ 0 by have := ypos h; omega)
  have e3 := Int.emod_lt_of_pos (u * 4294967296 + u1) (ypos h)
  unfold dig
  omega

/-- Two digits, one behind the other. -/
theorem both {y n1 n0 u u1 u0 : Int} (h : At y n1 n0 u u1) (_d0 : 0 ≤ u0) (_d1 : u0 < 4294967296) :
    dig y u u1 * 4294967296 + dig y ((u * 4294967296 + u1) % y) u0 = (u * 18446744073709551616 + u1 * 4294967296 + u0) / y := by
  have e1 : (u * 4294967296 + u1) / y * y + (u * 4294967296 + u1) % y = u * 4294967296 + u1 := Int.ediv_mul_add_emod _ y
  have h1 : u * 18446744073709551616 + u1 * 4294967296 + u0 = ((u * 4294967296 + u1) % y * 4294967296 + u0) + (dig y u u1 * 4294967296) * y := by
    have : dig y u u1 * 4294967296 * y = (u * 4294967296 + u1) / y * y * 4294967296 := by
      unfold dig; rw [Int.mul_assoc, Int.mul_comm 4294967296 y, ← Int.mul_assoc]
    omega
  rw [h1, Int.add_mul_ediv_right _ _ (by have := ypos h; omega)]
  unfold dig
  omega

theorem next {y n1 n0 u u1 u0 : Int} (h : At y n1 n0 u u1) (d0 : 0 ≤ u0) (d1 : u0 < 4294967296) : At y n1 n0 ((u * 4294967296 + u1) % y) u0 :=
  { hy := h.hy, a0 := h.a0, a1 := h.a1, b0 := h.b0, b1 := h.b1, c0 := Int.emod_nonneg _ (by have := ypos h; omega), c1 := Int.emod_lt_of_pos _ (ypos h), d0 := d0, d1 := d1 }

end TwKnuth
