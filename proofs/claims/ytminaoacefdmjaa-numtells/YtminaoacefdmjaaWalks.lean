/-
  The contracts of package num's functions: what each call answers, as a function on integers; nothing in memory is turned.
-/
import Derived.Test.YtminaoacefdmjaaRows
import Derived.Test.YtminaoacefdmjaaShelf
import Derived.Test.YtminaoacefdmjaaPlain
import Derived.WalkKit
import Derived.WalkSpells
import Derived.WalkLawsBesides
import Derived.Deep.QuietTactic
import Derived.BigQuiet
namespace Go.Proofs.Ytminaoacefdmjaa
open Go.RowKit

theorem ret_int {k : IntKind} {a b : Int} (h : a = b) : Ending.returned (.int k a) = .returned (.int k b) := by rw [h]

theorem grown_drewN (w : World) (n : Nat) : Grown w (w.drewN n) := by
  induction n with
  | zero => exact Grown.refl w
  | succ n ih => exact Grown.drew ih

set_option maxHeartbeats 400000 in
theorem fit_any (a : Int) (w : World) :
    Calls Try.prog 7 #[.int .i64 a] w fun e w' => e = .returned (.int .i64 (TwNum.fit a)) ∧ w' = w := by
  go_enter Try.func7, Try.ntmps7
  go_wp2
  go_ret
  exact ⟨ret_int (by unfold TwNum.fit; split <;> (try split) <;> omega), rfl⟩

set_option maxHeartbeats 400000 in
theorem plus_any (a b : Int) (w : World) :
    Calls Try.prog 9 #[.int .i64 a, .int .i64 b] w fun e w' => e = .returned (.int .i64 (TwNum.plus a b)) ∧ w' = w := by
  have ha0 := TwNum.fit_lo a
  have ha1 := TwNum.fit_hi a
  have hb0 := TwNum.fit_lo b
  have hb1 := TwNum.fit_hi b
  go_enter Try.func9, Try.ntmps9
  go_wp2_with (go_at_call 7; refine (fit_any _ _).mono ?_; rintro e w' ⟨rfl, rfl⟩)
  go_ret
  exact ⟨rfl, rfl⟩

set_option maxHeartbeats 400000 in
theorem less_any (a b : Int) (w : World) :
    Calls Try.prog 11 #[.int .i64 a, .int .i64 b] w fun e w' => e = .returned (.int .i64 (TwNum.less a b)) ∧ w' = w := by
  have ha0 := TwNum.fit_lo a
  have ha1 := TwNum.fit_hi a
  have hb0 := TwNum.fit_lo b
  have hb1 := TwNum.fit_hi b
  by_cases h1 : TwNum.fit b = 1152921504606846976
  · have e1 : TwNum.less a b = 0 := by unfold TwNum.less; rw [if_pos (Or.inl h1)]
    have t1 : (TwNum.fit b == 1152921504606846976) = true := by simpa using h1
    clear h1
    rw [e1]
    go_enter Try.func11, Try.ntmps11
    go_wp2_with (go_at_call 7; refine (fit_any _ _).mono ?_; rintro e w' ⟨rfl, rfl⟩)
    go_ret
    exact ⟨rfl, rfl⟩
  · have t1 : (TwNum.fit b == 1152921504606846976) = false := by simpa using h1
    by_cases h2 : TwNum.fit a < TwNum.fit b
    · have e1 : TwNum.less a b = 0 := by unfold TwNum.less; rw [if_pos (Or.inr h2)]
      rw [e1]
      clear h1
      go_enter Try.func11, Try.ntmps11
      go_wp2_with (go_at_call 7; refine (fit_any _ _).mono ?_; rintro e w' ⟨rfl, rfl⟩)
      go_ret
      exact ⟨rfl, rfl⟩
    · have hn : ¬ (TwNum.fit b = 1152921504606846976 ∨ TwNum.fit a < TwNum.fit b) := fun h => h.elim h1 h2
      by_cases h3 : TwNum.fit a = 1152921504606846976
      · have e1 : TwNum.less a b = 1152921504606846976 := by unfold TwNum.less; rw [if_neg hn, if_pos h3]
        have t3 : (TwNum.fit a == 1152921504606846976) = true := by simpa using h3
        rw [e1]
        clear h1 h3 hn
        go_enter Try.func11, Try.ntmps11
        go_wp2_with (go_at_call 7; refine (fit_any _ _).mono ?_; rintro e w' ⟨rfl, rfl⟩)
        go_ret
        exact ⟨rfl, rfl⟩
      · have e1 : TwNum.less a b = TwNum.fit a - TwNum.fit b := by unfold TwNum.less; rw [if_neg hn, if_neg h3]
        have t3 : (TwNum.fit a == 1152921504606846976) = false := by simpa using h3
        rw [e1]
        clear h1 h3 hn
        go_enter Try.func11, Try.ntmps11
        go_wp2_with (go_at_call 7; refine (fit_any _ _).mono ?_; rintro e w' ⟨rfl, rfl⟩)
        go_ret
        exact ⟨rfl, rfl⟩

/-- bits.Mul64, over integers. -/
theorem mul64_any (x y : Int) (w : World) (hx0 : 0 ≤ x) (hx1 : x ≤ 1152921504606846976) (hy0 : 0 ≤ y) (hy1 : y ≤ 1152921504606846976) :
    Calls Try.prog 16 #[.int .u64 x, .int .u64 y] w fun e w' => e = .returned (.tuple #[.int .u64 (x * y / 18446744073709551616), .int .u64 (x * y % 18446744073709551616)]) ∧ w' = w := by
  obtain ⟨m, rfl⟩ := Int.eq_ofNat_of_zero_le hx0
  obtain ⟨n, rfl⟩ := Int.eq_ofNat_of_zero_le hy0
  have h := Try.bits_Mul64 m n (by omega) (by omega) w
  simpa using h

set_option maxHeartbeats 400000 in
/-- bits.Div64 where the high word is 0. -/
theorem div64_zero (l y : Int) (w : World) (hl0 : 0 ≤ l) (hl1 : l ≤ 18446744073709551615) (hy0 : 0 < y) (hy1 : y ≤ 18446744073709551615) :
    Calls Try.prog 17 #[.int .u64 0, .int .u64 l, .int .u64 y] w fun e w' => (∃ r, e = .returned (.tuple #[.int .u64 (l / y), r])) ∧ ∃ n, w' = w.drewN n := by
  have ty : (y == 0) = false := by simp; omega
  go_enter Try.func17, Try.ntmps17
  go_wp2
  go_region
  go_wp2
  go_ret2
  exact ⟨⟨_, rfl⟩, 1, rfl⟩

/-- Div64 answers the quotient, at such a product and divisor. -/
def DivOk (p c : Int) : Prop := p / 18446744073709551616 < c → ∀ w : World,
  Calls Try.prog 17 #[.int .u64 (p / 18446744073709551616), .int .u64 (p % 18446744073709551616), .int .u64 c] w
    fun e w' => (∃ r, e = .returned (.tuple #[.int .u64 (p / c), r])) ∧ ∃ n, w' = w.drewN n
theorem DivOk.out {p c : Int} (h : DivOk p c) (h1 : p / 18446744073709551616 < c) (w : World) :
    Calls Try.prog 17 #[.int .u64 (p / 18446744073709551616), .int .u64 (p % 18446744073709551616), .int .u64 c] w
      fun e w' => (∃ r, e = .returned (.tuple #[.int .u64 (p / c), r])) ∧ ∃ n, w' = w.drewN n := h h1 w

set_option maxHeartbeats 400000 in
/-- MulDiv, where Div64 is known at what it is called with. -/
theorem muldiv_of (a b c : Int) (w : World) (hd : DivOk (TwNum.fit a * TwNum.fit b) (TwNum.fit c)) :
    Calls Try.prog 13 #[.int .i64 a, .int .i64 b, .int .i64 c] w fun e w' => e = .returned (.int .i64 (TwNum.muldiv a b c)) ∧ ∃ n, w' = w.drewN n := by
  have ha0 := TwNum.fit_lo a
  have ha1 := TwNum.fit_hi a
  have hb0 := TwNum.fit_lo b
  have hb1 := TwNum.fit_hi b
  have hc0 := TwNum.fit_lo c
  have hc1 := TwNum.fit_hi c
  have hp0 : 0 ≤ TwNum.fit a * TwNum.fit b := Int.mul_nonneg ha0 hb0
  by_cases h1 : TwNum.fit a * TwNum.fit b / 18446744073709551616 < TwNum.fit c
  · have hq0 : 0 ≤ TwNum.fit a * TwNum.fit b / TwNum.fit c := Int.ediv_nonneg hp0 hc0
    have hq1 : TwNum.fit a * TwNum.fit b / TwNum.fit c ≤ 18446744073709551615 := TwNum.quo_word h1 hp0
    have e1 : TwNum.muldiv a b c = min (TwNum.fit a * TwNum.fit b / TwNum.fit c) 1152921504606846976 := TwNum.quo_min (by omega)
    rw [e1]
    go_enter Try.func13, Try.ntmps13
    go_wp2_with (first | (go_at_call 7; refine (fit_any _ _).mono ?_; rintro e w' ⟨rfl, rfl⟩) | (go_at_call 16; refine (mul64_any _ _ _ ha0 ha1 hb0 hb1).mono ?_; rintro e w' ⟨rfl, rfl⟩) | (go_at_call 17; refine (hd.out h1 _).mono ?_; rintro e w' ⟨⟨r, rfl⟩, n, rfl⟩))
    go_ret
    exact ⟨rfl, n, rfl⟩
  · have e1 : TwNum.muldiv a b c = 1152921504606846976 := TwNum.quo_inf hp0 hc0 (by omega)
    rw [e1]
    clear hd
    go_enter Try.func13, Try.ntmps13
    go_wp2_with (first | (go_at_call 7; refine (fit_any _ _).mono ?_; rintro e w' ⟨rfl, rfl⟩) | (go_at_call 16; refine (mul64_any _ _ _ ha0 ha1 hb0 hb1).mono ?_; rintro e w' ⟨rfl, rfl⟩))
    go_ret
    exact ⟨rfl, 0, rfl⟩

/-- MulDiv, where the product fits one word. -/
theorem muldiv_small (a b c : Int) (w : World) (h : TwNum.fit a * TwNum.fit b ≤ 18446744073709551615) :
    Calls Try.prog 13 #[.int .i64 a, .int .i64 b, .int .i64 c] w fun e w' => e = .returned (.int .i64 (TwNum.muldiv a b c)) ∧ ∃ n, w' = w.drewN n := by
  refine muldiv_of a b c w fun h1 w' => ?_
  have hp0 : 0 ≤ TwNum.fit a * TwNum.fit b := Int.mul_nonneg (TwNum.fit_lo a) (TwNum.fit_lo b)
  have hz : TwNum.fit a * TwNum.fit b / 18446744073709551616 = 0 := by omega
  have hm : TwNum.fit a * TwNum.fit b % 18446744073709551616 = TwNum.fit a * TwNum.fit b := by omega
  rw [hz, hm]
  rw [hz] at h1
  exact div64_zero _ _ w' hp0 h h1 (by have := TwNum.fit_hi c; omega)

set_option maxHeartbeats 400000 in
/-- The sample that each law asks first. -/
theorem alive_any (w : World) : Calls Try.prog 15 #[] w fun e w' => e = .returned (.bool true) ∧ ∃ n, w' = w.drewN n := by
  have p1 : TwNum.plus 3 4 = 7 := by decide
  have p2 : TwNum.plus 1152921504606846976 1 = 1152921504606846976 := by decide
  have p3 : TwNum.less 9 4 = 5 := by decide
  have p4 : TwNum.less 4 9 = 0 := by decide
  have p5 : TwNum.muldiv 7 9 4 = 15 := by decide
  have p6 : TwNum.fit (-3) = 0 := by decide
  go_enter Try.func15, Try.ntmps15
  go_wp2_with (first | (go_at_call 7; refine (fit_any _ _).mono ?_; rintro e w' ⟨rfl, rfl⟩) | (go_at_call 9; refine (plus_any _ _ _).mono ?_; rintro e w' ⟨rfl, rfl⟩) | (go_at_call 11; refine (less_any _ _ _).mono ?_; rintro e w' ⟨rfl, rfl⟩) | (go_at_call 13; refine (muldiv_small _ _ _ _ (by decide)).mono ?_; rintro e w' ⟨rfl, n, rfl⟩))
  go_ret
  exact ⟨rfl, n, rfl⟩

end Go.Proofs.Ytminaoacefdmjaa
