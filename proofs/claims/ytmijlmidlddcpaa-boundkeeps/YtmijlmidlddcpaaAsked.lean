/- PROVED: whether a row has numbers below 0 or above Most, asked by the laws' own questions. CONDITIONS: none beyond each theorem's own. -/
import Derived.Test.YtmijlmidlddcpaaAns
import Derived.Test.YtmijlmidlddcpaaFlow
namespace Go.Proofs.Ytmijlmidlddcpaa
open Go.RowKit

theorem outside24_any (x : Int) (w : World) :
    Calls Try.prog 24 #[.int .i64 x] w fun e w' => e = .returned (.bool (decide (¬ inr x))) ∧ w' = w := by
  by_cases h0 : x < 0
  · have e : decide (¬ inr x) = true := decide_eq_true (by unfold inr; omega)
    rw [e]
    go_enter Try.func24, Try.ntmps24
    go_wp2
    go_ret
    exact ⟨rfl, rfl⟩
  · by_cases h1 : 1099511627776 < x
    · have e : decide (¬ inr x) = true := decide_eq_true (by unfold inr; omega)
      rw [e]
      go_enter Try.func24, Try.ntmps24
      go_wp2
      go_ret
      exact ⟨rfl, rfl⟩
    · have e : decide (¬ inr x) = false := decide_eq_false (by unfold inr; omega)
      rw [e]
      go_enter Try.func24, Try.ntmps24
      go_wp2
      go_ret
      exact ⟨rfl, rfl⟩

set_option maxHeartbeats 1600000 in
theorem index24_any (a : Option Addr) (cap : Nat) (z : List Int) (w : World) (hz : Row w a z) (hl : z.length ≤ 35184372088832) :
    Calls Try.prog 46 #[.slice a z.length cap, .func (.func 24) #[] #[]] w fun e w' => ∃ k : Int, e = .returned (.int .i64 k) ∧ decide (0 ≤ k) = decide (¬ allIn z) ∧ w' = w := by
  obtain ⟨n, hn⟩ : ∃ n, z.length = n := ⟨_, rfl⟩
  have hyes : Hid ((∀ j, j < n → inr (z.getD j 0)) → decide (¬ allIn z) = false) := fun h => decide_eq_false fun k => k fun j hj => h j (by omega)
  have hno : Hid (∀ j, j < n → ¬ inr (z.getD j 0) → decide (¬ allIn z) = true) := fun j hj h => decide_eq_true fun k => h (k j (by omega))
  generalize decide (¬ allIn z) = ans at hyes hno ⊢
  rw [hn] at hl ⊢
  go_enter Try.func46, Try.ntmps46
  go_wp2
  go_loopw [8] (fun i wr => ∃ k : Nat, k ≤ n ∧ i = .int .i64 k ∧ (∀ j, j < k → inr (z.getD j 0)) ∧ w = wr) (fun i _ => n - (intOf i).toNat)
  case atStart => exact ⟨0, Nat.zero_le _, rfl, fun j h => by omega, rfl⟩
  case round =>
    obtain ⟨k, hk, rfl, hA, rfl⟩ := hrel
    by_cases hlt : k < n
    · obtain ⟨b, off, rfl, e1⟩ := hz.at (by omega)
      have cx := e1 k (by omega)
      have hkI : (k : Int) < n := by omega
      have hA2 : Hid (inr (z.getD k 0) → ∀ j, j < k + 1 → inr (z.getD j 0)) := fun h j hj => by
        by_cases e : j = k
        · subst e; exact h
        · exact hA j (by omega)
      have hno2 : Hid (¬ inr (z.getD k 0) → ans = true) := hno.out k hlt
      clear hA e1 hno
      generalize z.getD k 0 = x at cx hA2 hno2
      have ho := outside24_any x w
      by_cases hx : inr x
      · rw [decide_eq_false (fun h => h hx)] at ho
        have hA3 := hA2.out hx
        replace hA3 : Hid _ := hA3
        clear hA2
        go_wp2_with (go_at_call 24; refine ho.mono ?_; rintro e w'' ⟨rfl, rfl⟩; clear ho)
        go_roundw
        case rel => exact ⟨k + 1, by omega, by go_num, hA3.out, by first | rfl | trivial⟩
        case measure => simp [intOf]; omega
      · rw [decide_eq_true hx] at ho
        have ha := hno2.out hx
        replace ha : Hid (ans = true) := ha
        go_wp2_with (go_at_call 24; refine ho.mono ?_; rintro e w'' ⟨rfl, rfl⟩; clear ho)
        go_ret
        exact ⟨k, rfl, by rw [ha.out]; exact decide_eq_true (by omega), rfl⟩
    · obtain rfl : k = n := by omega
      have ha : Hid (ans = false) := hyes.out hA
      go_wp2
      go_ret
      exact ⟨-1, rfl, by rw [ha.out]; rfl, rfl⟩

theorem contains24_any (a : Option Addr) (cap : Nat) (z : List Int) (w : World) (hz : Row w a z) (hl : z.length ≤ 35184372088832) :
    Calls Try.prog 23 #[.slice a z.length cap, .func (.func 24) #[] #[]] w fun e w' => e = .returned (.bool (decide (¬ allIn z))) ∧ w' = w := by
  have hi := index24_any a cap z w hz hl
  generalize decide (¬ allIn z) = ans at hi ⊢
  go_enter Try.func23, Try.ntmps23
  go_wp2_with (go_at_call 46; refine hi.mono ?_; rintro e w'' ⟨k, rfl, hk, rfl⟩; clear hi)
  go_ret
  exact ⟨by rw [← hk]; rfl, rfl⟩

theorem outside49_any (x : Int) (w : World) :
    Calls Try.prog 49 #[.int .i64 x] w fun e w' => e = .returned (.bool (decide (¬ inr x))) ∧ w' = w := by
  by_cases h0 : x < 0
  · have e : decide (¬ inr x) = true := decide_eq_true (by unfold inr; omega)
    rw [e]
    go_enter Try.func49, Try.ntmps49
    go_wp2
    go_ret
    exact ⟨rfl, rfl⟩
  · by_cases h1 : 1099511627776 < x
    · have e : decide (¬ inr x) = true := decide_eq_true (by unfold inr; omega)
      rw [e]
      go_enter Try.func49, Try.ntmps49
      go_wp2
      go_ret
      exact ⟨rfl, rfl⟩
    · have e : decide (¬ inr x) = false := decide_eq_false (by unfold inr; omega)
      rw [e]
      go_enter Try.func49, Try.ntmps49
      go_wp2
      go_ret
      exact ⟨rfl, rfl⟩

set_option maxHeartbeats 1600000 in
theorem index49_any (a : Option Addr) (cap : Nat) (z : List Int) (w : World) (hz : Row w a z) (hl : z.length ≤ 35184372088832) :
    Calls Try.prog 46 #[.slice a z.length cap, .func (.func 49) #[] #[]] w fun e w' => ∃ k : Int, e = .returned (.int .i64 k) ∧ decide (0 ≤ k) = decide (¬ allIn z) ∧ w' = w := by
  obtain ⟨n, hn⟩ : ∃ n, z.length = n := ⟨_, rfl⟩
  have hyes : Hid ((∀ j, j < n → inr (z.getD j 0)) → decide (¬ allIn z) = false) := fun h => decide_eq_false fun k => k fun j hj => h j (by omega)
  have hno : Hid (∀ j, j < n → ¬ inr (z.getD j 0) → decide (¬ allIn z) = true) := fun j hj h => decide_eq_true fun k => h (k j (by omega))
  generalize decide (¬ allIn z) = ans at hyes hno ⊢
  rw [hn] at hl ⊢
  go_enter Try.func46, Try.ntmps46
  go_wp2
  go_loopw [8] (fun i wr => ∃ k : Nat, k ≤ n ∧ i = .int .i64 k ∧ (∀ j, j < k → inr (z.getD j 0)) ∧ w = wr) (fun i _ => n - (intOf i).toNat)
  case atStart => exact ⟨0, Nat.zero_le _, rfl, fun j h => by omega, rfl⟩
  case round =>
    obtain ⟨k, hk, rfl, hA, rfl⟩ := hrel
    by_cases hlt : k < n
    · obtain ⟨b, off, rfl, e1⟩ := hz.at (by omega)
      have cx := e1 k (by omega)
      have hkI : (k : Int) < n := by omega
      have hA2 : Hid (inr (z.getD k 0) → ∀ j, j < k + 1 → inr (z.getD j 0)) := fun h j hj => by
        by_cases e : j = k
        · subst e; exact h
        · exact hA j (by omega)
      have hno2 : Hid (¬ inr (z.getD k 0) → ans = true) := hno.out k hlt
      clear hA e1 hno
      generalize z.getD k 0 = x at cx hA2 hno2
      have ho := outside49_any x w
      by_cases hx : inr x
      · rw [decide_eq_false (fun h => h hx)] at ho
        have hA3 := hA2.out hx
        replace hA3 : Hid _ := hA3
        clear hA2
        go_wp2_with (go_at_call 49; refine ho.mono ?_; rintro e w'' ⟨rfl, rfl⟩; clear ho)
        go_roundw
        case rel => exact ⟨k + 1, by omega, by go_num, hA3.out, by first | rfl | trivial⟩
        case measure => simp [intOf]; omega
      · rw [decide_eq_true hx] at ho
        have ha := hno2.out hx
        replace ha : Hid (ans = true) := ha
        go_wp2_with (go_at_call 49; refine ho.mono ?_; rintro e w'' ⟨rfl, rfl⟩; clear ho)
        go_ret
        exact ⟨k, rfl, by rw [ha.out]; exact decide_eq_true (by omega), rfl⟩
    · obtain rfl : k = n := by omega
      have ha : Hid (ans = false) := hyes.out hA
      go_wp2
      go_ret
      exact ⟨-1, rfl, by rw [ha.out]; rfl, rfl⟩

theorem contains49_any (a : Option Addr) (cap : Nat) (z : List Int) (w : World) (hz : Row w a z) (hl : z.length ≤ 35184372088832) :
    Calls Try.prog 23 #[.slice a z.length cap, .func (.func 49) #[] #[]] w fun e w' => e = .returned (.bool (decide (¬ allIn z))) ∧ w' = w := by
  have hi := index49_any a cap z w hz hl
  generalize decide (¬ allIn z) = ans at hi ⊢
  go_enter Try.func23, Try.ntmps23
  go_wp2_with (go_at_call 46; refine hi.mono ?_; rintro e w'' ⟨k, rfl, hk, rfl⟩; clear hi)
  go_ret
  exact ⟨by rw [← hk]; rfl, rfl⟩

end Go.Proofs.Ytmijlmidlddcpaa
