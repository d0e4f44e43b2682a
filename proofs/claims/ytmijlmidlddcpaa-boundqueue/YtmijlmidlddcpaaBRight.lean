/- PROVED: what bucket.outside, slices.IndexFunc and slices.ContainsFunc over it, and bucket.Right answer. CONDITIONS: none beyond each theorem's own. -/
import Derived.Test.YtmijlmidlddcpaaAns
import Derived.Test.YtmijlmidlddcpaaFlow
namespace Go.Proofs.Ytmijlmidlddcpaa
open Go.RowKit

theorem outside_any (x : Int) (w : World) :
    Calls Try.prog 44 #[.int .i64 x] w fun e w' => e = .returned (.bool (decide (¬ inr x))) ∧ w' = w := by
  by_cases h0 : x < 0
  · have e : decide (¬ inr x) = true := decide_eq_true (by unfold inr; omega)
    rw [e]
    go_enter Try.func44, Try.ntmps44
    go_wp2
    go_ret
    exact ⟨rfl, rfl⟩
  · by_cases h1 : 1099511627776 < x
    · have e : decide (¬ inr x) = true := decide_eq_true (by unfold inr; omega)
      rw [e]
      go_enter Try.func44, Try.ntmps44
      go_wp2
      go_ret
      exact ⟨rfl, rfl⟩
    · have e : decide (¬ inr x) = false := decide_eq_false (by unfold inr; omega)
      rw [e]
      go_enter Try.func44, Try.ntmps44
      go_wp2
      go_ret
      exact ⟨rfl, rfl⟩

set_option maxHeartbeats 1600000 in
theorem index_any (a : Option Addr) (cap : Nat) (z : List Int) (w : World) (hz : Row w a z) (hl : z.length ≤ 35184372088832) :
    Calls Try.prog 46 #[.slice a z.length cap, .func (.func 44) #[] #[]] w fun e w' => ∃ k : Int, e = .returned (.int .i64 k) ∧ decide (0 ≤ k) = decide (¬ allIn z) ∧ w' = w := by
  obtain ⟨n, hn⟩ : ∃ n, z.length = n := ⟨_, rfl⟩
  have hyes : Hid ((∀ j, j < n → inr (z.getD j 0)) → decide (¬ allIn z) = false) := fun h => decide_eq_false fun k => k fun j hj => h j (by omega)
  have hno : Hid (∀ j, j < n → ¬ inr (z.getD j 0) → decide (¬ allIn z) = true) := fun j hj h => decide_eq_true fun k => h (k j (by omega))
  generalize decide (¬ allIn z) = ans at hyes hno ⊢
  rw [hn] at hl ⊢
  go_enter Try.func46, Try.ntmps46
  go_wp2
  go_loopw [8] (fun i wr => ∃ k : Nat, k ≤ n ∧ i = .int .i64 k ∧ (∀ j, j < k → inr (z.getD j 0)) ∧ w = wr) (fun i _ => n - (intOf i).toNat)
  case atStart => exact ⟨0, Nat.zero_le _, rfl, fun j h => by omega, rfl⟩
  case round =>
    obtain ⟨k, hk, rfl, hA, rfl⟩ := hrel
    by_cases hlt : k < n
    · obtain ⟨b, off, rfl, e1⟩ := hz.at (by omega)
      have cx := e1 k (by omega)
      have hkI : (k : Int) < n := by omega
      have hA2 : Hid (inr (z.getD k 0) → ∀ j, j < k + 1 → inr (z.getD j 0)) := fun h j hj => by
        by_cases e : j = k
        · subst e; exact h
        · exact hA j (by omega)
      have hno2 : Hid (¬ inr (z.getD k 0) → ans = true) := hno.out k hlt
      clear hA e1 hno
      generalize z.getD k 0 = x at cx hA2 hno2
      have ho := outside_any x w
      by_cases hx : inr x
      · rw [decide_eq_false (fun h => h hx)] at ho
        have hA3 := hA2.out hx
        replace hA3 : Hid _ := hA3
        clear hA2
        go_wp2_with (go_at_call 44; refine ho.mono ?_; rintro e w'' ⟨rfl, rfl⟩; clear ho)
        go_roundw
        case rel => exact ⟨k + 1, by omega, by go_num, hA3.out, by first | rfl | trivial⟩
        case measure => simp [intOf]; omega
      · rw [decide_eq_true hx] at ho
        have ha := hno2.out hx
        replace ha : Hid (ans = true) := ha
        go_wp2_with (go_at_call 44; refine ho.mono ?_; rintro e w'' ⟨rfl, rfl⟩; clear ho)
        go_ret
        exact ⟨k, rfl, by rw [ha.out]; exact decide_eq_true (by omega), rfl⟩
    · obtain rfl : k = n := by omega
      have ha : Hid (ans = false) := hyes.out hA
      go_wp2
      go_ret
      exact ⟨-1, rfl, by rw [ha.out]; rfl, rfl⟩

theorem contains_any (a : Option Addr) (cap : Nat) (z : List Int) (w : World) (hz : Row w a z) (hl : z.length ≤ 35184372088832) :
    Calls Try.prog 23 #[.slice a z.length cap, .func (.func 44) #[] #[]] w fun e w' => e = .returned (.bool (decide (¬ allIn z))) ∧ w' = w := by
  have hi := index_any a cap z w hz hl
  generalize decide (¬ allIn z) = ans at hi ⊢
  go_enter Try.func23, Try.ntmps23
  go_wp2_with (go_at_call 46; refine hi.mono ?_; rintro e w'' ⟨k, rfl, hk, rfl⟩; clear hi)
  go_ret
  exact ⟨by rw [← hk]; rfl, rfl⟩

set_option maxHeartbeats 1600000 in
theorem bright_any (R B : Int) (a : Option Addr) (cap : Nat) (z : List Int) (w : World) (hz : Row w a z) :
    Calls Try.prog 18 #[.agg #[.int .i64 R, .int .i64 B], .slice a z.length cap] w fun e w' => e = .returned (.bool (decide (bright R B z))) ∧ Below w.heap.size w w' := by
  have hB := balloc (Below.refl w.heap.size w) (.cells #[.int .i64 R, .int .i64 B] 30)
  have oR := outside_any R (w.alloc (.cells #[.int .i64 R, .int .i64 B] 30))
  have oB := outside_any B (w.alloc (.cells #[.int .i64 R, .int .i64 B] 30))
  by_cases hR : inr R
  · rw [decide_eq_false (fun h => h hR)] at oR
    by_cases hC : inr B
    · rw [decide_eq_false (fun h => h hC)] at oB
      by_cases hl : z.length < 300
      · have oz := contains_any a cap z (w.alloc (.cells #[.int .i64 R, .int .i64 B] 30)) (hz.alloc _) (by omega)
        have e : decide (bright R B z) = !decide (¬ allIn z) := by
          rw [Bool.eq_iff_iff]; simp [bright, hR, hC, hl]
        rw [e]
        generalize decide (¬ allIn z) = ans at oz ⊢
        clear e
        obtain ⟨n, hn⟩ : ∃ n, z.length = n := ⟨_, rfl⟩
        rw [hn] at hl oz ⊢
        have hlI : (n : Int) < 300 := by omega
        clear hn hR hC
        have T1 := True.intro
        go_enter Try.func18, Try.ntmps18
        go_wp2_with (first
          | (go_at_call 44; refine oR.mono ?_; rintro e w'' ⟨rfl, rfl⟩; clear oR)
          | (go_at_call 44; refine oB.mono ?_; rintro e w'' ⟨rfl, rfl⟩; clear oB)
          | (go_at_call 23; refine oz.mono ?_; rintro e w'' ⟨rfl, rfl⟩; clear oz))
        go_ret
        exact ⟨rfl, hB⟩
      · have e : decide (bright R B z) = false := decide_eq_false fun k => hl k.2.2.1
        rw [e]
        obtain ⟨n, hn⟩ : ∃ n, z.length = n := ⟨_, rfl⟩
        rw [hn] at hl ⊢
        have hlI : decide ((n : Int) < 300) = false := decide_eq_false (by omega)
        clear hn hR hC hl
        go_enter Try.func18, Try.ntmps18
        go_wp2_with (first
          | (go_at_call 44; refine oR.mono ?_; rintro e w'' ⟨rfl, rfl⟩; clear oR)
          | (go_at_call 44; refine oB.mono ?_; rintro e w'' ⟨rfl, rfl⟩; clear oB))
        go_ret
        exact ⟨rfl, hB⟩
    · have e : decide (bright R B z) = false := decide_eq_false fun k => hC k.2.1
      rw [e]
      rw [decide_eq_true hC] at oB
      clear hR hC
      go_enter Try.func18, Try.ntmps18
      go_wp2_with (first
        | (go_at_call 44; refine oR.mono ?_; rintro e w'' ⟨rfl, rfl⟩; clear oR)
        | (go_at_call 44; refine oB.mono ?_; rintro e w'' ⟨rfl, rfl⟩; clear oB))
      go_ret
      exact ⟨rfl, hB⟩
  · have e : decide (bright R B z) = false := decide_eq_false fun k => hR k.1
    rw [e]
    rw [decide_eq_true hR] at oR
    clear hR
    go_enter Try.func18, Try.ntmps18
    go_wp2_with (go_at_call 44; refine oR.mono ?_; rintro e w'' ⟨rfl, rfl⟩; clear oR)
    go_ret
    exact ⟨rfl, hB⟩

end Go.Proofs.Ytmijlmidlddcpaa
