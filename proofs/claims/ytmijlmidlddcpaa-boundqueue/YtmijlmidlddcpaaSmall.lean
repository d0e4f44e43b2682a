/- PROVED: what the small functions answer: num's, the document's own, those that are handed on. CONDITIONS: none. -/
import Derived.Test.YtmijlmidlddcpaaMem
namespace Go.Proofs.Ytmijlmidlddcpaa
open Go.RowKit

theorem fit_any (x : Int) (w : World) :
    Calls Try.prog 35 #[.int .i64 x] w fun e w' => e = .returned (.int .i64 (fit x)) ∧ w' = w := by
  go_enter Try.func35, Try.ntmps35
  go_wp2
  go_ret
  exact ⟨rfl, rfl⟩

theorem plus_any (a b : Int) (w : World) :
    Calls Try.prog 45 #[.int .i64 a, .int .i64 b] w fun e w' => e = .returned (.int .i64 (plus a b)) ∧ w' = w := by
  have ha0 := fit_lo a
  have ha1 := fit_hi a
  have hb0 := fit_lo b
  have hb1 := fit_hi b
  go_enter Try.func45, Try.ntmps45
  go_wp2_with (go_at_call 35; refine (fit_any _ _).mono ?_; rintro e w' ⟨rfl, rfl⟩)
  go_ret
  exact ⟨rfl, rfl⟩

set_option maxHeartbeats 400000 in
theorem less_any (a b : Int) (w : World) :
    Calls Try.prog 37 #[.int .i64 a, .int .i64 b] w fun e w' => e = .returned (.int .i64 (less a b)) ∧ w' = w := by
  have ha0 := fit_lo a
  have ha1 := fit_hi a
  have hb0 := fit_lo b
  have hb1 := fit_hi b
  by_cases h1 : fit b = 1152921504606846976
  · have e1 : less a b = 0 := by unfold less; rw [if_pos (Or.inl h1)]
    have t1 : (fit b == 1152921504606846976) = true := by simpa using h1
    clear h1
    rw [e1]
    go_enter Try.func37, Try.ntmps37
    go_wp2_with (go_at_call 35; refine (fit_any _ _).mono ?_; rintro e w' ⟨rfl, rfl⟩)
    go_ret
    exact ⟨rfl, rfl⟩
  · have t1 : (fit b == 1152921504606846976) = false := by simpa using h1
    by_cases h2 : fit a < fit b
    · have e1 : less a b = 0 := by unfold less; rw [if_pos (Or.inr h2)]
      rw [e1]
      clear h1
      go_enter Try.func37, Try.ntmps37
      go_wp2_with (go_at_call 35; refine (fit_any _ _).mono ?_; rintro e w' ⟨rfl, rfl⟩)
      go_ret
      exact ⟨rfl, rfl⟩
    · have hn : ¬ (fit b = 1152921504606846976 ∨ fit a < fit b) := fun h => h.elim h1 h2
      by_cases h3 : fit a = 1152921504606846976
      · have e1 : less a b = 1152921504606846976 := by unfold less; rw [if_neg hn, if_pos h3]
        have t3 : (fit a == 1152921504606846976) = true := by simpa using h3
        rw [e1]
        clear h1 h3 hn
        go_enter Try.func37, Try.ntmps37
        go_wp2_with (go_at_call 35; refine (fit_any _ _).mono ?_; rintro e w' ⟨rfl, rfl⟩)
        go_ret
        exact ⟨rfl, rfl⟩
      · have e1 : less a b = fit a - fit b := by unfold less; rw [if_neg hn, if_neg h3]
        have t3 : (fit a == 1152921504606846976) = false := by simpa using h3
        rw [e1]
        clear h1 h3 hn
        go_enter Try.func37, Try.ntmps37
        go_wp2_with (go_at_call 35; refine (fit_any _ _).mono ?_; rintro e w' ⟨rfl, rfl⟩)
        go_ret
        exact ⟨rfl, rfl⟩

theorem rfit_any (x : Int) (w : World) :
    Calls Try.prog 36 #[.int .i64 x] w fun e w' => e = .returned (.int .i64 (fit x)) ∧ w' = w := by
  by_cases h0 : x < 0
  · go_enter Try.func36, Try.ntmps36
    go_wp2
    go_ret
    exact ⟨ret_int (by unfold fit; omega), rfl⟩
  · by_cases h1 : 1152921504606846976 < x
    · go_enter Try.func36, Try.ntmps36
      go_wp2
      go_ret
      exact ⟨ret_int (by unfold fit; omega), rfl⟩
    · go_enter Try.func36, Try.ntmps36
      go_wp2
      go_ret
      exact ⟨ret_int (by unfold fit; omega), rfl⟩

set_option maxHeartbeats 400000 in
theorem rless_any (a b : Int) (w : World) :
    Calls Try.prog 40 #[.int .i64 a, .int .i64 b] w fun e w' => e = .returned (.int .i64 (less a b)) ∧ w' = w := by
  have ha0 := fit_lo a
  have ha1 := fit_hi a
  have hb0 := fit_lo b
  have hb1 := fit_hi b
  by_cases h1 : fit b = 1152921504606846976
  · have e1 : less a b = 0 := by unfold less; rw [if_pos (Or.inl h1)]
    have t1 : (fit b == 1152921504606846976) = true := by simpa using h1
    clear h1
    rw [e1]
    go_enter Try.func40, Try.ntmps40
    go_wp2_with (go_at_call 36; refine (rfit_any _ _).mono ?_; rintro e w' ⟨rfl, rfl⟩)
    go_ret
    exact ⟨rfl, rfl⟩
  · have t1 : (fit b == 1152921504606846976) = false := by simpa using h1
    by_cases h3 : fit a = 1152921504606846976
    · have e1 : less a b = 1152921504606846976 := by unfold less; rw [if_neg (by omega), if_pos h3]
      have t3 : (fit a == 1152921504606846976) = true := by simpa using h3
      rw [e1]
      clear h1 h3
      go_enter Try.func40, Try.ntmps40
      go_wp2_with (go_at_call 36; refine (rfit_any _ _).mono ?_; rintro e w' ⟨rfl, rfl⟩)
      go_ret
      exact ⟨rfl, rfl⟩
    · have e1 : less a b = max (fit a - fit b) 0 := by
        unfold less
        split
        · omega
        · omega
      have t3 : (fit a == 1152921504606846976) = false := by simpa using h3
      rw [e1]
      clear h1 h3
      go_enter Try.func40, Try.ntmps40
      go_wp2_with (go_at_call 36; refine (rfit_any _ _).mono ?_; rintro e w' ⟨rfl, rfl⟩)
      go_ret
      exact ⟨rfl, rfl⟩

theorem cmpless_any (a b : Int) (w : World) :
    Calls Try.prog 50 #[.int .i64 a, .int .i64 b] w fun e w' => e = .returned (.bool (decide (a < b))) ∧ w' = w := by
  have hn : ∀ x w, Calls Try.prog 54 #[.int .i64 x] w fun e w' => e = .returned (.bool false) ∧ w' = w := by
    intro x w
    go_enter Try.func54, Try.ntmps54
    go_wp2
    go_ret
    exact ⟨rfl, rfl⟩
  go_enter Try.func50, Try.ntmps50
  go_wp2_with (go_at_call 54; refine (hn _ _).mono ?_; rintro e w' ⟨rfl, rfl⟩)
  go_ret
  exact ⟨rfl, rfl⟩

end Go.Proofs.Ytmijlmidlddcpaa
