/- PROVED: what Right answers. CONDITIONS: none beyond each theorem's own. -/
import Derived.Test.YtmijlmidlddcpaaOf
namespace Go.Proofs.Ytmijlmidlddcpaa
open Go.RowKit

set_option maxHeartbeats 1600000 in
theorem right_any (a : Option Addr) (cap : Nat) (z : List Int) (w : World) (hz : Row w a z) (hl : z.length ≤ 17592186044416) :
    Calls Try.prog 22 #[.slice a z.length cap] w fun e w' => e = .returned (.bool (decide (right z))) ∧ ∃ q, w' = w.drewN q := by
  by_cases h0 : z.length = 0
  · have e0 : decide (right z) = false := decide_eq_false fun h => by have := h.1; omega
    rw [e0, h0]
    go_enter Try.func22, Try.ntmps22
    go_wp2
    go_ret
    exact ⟨rfl, 0, rfl⟩
  · obtain ⟨b, off, rfl, hc⟩ := hz.at (by omega)
    have hp : (0 : Int) < z.length := by omega
    have c0 := hc 0 (by omega)
    rw [Nat.add_zero] at c0
    by_cases hf : z.getD 0 0 = 0
    · have hs := sorted_any b off cap z w hc (by omega) hl
      obtain ⟨m, hm⟩ : ∃ m : Nat, (z.length : Int) - 1 = (m : Int) := ⟨z.length - 1, by omega⟩
      have hmn : z.length - 1 = m := by omega
      have hmz : m < z.length := by omega
      have cm := hc m hmz
      have hwm : IntKind.i64.wrap (m : Int) = m := wrap_in (by omega)
      rw [hf] at c0
      by_cases hu : up z
      · rw [decide_eq_true hu] at hs
        by_cases hlast : z.getD m 0 ≤ 1152921504606846976
        · have e0 : decide (right z) = true := decide_eq_true ⟨by omega, hf, hu, by rw [hmn]; exact hlast⟩
          rw [e0]
          generalize z.getD m 0 = y at cm hlast
          clear hc hz h0 hf hu hmn e0 hl
          go_enter Try.func22, Try.ntmps22
          go_wp2_with (go_at_call 28; refine hs.mono ?_; rintro e w' ⟨rfl, q, rfl⟩)
          go_ret
          exact ⟨rfl, q, rfl⟩
        · have e0 : decide (right z) = false := decide_eq_false fun h => hlast (by have := h.2.2.2; rw [hmn] at this; exact this)
          rw [e0]
          have hgt : 1152921504606846976 < z.getD m 0 := by omega
          generalize z.getD m 0 = y at cm hlast hgt
          clear hc hz h0 hf hu hmn e0 hl
          go_enter Try.func22, Try.ntmps22
          go_wp2_with (go_at_call 28; refine hs.mono ?_; rintro e w' ⟨rfl, q, rfl⟩)
          go_ret
          exact ⟨by rw [← decide_eq_false (p := y ≤ 1152921504606846976) (by omega)]; rfl, q, rfl⟩
      · have e0 : decide (right z) = false := decide_eq_false fun h => hu h.2.2.1
        rw [decide_eq_false hu] at hs
        rw [e0]
        clear hc hz h0 hf hu hmn e0 cm
        go_enter Try.func22, Try.ntmps22
        go_wp2_with (go_at_call 28; refine hs.mono ?_; rintro e w' ⟨rfl, q, rfl⟩)
        go_ret
        exact ⟨rfl, q, rfl⟩
    · have e0 : decide (right z) = false := decide_eq_false fun h => hf h.2.1
      rw [e0]
      have hf0 : (z.getD 0 0 == 0) = false := beq_eq_false_iff_ne.2 hf
      generalize z.getD 0 0 = y at c0 hf0
      clear hc hz h0 hf e0
      go_enter Try.func22, Try.ntmps22
      go_wp2
      go_ret
      exact ⟨rfl, 0, rfl⟩

end Go.Proofs.Ytmijlmidlddcpaa
