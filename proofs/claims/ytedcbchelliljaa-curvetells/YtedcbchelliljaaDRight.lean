/- PROVED: the document's own answer whether a row is a curve. CONDITIONS: none beyond each theorem's own. -/
import Derived.Test.YtedcbchelliljaaOf
namespace Go.Proofs.Ytedcbchelliljaa
open Go.RowKit

def good (z : List Int) (j : Nat) : Prop := 0 ≤ z.getD j 0 ∧ z.getD j 0 ≤ 1152921504606846976 ∧ (j = 0 → z.getD j 0 ≤ 0) ∧ (0 < j → z.getD (j - 1) 0 ≤ z.getD j 0)
theorem right_good {z : List Int} (h : right z) (j : Nat) (hj : j < z.length) : good z j :=
  ⟨right_lo h j hj, right_hi h j hj, fun e => by subst e; have := h.2.1; omega, fun h0 => by
    have := h.2.2.1 (j - 1) (by omega)
    rw [show j - 1 + 1 = j by omega] at this
    exact this⟩
theorem good_right {z : List Int} (h0 : 0 < z.length) (h : ∀ j, j < z.length → good z j) : right z := by
  refine ⟨h0, ?_, fun j hj => ?_, (h _ (by omega)).2.1⟩
  · have := h 0 h0; have := this.1; have := (h 0 h0).2.2.1 rfl; omega
  · have := (h (j + 1) (by omega)).2.2.2 (by omega)
    exact this
theorem not_right {z : List Int} {j : Nat} (hj : j < z.length) (h : ¬ good z j) : decide (right z) = false := decide_eq_false fun hr => h (right_good hr j hj)

set_option maxHeartbeats 3200000 in
theorem dright_any (a : Option Addr) (cap : Nat) (z : List Int) (w : World) (hz : Row w a z) (hl : z.length ≤ 17592186044416) :
    Calls Try.prog 12 #[.slice a z.length cap] w fun e w' => e = .returned (.bool (decide (right z))) ∧ w' = w := by
  go_enter Try.func12, Try.ntmps12
  go_wp2
  go_loopw [7] (fun i wr => ∃ k : Nat, k ≤ z.length ∧ i = .int .i64 k ∧ wr = w ∧ ∀ j, j < k → good z j) (fun i _ => z.length - (intOf i).toNat)
  case atStart => exact ⟨0, Nat.zero_le _, rfl, rfl, fun j h => by omega⟩
  case round =>
    obtain ⟨k, hkn, rfl, rfl, hgd⟩ := hrel
    by_cases hlt : k < z.length
    · obtain ⟨g, off, rfl, hcz⟩ := hz.at (by omega)
      have hx := hcz k hlt
      have hlti : (k : Int) < z.length := by omega
      have hgs : good z k → ∀ j, j < k + 1 → good z j := fun h j hj => by
        by_cases e : j = k
        · subst e; exact h
        · exact hgd j (by omega)
      have hbad := not_right hlt
      clear hz hgd
      by_cases h1 : z.getD k 0 < 0
      · have hF := hbad (fun h => by have := h.1; omega)
        generalize z.getD k 0 = x at hx h1
        clear hcz hbad hgs
        go_wp2
        go_ret
        exact ⟨by rw [hF]; rfl, rfl⟩
      · have h1b : 0 ≤ z.getD k 0 := by omega
        by_cases h2 : 1152921504606846976 < z.getD k 0
        · have hF := hbad (fun h => by have := h.2.1; omega)
          generalize z.getD k 0 = x at hx h1b h2
          clear hcz hbad hgs h1
          go_wp2
          go_ret
          exact ⟨by rw [hF]; rfl, rfl⟩
        · have h2b : z.getD k 0 ≤ 1152921504606846976 := by omega
          by_cases k0 : k = 0
          · subst k0
            rw [Nat.add_zero] at hx
            by_cases h3 : 0 < z.getD 0 0
            · have hF := hbad (fun h => by have := h.2.2.1 rfl; omega)
              generalize z.getD 0 0 = x at hx h1b h2b h3
              clear hcz hbad hgs h1 h2
              go_wp2
              go_ret
              exact ⟨by rw [hF]; rfl, rfl⟩
            · have hS := hgs ⟨h1b, h2b, fun _ => by omega, fun h => by omega⟩
              have h3b : z.getD 0 0 ≤ 0 := by omega
              generalize z.getD 0 0 = x at hx h1b h2b h3b
              clear hcz hbad hgs h1 h2 h3
              go_wp2
              go_roundw
              case rel => exact ⟨0 + 1, by omega, by go_num, by trivial, hS⟩
              case measure => simp [intOf]; omega
          · obtain ⟨p, hp⟩ : ∃ p, k = p + 1 := ⟨k - 1, by omega⟩
            have hy := hcz p (by omega)
            have hpi : (k : Int) - 1 = (p : Int) := by omega
            have hw2 : IntKind.i64.wrap (p : Int) = p := wrap_in (by omega)
            have hk0 : (0 : Int) < k := by omega
            have hk1 : ((k : Int) == 0) = false := beq_eq_false_iff_ne.2 (by omega)
            have hpl : p < z.length := by omega
            have hpli : (p : Int) < z.length := by omega
            have hkp : k - 1 = p := by omega
            by_cases h3 : z.getD k 0 < z.getD p 0
            · have hF := hbad (fun h => by have := h.2.2.2 (by omega); rw [hkp] at this; omega)
              generalize z.getD k 0 = x at hx h1b h2b h3
              generalize z.getD p 0 = y at hy h3
              clear hcz hbad hgs h1 h2 hp hkp k0
              go_wp2
              go_ret
              exact ⟨by rw [hF]; rfl, rfl⟩
            · have hS := hgs ⟨h1b, h2b, fun _ => by omega, fun h => by rw [hkp]; omega⟩
              have h3b : z.getD p 0 ≤ z.getD k 0 := by omega
              generalize z.getD k 0 = x at hx h1b h2b h3b
              generalize z.getD p 0 = y at hy h3b
              clear hcz hbad hgs h1 h2 h3 hp hkp k0
              go_wp2
              go_roundw
              case rel => exact ⟨k + 1, by omega, by go_num, by trivial, hS⟩
              case measure => simp [intOf]; omega
    · obtain rfl : k = z.length := by omega
      have hR : Hid (decide (right z) = decide (0 < z.length)) := by
        by_cases h0 : 0 < z.length
        · exact (decide_eq_true (good_right h0 hgd)).trans (decide_eq_true h0).symm
        · exact (decide_eq_false (fun h => h0 h.1)).trans (decide_eq_false h0).symm
      clear hgd hz
      go_wp2
      go_ret
      exact ⟨by rw [hR.out]; rfl, rfl⟩

end Go.Proofs.Ytedcbchelliljaa
