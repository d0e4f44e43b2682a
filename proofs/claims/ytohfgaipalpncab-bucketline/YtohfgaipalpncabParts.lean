/- PROVED: what Parts answers. CONDITIONS: none beyond each theorem's own. -/
import Derived.Test.YtohfgaipalpncabConv
import Derived.Test.YtohfgaipalpncabWithin
import Derived.Test.YtohfgaipalpncabOf
namespace Go.Proofs.Ytohfgaipalpncab
open Go.RowKit

theorem parts_any (a : Option Addr) (c : Nat) (f : List Int) (w : World) (k : Row w a f) (h : f.length ≤ 17592186044416) :
    Calls Try.prog 6 #[.slice a f.length c] w fun e w' => e = .returned (.bool (decide (parts f))) ∧ Below w.heap.size w w' := by
  have ha := at_any a c f 0 w k h
  by_cases h0 : att f 0 = 0
  · have hv : (att f 0 == 0) = true := by rw [h0]; rfl
    have hd : decide (parts f) = decide (below f (conv f f)) := by
      rw [Bool.eq_iff_iff, decide_eq_true_iff, decide_eq_true_iff, parts_conv]
      exact ⟨fun q => q.2, fun q => ⟨h0, q⟩⟩
    rw [hd]
    clear h0 hd
    have hcl : (conv f f).length ≤ 17592186044416 := by rw [conv_len]; omega
    have hcv := conv_any a a c c f f w k k h h
    generalize att f 0 = v at ha hv
    generalize conv f f = cc at hcv hcl ⊢
    go_enter Try.func6, Try.ntmps6
    go_wp2_with (first
      | (go_at_call 13; refine ha.mono ?_; rintro e w ⟨rfl, rfl⟩; clear ha)
      | (go_at_call 15; refine hcv.mono ?_; rintro e v1 ⟨ao, cap, rfl, hcp, hR, hB⟩; clear hcv)
      | (go_at_call 14; refine (within_any a ao c cap f cc h hcl v1 (k.kept hB) hR).mono ?_; rintro e v2 ⟨rfl, hB2⟩; have hB3 := bthen hB hB2; clear hB hB2 hR k))
    go_ret
    exact ⟨rfl, hB3⟩
  · have hv : (att f 0 == 0) = false := beq_eq_false_iff_ne.2 h0
    have hd : decide (parts f) = false := decide_eq_false fun q => h0 ((parts_conv f).1 q).1
    rw [hd]
    clear h0 hd
    generalize att f 0 = v at ha hv
    go_enter Try.func6, Try.ntmps6
    go_wp2_with (go_at_call 13; refine ha.mono ?_; rintro e w ⟨rfl, rfl⟩; clear ha)
    go_ret
    exact ⟨rfl, Below.refl _ _⟩

end Go.Proofs.Ytohfgaipalpncab
