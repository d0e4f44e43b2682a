/- PROVED: the document's own answers of two rows together. CONDITIONS: none beyond each theorem's own. -/
import Derived.Test.YtedcbchelliljaaDrawn
import Derived.Deep.RegionWith
namespace Go.Proofs.Ytedcbchelliljaa
open Go.RowKit

attribute [local go_sem ↓] appe_whole

/-- what h says of two numbers as they count -/
def counted (h : Int → Int → Int) (a b : Int) : Int := h (fit a) (fit b)

set_option maxHeartbeats 1600000 in
theorem dboth_any (K : Nat) (h : Int → Int → Int) (eK : ∀ args w, (callFunc K args).run Try.prog w = .ok (.enter K args) w) (hby : ∀ a b W, Calls Try.prog K #[.int .i64 a, .int .i64 b] W fun e w' => e = .returned (.int .i64 (h a b)) ∧ w' = W)
    (a1 a2 : Option Addr) (c1 c2 : Nat) (f g : List Int) (hf : f.length ≤ 17592186044415) (hg : g.length ≤ 17592186044415) (w : World) (p1 : Row w a1 f) (p2 : Row w a2 g) :
    Calls Try.prog 20 #[.slice a1 f.length c1, .slice a2 g.length c2, .func (.func K) #[] #[]] w (Ans w (both (counted h) f g)) := by
  obtain ⟨m, hmm⟩ : ∃ m, min f.length g.length = m := ⟨_, rfl⟩
  go_enter Try.func20, Try.ntmps20
  go_wp2
  go_loopw [7, 12] (fun t i wr => ∃ k : Nat, k ≤ f.length ∧ i = .int .i64 k ∧ Gath w t wr (outs (fun t => counted h (f.getD t 0) (g.getD t 0)) (min k m))) (fun _ i _ => f.length - (intOf i).toNat)
  case atStart => exact ⟨0, Nat.zero_le _, rfl, by rw [Nat.zero_min]; exact Gath.start w⟩
  case round =>
    obtain ⟨k, hkn, rfl, hG⟩ := hrel
    by_cases hlt : k < f.length
    · obtain ⟨g0, o0, rfl, k0⟩ := (p1.kept hG.below).at (by omega)
      have hx := k0 k (by omega)
      have hki : (k : Int) < f.length := by omega
      by_cases hlg : k < g.length
      · obtain ⟨g1, o1, rfl, k1⟩ := (p2.kept hG.below).at (by omega)
        have hy := k1 k (by omega)
        have hk1 : (k : Int) < g.length := by omega
        have e1 : min k m = k := by omega
        have e2 : min (k + 1) m = k + 1 := by omega
        rw [e1] at hG
        obtain ⟨gg, cc, w2, hrun, hS⟩ := hG.drawn (by omega) (x := counted h (f.getD k 0) (g.getD k 0)) rfl
        have hbx := hby (fit (f.getD k 0)) (fit (g.getD k 0))
        unfold counted at hrun
        generalize f.getD k 0 = x at hx hrun hbx
        generalize g.getD k 0 = y at hy hrun hbx
        have HS := hide hS
        clear k0 k1 p1 p2 hS hG hby hmm e1
        go_wp2
        go_region_with (first
          | (go_at_call 31; refine (rfit_any _ _).mono ?_; rintro e w' ⟨rfl, rfl⟩)
          | (refine (hbx _).mono ?_; rintro e w' ⟨rfl, rfl⟩))
        all_goals
          go_wp2
          go_roundw
          case rel => exact ⟨k + 1, by omega, by go_num, by rw [e2]; exact HS.out⟩
          case measure => simp [intOf]; omega
      · have e2 : min (k + 1) m = min k m := by omega
        have hk1 : (g.length : Int) ≤ k := by omega
        have hk2 : ¬ (k : Int) < g.length := by omega
        generalize f.getD k 0 = x at hx
        have HG := hide hG
        clear k0 hG hby p1 p2 hmm
        go_wp2
        go_roundw
        case rel => exact ⟨k + 1, by omega, by go_num, by rw [e2]; exact HG.out⟩
        case measure => simp [intOf]; omega
    · obtain rfl : k = f.length := by omega
      have hP : outs (fun t => counted h (f.getD t 0) (g.getD t 0)) (min f.length m) = both (counted h) f g := by unfold both; rw [show min f.length m = min f.length g.length by omega]
      rw [hP] at hG
      go_wp2
      go_ret
      exact hG.done

end Go.Proofs.Ytedcbchelliljaa
