/- PROVED: the contracts with how long each row is said apart; what bucket.Keeps answers. CONDITIONS: none beyond each theorem's own. -/
import Derived.Test.YtmhdodlgbbaonabSame
import Derived.Test.YtmhdodlgbbaonabOf
import Derived.Test.YtmhdodlgbbaonabBLine
import Derived.Test.YtmhdodlgbbaonabFar
namespace Go.Proofs.Ytmhdodlgbbaonab
open Go.RowKit

/-- one step of a walk that is not taken yet -/
theorem tok : Hid True := trivial
/-- what a call answers: n numbers -/
def AnsN (w : World) (n : Nat) (R : List Int) (e : Ending) (w' : World) : Prop :=
  ∃ ao cap, e = .returned (.slice ao n cap) ∧ n ≤ cap ∧ Row w' ao R ∧ Below w.heap.size w w'
theorem Ans.told {w : World} {R S : List Int} {n : Nat} {e : Ending} {w' : World} (h : Ans w R e w') (hl : R.length = n) (hS : R = S) : AnsN w n S e w' := by
  subst hS; subst hl; exact h

theorem of_r (a : Option Addr) (c n : Nat) (f R : List Int) (hR : of f = R) (w : World) (k : Row w a f) (e1 : f.length = n) (h : n ≤ 17592186044415) :
    Calls Try.prog 10 #[.slice a n c] w (AnsN w (n + 1) R) := by
  subst e1
  exact (of_any a c f w k h).mono fun e w' q => q.told (of_len f) hR
theorem equal_n (a1 a2 : Option Addr) (c1 c2 n m : Nat) (f g : List Int) (w : World) (k1 : Row w a1 f) (k2 : Row w a2 g) (e1 : f.length = n) (e2 : g.length = m) (h : n ≤ 35184372088832) (h2 : m ≤ 35184372088832) (b : Bool) (hb : decide (f = g) = b) :
    Calls Try.prog 8 #[.slice a1 n c1, .slice a2 m c2] w fun e w' => e = .returned (.bool b) ∧ Below w.heap.size w w' := by
  subst e1; subst e2; subst hb
  exact (equal_any a1 a2 c1 c2 f g w k1 k2 h h2).mono fun _ _ ⟨he, q, hw⟩ => ⟨he, hw ▸ below_drewN (Below.refl _ _) q⟩
theorem bright_n (R B : Int) (a : Option Addr) (c n : Nat) (f : List Int) (w : World) (k : Row w a f) (e1 : f.length = n) (b : Bool) (hb : decide (bright R B f) = b) :
    Calls Try.prog 12 #[.agg #[.int .i64 R, .int .i64 B], .slice a n c] w fun e w' => e = .returned (.bool b) ∧ Below w.heap.size w w' := by
  subst e1; subst hb
  exact bright_any R B a c f w k
end Go.Proofs.Ytmhdodlgbbaonab
