/- PROVED: the contracts with how long each row is said apart; what bucket.Keeps answers. CONDITIONS: none beyond each theorem's own. -/
import Derived.Test.YtmhdodlgbbaonaaSame
import Derived.Test.YtmhdodlgbbaonaaBPass
import Derived.Test.YtmhdodlgbbaonaaOf
import Derived.Test.YtmhdodlgbbaonaaWithin
import Derived.Test.YtmhdodlgbbaonaaFar
namespace Go.Proofs.Ytmhdodlgbbaonaa
open Go.RowKit

/-- one step of a walk that is not taken yet -/
theorem tok : Hid True := trivial
/-- what a call answers: n numbers -/
def AnsN (w : World) (n : Nat) (R : List Int) (e : Ending) (w' : World) : Prop :=
  ∃ ao cap, e = .returned (.slice ao n cap) ∧ n ≤ cap ∧ Row w' ao R ∧ Below w.heap.size w w'
theorem Ans.told {w : World} {R S : List Int} {n : Nat} {e : Ending} {w' : World} (h : Ans w R e w') (hl : R.length = n) (hS : R = S) : AnsN w n S e w' := by
  subst hS; subst hl; exact h

theorem of_r (a : Option Addr) (c n : Nat) (f R : List Int) (hR : of f = R) (w : World) (k : Row w a f) (e1 : f.length = n) (h : n ≤ 17592186044415) :
    Calls Try.prog 17 #[.slice a n c] w (AnsN w (n + 1) R) := by
  subst e1
  exact (of_any a c f w k h).mono fun e w' q => q.told (of_len f) hR
theorem conv_r (a1 a2 : Option Addr) (c1 c2 n : Nat) (f g R : List Int) (hR : conv f g = R) (w : World) (k1 : Row w a1 f) (k2 : Row w a2 g) (e1 : f.length = n) (e2 : g.length = n) (h : n ≤ 17592186044416) :
    Calls Try.prog 19 #[.slice a1 n c1, .slice a2 n c2] w (AnsN w n R) := by
  have hc := conv_any a1 a2 c1 c2 f g w k1 k2 (by omega) (by omega)
  rw [e1, e2] at hc
  exact hc.mono fun e w' q => q.told (by rw [conv_len, e1, e2, Nat.min_self]) hR
theorem within_n (a1 a2 : Option Addr) (c1 c2 n m : Nat) (f g : List Int) (w : World) (k1 : Row w a1 f) (k2 : Row w a2 g) (e1 : f.length = n) (e2 : g.length = m) (h : n ≤ 17592186044416) (h2 : m ≤ 17592186044416) (b : Bool) (hb : decide (below f g) = b) :
    Calls Try.prog 22 #[.slice a1 n c1, .slice a2 m c2] w fun e w' => e = .returned (.bool b) ∧ Below w.heap.size w w' := by
  subst e1; subst e2; subst hb
  exact within_any a1 a2 c1 c2 f g h h2 w k1 k2
theorem equal_n (a1 a2 : Option Addr) (c1 c2 n m : Nat) (f g : List Int) (w : World) (k1 : Row w a1 f) (k2 : Row w a2 g) (e1 : f.length = n) (e2 : g.length = m) (h : n ≤ 35184372088832) (h2 : m ≤ 35184372088832) (b : Bool) (hb : decide (f = g) = b) :
    Calls Try.prog 13 #[.slice a1 n c1, .slice a2 m c2] w fun e w' => e = .returned (.bool b) ∧ Below w.heap.size w w' := by
  subst e1; subst e2; subst hb
  exact (equal_any a1 a2 c1 c2 f g w k1 k2 h h2).mono fun _ _ ⟨he, q, hw⟩ => ⟨he, hw ▸ below_drewN (Below.refl _ _) q⟩
theorem bright_n (R B : Int) (a : Option Addr) (c n : Nat) (f : List Int) (w : World) (k : Row w a f) (e1 : f.length = n) (b : Bool) (hb : decide (bright R B f) = b) :
    Calls Try.prog 23 #[.agg #[.int .i64 R, .int .i64 B], .slice a n c] w fun e w' => e = .returned (.bool b) ∧ Below w.heap.size w w' := by
  subst e1; subst hb
  exact bright_any R B a c f w k
theorem line_r (R B : Int) (hR : inr R) (hB : inr B) (n : Nat) (hn : n ≤ 300) (S : List Int) (hS : line R B n = S) (w : World) :
    Calls Try.prog 20 #[.agg #[.int .i64 R, .int .i64 B], .int .i64 n] w (AnsN w n S) :=
  (line_nat R B n n (by omega) w).mono fun e w' q => q.told (line_len hR hB n) hS
theorem pass_r (R B : Int) (a : Option Addr) (c n : Nat) (f S : List Int) (h : bright R B f) (hS : pass R B f = S) (w : World) (k : Row w a f) (e1 : f.length = n) :
    Calls Try.prog 21 #[.agg #[.int .i64 R, .int .i64 B], .slice a n c] w (AnsN w n S) := by
  subst e1
  refine (pass_any R B a c f w k).mono fun e w' q => ?_
  have hl : let' R B f = pass R B f := by unfold let'; rw [if_pos h]
  rw [hl] at q
  exact q.told (pass_len R B f) hS

end Go.Proofs.Ytmhdodlgbbaonaa
