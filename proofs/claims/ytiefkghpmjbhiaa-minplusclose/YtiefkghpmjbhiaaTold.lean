/- PROVED: the contracts with how long each row is said apart. CONDITIONS: none beyond each theorem's own. -/
import Derived.Test.YtiefkghpmjbhiaaAlive
import Derived.Test.YtiefkghpmjbhiaaJoin
import Derived.Test.YtiefkghpmjbhiaaFar
import Derived.Test.YtiefkghpmjbhiaaRight
namespace Go.Proofs.Ytiefkghpmjbhiaa
open Go.RowKit

/-- one step of a walk that is not taken yet -/
theorem tok : Hid True := trivial

theorem conv_n (a1 a2 : Option Addr) (c1 c2 n : Nat) (f g : List Int) (w : World) (k1 : Row w a1 f) (k2 : Row w a2 g) (e1 : f.length = n) (e2 : g.length = n) (h : n ≤ 17592186044416) :
    Calls Try.prog 12 #[.slice a1 n c1, .slice a2 n c2] w (AnsN w n (conv f g)) := by
  have hc := conv_any a1 a2 c1 c2 f g w k1 k2 (by omega) (by omega)
  rw [e1, e2] at hc
  refine hc.mono fun e w' q => ?_
  unfold Ans at q
  rw [conv_len, e1, e2, Nat.min_self] at q
  exact q
theorem lower_n (a1 a2 : Option Addr) (c1 c2 n : Nat) (f g : List Int) (w : World) (k1 : Row w a1 f) (k2 : Row w a2 g) (e1 : f.length = n) (e2 : g.length = n) (h : n ≤ 17592186044416) :
    Calls Try.prog 21 #[.slice a1 n c1, .slice a2 n c2] w (AnsN w n (both lowr f g)) := by
  have hc := lower_any a1 a2 c1 c2 f g (by omega) (by omega) w k1 k2
  rw [e1, e2] at hc
  refine hc.mono fun e w' q => ?_
  unfold Ans at q
  rw [both_len, e1, e2, Nat.min_self] at q
  exact q
theorem over_n (a1 a2 : Option Addr) (c1 c2 n : Nat) (f g : List Int) (w : World) (k1 : Row w a1 f) (k2 : Row w a2 g) (e1 : f.length = n) (e2 : g.length = n) (h : n ≤ 17592186044416) (hc : n ≤ c1) :
    Calls Try.prog 14 #[.slice a1 n c1, .slice a2 n c2] w (AnsN w n (over f g)) := by
  have hc := over_any a1 a2 c1 c2 f g w k1 k2 (by omega) (by omega) (e1 ▸ hc)
  rw [e1, e2] at hc
  refine hc.mono fun e w' q => ?_
  unfold Ans at q
  rw [over_len, e1] at q
  exact q
theorem close_n (a1 : Option Addr) (c1 n : Nat) (f : List Int) (w : World) (k1 : Row w a1 f) (e1 : f.length = n) (h : n ≤ 17592186044416) :
    Calls Try.prog 16 #[.slice a1 n c1] w (AnsN w n (close f)) := by
  subst e1
  refine (close_any a1 c1 f w k1 h).mono fun e w' q => ?_
  unfold Ans at q
  rw [close_len] at q
  exact q
theorem unit_n (n : Nat) (h : n ≤ 300) (w : World) : Calls Try.prog 10 #[.int .i64 n] w (AnsN w n (unit n)) := by
  refine (unit_nat n n (by omega) w).mono fun e w' q => ?_
  unfold Ans at q
  rw [unit_len] at q
  exact q
theorem within_n (a1 a2 : Option Addr) (c1 c2 n m : Nat) (f g : List Int) (w : World) (k1 : Row w a1 f) (k2 : Row w a2 g) (e1 : f.length = n) (e2 : g.length = m) (h : n ≤ 17592186044416) (h2 : m ≤ 17592186044416) (b : Bool) (hb : decide (below f g) = b) :
    Calls Try.prog 23 #[.slice a1 n c1, .slice a2 m c2] w fun e w' => e = .returned (.bool b) ∧ Below w.heap.size w w' := by
  subst e1; subst e2; subst hb
  exact within_any a1 a2 c1 c2 f g h h2 w k1 k2
theorem parts_n (a : Option Addr) (c n : Nat) (f : List Int) (w : World) (k : Row w a f) (e1 : f.length = n) (h : n ≤ 17592186044416) (b : Bool) (hb : decide (parts f) = b) :
    Calls Try.prog 18 #[.slice a n c] w fun e w' => e = .returned (.bool b) ∧ Below w.heap.size w w' := by
  subst e1; subst hb
  exact parts_any a c f w k h
theorem right_n (a : Option Addr) (c n : Nat) (f : List Int) (w : World) (k : Row w a f) (e1 : f.length = n) (h : n ≤ 17592186044416) (b : Bool) (hb : decide (right f) = b) :
    Calls Try.prog 24 #[.slice a n c] w fun e w' => e = .returned (.bool b) ∧ Below w.heap.size w w' := by
  subst e1; subst hb
  exact (right_any a c f w k h).mono fun _ _ ⟨he, q, hw⟩ => ⟨he, hw ▸ below_drewN (Below.refl _ _) q⟩

theorem AnsN.is {w : World} {n : Nat} {R S : List Int} (h : R = S) {e : Ending} {w' : World} (q : AnsN w n R e w') : AnsN w n S e w' := h ▸ q
theorem conv_r (a1 a2 : Option Addr) (c1 c2 n : Nat) (f g R : List Int) (hR : conv f g = R) (w : World) (k1 : Row w a1 f) (k2 : Row w a2 g) (e1 : f.length = n) (e2 : g.length = n) (h : n ≤ 17592186044416) :
    Calls Try.prog 12 #[.slice a1 n c1, .slice a2 n c2] w (AnsN w n R) := (conv_n a1 a2 c1 c2 n f g w k1 k2 e1 e2 h).mono fun _ _ q => q.is hR
theorem lower_r (a1 a2 : Option Addr) (c1 c2 n : Nat) (f g R : List Int) (hR : both lowr f g = R) (w : World) (k1 : Row w a1 f) (k2 : Row w a2 g) (e1 : f.length = n) (e2 : g.length = n) (h : n ≤ 17592186044416) :
    Calls Try.prog 21 #[.slice a1 n c1, .slice a2 n c2] w (AnsN w n R) := (lower_n a1 a2 c1 c2 n f g w k1 k2 e1 e2 h).mono fun _ _ q => q.is hR
theorem over_r (a1 a2 : Option Addr) (c1 c2 n : Nat) (f g R : List Int) (hR : over f g = R) (w : World) (k1 : Row w a1 f) (k2 : Row w a2 g) (e1 : f.length = n) (e2 : g.length = n) (h : n ≤ 17592186044416) (hc : n ≤ c1) :
    Calls Try.prog 14 #[.slice a1 n c1, .slice a2 n c2] w (AnsN w n R) := (over_n a1 a2 c1 c2 n f g w k1 k2 e1 e2 h hc).mono fun _ _ q => q.is hR
theorem close_r (a1 : Option Addr) (c1 n : Nat) (f R : List Int) (hR : close f = R) (w : World) (k1 : Row w a1 f) (e1 : f.length = n) (h : n ≤ 17592186044416) :
    Calls Try.prog 16 #[.slice a1 n c1] w (AnsN w n R) := (close_n a1 c1 n f w k1 e1 h).mono fun _ _ q => q.is hR
theorem unit_r (n : Nat) (R : List Int) (hR : unit n = R) (h : n ≤ 300) (w : World) : Calls Try.prog 10 #[.int .i64 n] w (AnsN w n R) := (unit_n n h w).mono fun _ _ q => q.is hR

end Go.Proofs.Ytiefkghpmjbhiaa
