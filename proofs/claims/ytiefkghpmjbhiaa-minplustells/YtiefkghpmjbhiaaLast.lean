/- PROVED: the contracts of the document's own functions, with how long each row is said apart. CONDITIONS: none beyond each theorem's own. -/
import Derived.Test.YtiefkghpmjbhiaaApart
import Derived.Test.YtiefkghpmjbhiaaRefClose
import Derived.Test.YtiefkghpmjbhiaaRefParts
import Derived.Test.YtiefkghpmjbhiaaRefUnit
namespace Go.Proofs.Ytiefkghpmjbhiaa
open Go.RowKit

theorem unit_g (n : Int) (u : Nat) (hu : min (max n 0) 300 = (u : Int)) (R : List Int) (hR : unit u = R) (w : World) : Calls Try.prog 10 #[.int .i64 n] w (AnsN w u R) := by
  refine (unit_nat n u hu w).mono fun e w' q => ?_
  unfold Ans at q
  rw [unit_len, hR] at q
  exact q
theorem eunit_g (n : Int) (u : Nat) (hu : min (max n 0) 300 = (u : Int)) (R : List Int) (hR : unit u = R) (w : World) : Calls Try.prog 11 #[.int .i64 n] w (AnsN w u R) := by
  refine (eunit_nat n u hu w).mono fun e w' q => ?_
  unfold Ans at q
  rw [unit_len, hR] at q
  exact q
theorem econv_m (a1 a2 : Option Addr) (c1 c2 n1 n2 k : Nat) (f g R : List Int) (hR : conv f g = R) (w : World) (k1 : Row w a1 f) (k2 : Row w a2 g) (e1 : f.length = n1) (e2 : g.length = n2) (hk : min n1 n2 = k) (h1 : n1 ≤ 17592186044416) (h2 : n2 ≤ 17592186044416) :
    Calls Try.prog 13 #[.slice a1 n1 c1, .slice a2 n2 c2] w (AnsN w k R) := by
  have hc := econv_any a1 a2 c1 c2 f g w k1 k2 (by omega) (by omega)
  rw [e1, e2] at hc
  refine hc.mono fun e w' q => ?_
  unfold Ans at q
  rw [conv_len, e1, e2, hk, hR] at q
  exact q
theorem over_m (a1 a2 : Option Addr) (c1 c2 n1 n2 : Nat) (f g R : List Int) (hR : over f g = R) (w : World) (k1 : Row w a1 f) (k2 : Row w a2 g) (e1 : f.length = n1) (e2 : g.length = n2) (h1 : n1 ≤ 17592186044416) (h2 : n2 ≤ 17592186044416) (hcap : n1 ≤ c1) :
    Calls Try.prog 14 #[.slice a1 n1 c1, .slice a2 n2 c2] w (AnsN w n1 R) := by
  have hc := over_any a1 a2 c1 c2 f g w k1 k2 (by omega) (by omega) (by omega)
  rw [e1, e2] at hc
  refine hc.mono fun e w' q => ?_
  unfold Ans at q
  rw [over_len, e1, hR] at q
  exact q
theorem eover_m (a1 a2 : Option Addr) (c1 c2 n1 n2 : Nat) (f g R : List Int) (hR : over f g = R) (w : World) (k1 : Row w a1 f) (k2 : Row w a2 g) (e1 : f.length = n1) (e2 : g.length = n2) (h1 : n1 ≤ 17592186044416) (h2 : n2 ≤ 17592186044416) :
    Calls Try.prog 15 #[.slice a1 n1 c1, .slice a2 n2 c2] w (AnsN w n1 R) := by
  have hc := eover_any a1 a2 c1 c2 f g w k1 k2 (by omega) (by omega)
  rw [e1, e2] at hc
  refine hc.mono fun e w' q => ?_
  unfold Ans at q
  rw [over_len, e1, hR] at q
  exact q
theorem eclose_r (a1 : Option Addr) (c1 n : Nat) (f R : List Int) (hR : close f = R) (w : World) (k1 : Row w a1 f) (e1 : f.length = n) (h : n ≤ 17592186044415) (hc : n ≤ c1) :
    Calls Try.prog 17 #[.slice a1 n c1] w (AnsN w n R) := (eclose_n a1 c1 n f w k1 e1 h hc).mono fun _ _ q => q.is hR
theorem eparts_n (a : Option Addr) (c n : Nat) (f : List Int) (w : World) (k : Row w a f) (e1 : f.length = n) (h : n ≤ 17592186044416) (b : Bool) (hb : decide (parts f) = b) :
    Calls Try.prog 19 #[.slice a n c] w fun e w' => e = .returned (.bool b) ∧ Below w.heap.size w w' := by
  subst e1; subst hb
  exact (eparts_any a c f w k h).mono fun _ _ ⟨he, hw⟩ => ⟨he, hw ▸ Below.refl _ _⟩

end Go.Proofs.Ytiefkghpmjbhiaa
