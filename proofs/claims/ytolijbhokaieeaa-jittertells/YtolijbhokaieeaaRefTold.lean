/- PROVED: the contracts of the document's own functions with how long each row is said apart. CONDITIONS: none beyond each theorem's own. -/
import Derived.Test.YtolijbhokaieeaaTold
import Derived.Test.YtolijbhokaieeaaRefPass
namespace Go.Proofs.Ytolijbhokaieeaa
open Go.RowKit

theorem iright_n (a1 a2 : Option Addr) (c1 c2 n m : Nat) (f g : List Int) (w : World) (k1 : Row w a1 f) (k2 : Row w a2 g) (e1 : f.length = n) (e2 : g.length = m) (h : n ≤ 17592186044415) (h2 : m ≤ 17592186044415) (b : Bool) (hb : decide (jright f g) = b) :
    Calls Try.prog 8 #[.slice a1 n c1, .slice a2 m c2] w fun e w' => e = .returned (.bool b) ∧ Below w.heap.size w w' := by
  subst e1; subst e2; subst hb
  exact (iright_any a1 a2 c1 c2 f g w k1 k2 (by omega) (by omega)).mono fun _ _ ⟨he, q, hw⟩ => ⟨he, hw ▸ below_drewN (Below.refl _ _) q⟩
theorem ipass_n (a1 a2 : Option Addr) (c1 c2 n m : Nat) (f g R : List Int) (r : Nat) (w : World) (k1 : Row w a1 f) (k2 : Row w a2 g) (e1 : f.length = n) (e2 : g.length = m) (h : n ≤ 17592186044415) (h2 : m ≤ 17592186044415) (hR : pass f g = R) (hl : R.length = r) :
    Calls Try.prog 11 #[.slice a1 n c1, .slice a2 m c2] w (AnsN w r R) := by
  subst e1; subst e2
  exact (ipass_any a1 a2 c1 c2 f g w k1 k2 h h2).mono fun e w' q => q.told (by rw [hR]; exact hl) hR

end Go.Proofs.Ytolijbhokaieeaa
