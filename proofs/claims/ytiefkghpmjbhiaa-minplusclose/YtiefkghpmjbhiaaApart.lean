/- PROVED: the contracts for rows of different lengths; the front and the rest of a row. CONDITIONS: none beyond each theorem's own. -/
import Derived.Test.YtiefkghpmjbhiaaTold
namespace Go.Proofs.Ytiefkghpmjbhiaa
open Go.RowKit

theorem conv_m (a1 a2 : Option Addr) (c1 c2 n1 n2 k : Nat) (f g R : List Int) (hR : conv f g = R) (w : World) (k1 : Row w a1 f) (k2 : Row w a2 g) (e1 : f.length = n1) (e2 : g.length = n2) (hk : min n1 n2 = k) (h1 : n1 ≤ 17592186044416) (h2 : n2 ≤ 17592186044416) :
    Calls Try.prog 12 #[.slice a1 n1 c1, .slice a2 n2 c2] w (AnsN w k R) := by
  have hc := conv_any a1 a2 c1 c2 f g w k1 k2 (by omega) (by omega)
  rw [e1, e2] at hc
  refine hc.mono fun e w' q => ?_
  unfold Ans at q
  rw [conv_len, e1, e2, hk, hR] at q
  exact q
theorem lower_m (a1 a2 : Option Addr) (c1 c2 n1 n2 k : Nat) (f g R : List Int) (hR : both lowr f g = R) (w : World) (k1 : Row w a1 f) (k2 : Row w a2 g) (e1 : f.length = n1) (e2 : g.length = n2) (hk : min n1 n2 = k) (h1 : n1 ≤ 17592186044416) (h2 : n2 ≤ 17592186044416) :
    Calls Try.prog 21 #[.slice a1 n1 c1, .slice a2 n2 c2] w (AnsN w k R) := by
  have hc := lower_any a1 a2 c1 c2 f g (by omega) (by omega) w k1 k2
  rw [e1, e2] at hc
  refine hc.mono fun e w' q => ?_
  unfold Ans at q
  rw [both_len, e1, e2, hk, hR] at q
  exact q
theorem take_getD (z : List Int) (m j : Nat) (h : j < m) : (z.take m).getD j 0 = z.getD j 0 := by
  rw [List.getD_eq_getElem?_getD, List.getD_eq_getElem?_getD, List.getElem?_take_of_lt h]
theorem Row.take {w : World} {ao : Option Addr} {zs : List Int} (h : Row w ao zs) (m : Nat) : Row w ao (zs.take m) := by
  rcases h with e | ⟨b, off, rfl, k⟩
  · exact .inl (by rw [e]; simp)
  · refine .inr ⟨b, off, rfl, fun j hj => ?_⟩
    rw [List.length_take] at hj
    rw [take_getD _ _ _ (by omega)]
    exact k j (by omega)
theorem Row.rest {w : World} {b off : Nat} {zs : List Int} (h : Row w (some ⟨b, off, none⟩) zs) : Row w (some ⟨b, off + 1, none⟩) (zs.drop 1) := by
  rcases h with e | ⟨b', off', e, k⟩
  · exact .inl (by rw [e]; simp)
  · injection e with e
    injection e with e1 e2
    subst e1; subst e2
    refine .inr ⟨b, off + 1, rfl, fun j hj => ?_⟩
    rw [List.length_drop] at hj
    rw [drop_getD, Nat.add_assoc]
    exact k (1 + j) (by omega)

end Go.Proofs.Ytiefkghpmjbhiaa
