/- PROVED: the rest of a row. CONDITIONS: none. -/
import Derived.Test.YtiefkghpmjbhiaaApart
namespace Go.Proofs.Ytiefkghpmjbhiaa
open Go.RowKit

/-- where the rest of a row begins -/
def restAt (cap b off : Nat) : Option Addr := if cap = 1 then some ⟨b, off, none⟩ else some ⟨b, off + 1, none⟩
theorem Row.restAt {w : World} {b off : Nat} {zs : List Int} (h : Row w (some ⟨b, off, none⟩) zs) {cap : Nat} (hc : zs.length ≤ cap) : Row w (Ytiefkghpmjbhiaa.restAt cap b off) (zs.drop 1) := by
  unfold Ytiefkghpmjbhiaa.restAt
  by_cases e : cap = 1
  · exact .inl (List.eq_nil_of_length_eq_zero (by rw [List.length_drop]; omega))
  · rw [if_neg e]; exact h.rest

end Go.Proofs.Ytiefkghpmjbhiaa
