/- PROVED: a bucket that came in by value, opened and shut. CONDITIONS: none beyond each theorem's own. -/
import Derived.Test.YtjageagnclmnjabGreatDoorV47BTold
import Derived.ChangeSame
import Derived.Lib.SmallJoins
namespace Go.Proofs.YtjageagnclmnjabGreatDoor.B
set_option maxRecDepth 100000
open Go.ChangeShapes Go.WideShapes Go.ChangeAt Go.RowKit Go.Joins

theorem Tryz.cells23 : Tryz.prog.cellsOf 23 = 2 := by kernel_rfl

theorem openBk {H : Type} {enc : TypeId × Value → H} {W : World} {r : Reach} {b0 : Nat} {v : Value} {d : DataW H} {p : List MemPlace}
    (hv : Value.okWide Tryz.prog W r b0 23 v) (h : DataW.Trod enc Tryz.prog W 0 (fun _ => true) true 23 v d p) :
    ∃ R B : Int, v = .agg #[.int .i64 R, .int .i64 B] ∧ d = .agg [.lit (.int .i64 R), .lit (.int .i64 B)] ∧ p = [] ∧ (Lit.int .i64 R).wf = true ∧ (Lit.int .i64 B).wf = true := by
  obtain ⟨c0, c1, y0, y1, m, rfl, rfl, rfl, hy0, hy1⟩ := open_agg2 Tryz.underlying23 (by kernel_rfl) Tryz.cells23 hv h
  obtain ⟨a, e0, rfl, wa⟩ := DataW.trod_int Tryz.underlying3 hy0
  obtain ⟨b, e1, rfl, wb⟩ := DataW.trod_int Tryz.underlying3 hy1
  simp at e0 e1
  subst e0 e1
  exact ⟨a, b, rfl, rfl, rfl, wa, wb⟩

end Go.Proofs.YtjageagnclmnjabGreatDoor.B
