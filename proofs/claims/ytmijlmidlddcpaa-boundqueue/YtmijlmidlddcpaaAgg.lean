/- PROVED: a bucket that came in by value, opened and shut. CONDITIONS: none beyond each theorem's own. -/
import Derived.Test.YtmijlmidlddcpaaFar
import Derived.ChangeSame
import Derived.Lib.SmallJoins
namespace Go.Proofs.Ytmijlmidlddcpaa
open Go.ChangeShapes Go.WideShapes Go.ChangeAt Go.RowKit Go.Joins

theorem Try.cells30 : Try.prog.cellsOf 30 = 2 := by kernel_rfl

theorem openBk {H : Type} {enc : TypeId × Value → H} {W : World} {r : Reach} {b0 : Nat} {v : Value} {d : DataW H} {p : List MemPlace}
    (hv : Value.okWide Try.prog W r b0 30 v) (h : DataW.Trod enc Try.prog W 0 (fun _ => true) true 30 v d p) :
    ∃ R B : Int, v = .agg #[.int .i64 R, .int .i64 B] ∧ d = .agg [.lit (.int .i64 R), .lit (.int .i64 B)] ∧ p = [] ∧ (Lit.int .i64 R).wf = true ∧ (Lit.int .i64 B).wf = true := by
  obtain ⟨c0, c1, y0, y1, m, rfl, rfl, rfl, hy0, hy1⟩ := open_agg2 Try.underlying30 (by kernel_rfl) Try.cells30 hv h
  obtain ⟨a, e0, rfl, wa⟩ := DataW.trod_int Try.underlying3 hy0
  obtain ⟨b, e1, rfl, wb⟩ := DataW.trod_int Try.underlying3 hy1
  simp at e0 e1
  subst e0 e1
  exact ⟨a, b, rfl, rfl, rfl, wa, wb⟩

theorem shutBk {H : Type} {enc : TypeId × Value → H} {W : World} {sp : Nat → Bool} {R B : Int} (wa : (Lit.int .i64 R).wf = true) (wb : (Lit.int .i64 B).wf = true) :
    DataW.Trod enc Try.prog W 0 sp true 30 (.agg #[.int .i64 R, .int .i64 B]) (.agg [.lit (.int .i64 R), .lit (.int .i64 B)]) [] :=
  shut_agg2 (y0 := (.lit (.int .i64 R), [])) (y1 := (.lit (.int .i64 B), [])) Try.underlying30 (by kernel_rfl) Try.cells30 ⟨1, by simp [DataW.trod, Try.underlying3, wa]⟩ ⟨1, by simp [DataW.trod, Try.underlying3, wb]⟩

end Go.Proofs.Ytmijlmidlddcpaa
