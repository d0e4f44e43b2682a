/- PROVED: what is known of a slice of integers that came in, of whatever size. CONDITIONS: none beyond each theorem's own. -/
import Derived.Test.YtggnhgbimkfdaaaMem
import Derived.ProofKit
import Derived.OpenShut
import Derived.ShutString
import Derived.ChangeOld
import Derived.Below
import Derived.SizedLaws
namespace Go.Proofs.Ytggnhgbimkfdaaa
open Go.ChangeShapes Go.WideShapes Go.ChangeAt Go.RowKit

theorem fits {n : Int} (h : (Lit.int .i64 n).wf = true) : -9223372036854775808 ≤ n ∧ n ≤ 9223372036854775807 := by
  simpa [Lit.wf, IntKind.min, IntKind.max, IntKind.signed, IntKind.bits] using h

theorem own : ownKnob Try.prog.godebug = none := by kernel_rfl
theorem laidOut : laidOutB Try.prog = true := by kernel_rfl
theorem Try.bytes3 : Try.prog.bytesOf 3 = 8 := by kernel_rfl

/-- a slice of integers that came in, of whatever size -/
def FarIn (w : World) (ao : Option Addr) (cap : Nat) (zs : List Int) : Prop := Row w ao zs ∧ zs.length ≤ 17592186043904 ∧ zs.length ≤ cap ∧ ∀ n ∈ zs, -9223372036854775808 ≤ n ∧ n ≤ 9223372036854775807

theorem farIn {H : Type} {enc : TypeId × Value → H} {W : World} {a : Option Addr} {len cap : Nat} {d : DataW H} {p : List MemPlace}
    (h : DataW.Trod enc Try.prog W 0 (fun _ => true) true 22 (.slice a len cap) d p) (hb : ∀ elems spare, d = .slice elems spare → (elems.length + spare.length) * 8 ≤ 140737488351232) : ∃ zs, zs.length = len ∧ FarIn W a cap zs := by
  obtain ⟨fuel, hf⟩ := h
  rcases Go.ChangeShapes.open_ints Try.underlying22 Try.underlying3 (by kernel_rfl) hf with ⟨hcs, _⟩ | ⟨x, l, c, zs, hcs, _, hl, hm, hz, hx, hcell, hwz⟩
  · simp [Value.cells] at hcs
    obtain ⟨rfl, rfl, rfl⟩ := hcs
    exact ⟨[], rfl, .inl rfl, by simp, by simp, fun n hn => by cases hn⟩
  · simp [Value.cells] at hcs
    obtain ⟨rfl, rfl, rfl⟩ := hcs
    have hzl : zs.length = cap := by simpa using hz
    have hlt : (zs.take len).length = len := by simp; omega
    injection hx with hx _
    have hb1 := hb _ _ hx
    simp only [Go.ChangeShapes.lits, List.length_map, List.length_take, List.length_drop] at hb1
    refine ⟨zs.take len, hlt, ?_, by omega, by omega, fun n hn => fits (hwz n (List.mem_of_mem_take hn))⟩
    by_cases h0 : len = 0
    · exact .inl (List.eq_nil_of_length_eq_zero (by omega))
    · have c0 := hcell 0 (by omega)
      obtain ⟨b, o, sp⟩ := x
      have hsp : sp = none := by
        cases sp with
        | none => rfl
        | some q =>
          have : W.cell? ((⟨b, o, some q⟩ : Addr).add 0) = none := by
            show W.cell? ⟨b, o, some q⟩ = none
            simp only [World.cell?]
            split <;> simp
          rw [this] at c0; cases c0
      subst hsp
      refine .inr ⟨b, o, rfl, fun j hj => ?_⟩
      have := hcell j (by omega)
      rw [Addr.add_lit] at this
      rw [this, List.getD_eq_getElem?_getD, List.getD_eq_getElem?_getD, List.getElem?_take_of_lt (by omega)]

end Go.Proofs.Ytggnhgbimkfdaaa
