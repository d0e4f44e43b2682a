/- PROVED: what is known of a slice of integers that came in, of whatever size. the contracts with how long each row is said apart; what bucket.Keeps answers. CONDITIONS: none beyond each theorem's own. -/
import Derived.Test.YtjageagnclmnjabGreatDoorW38BAns
import Derived.ProofKit
import Derived.OpenShut
import Derived.ShutString
import Derived.ChangeOld
import Derived.Below
import Derived.SizedLaws
import Derived.Test.YtjageagnclmnjabGreatDoorW41BSame
import Derived.Test.YtjageagnclmnjabGreatDoorW40BQueue
import Derived.Test.YtjageagnclmnjabGreatDoorW43BOf
namespace Go.Proofs.YtjageagnclmnjabGreatDoor.B
set_option maxRecDepth 100000
open Go.ChangeShapes Go.WideShapes Go.ChangeAt Go.RowKit

theorem fits {n : Int} (h : (Lit.int .i64 n).wf = true) : -9223372036854775808 ≤ n ∧ n ≤ 9223372036854775807 := by
  simpa [Lit.wf, IntKind.min, IntKind.max, IntKind.signed, IntKind.bits] using h

theorem own : ownKnob Tryz.prog.godebug = none := by kernel_rfl
theorem laidOut : laidOutB Tryz.prog = true := by kernel_rfl
theorem Tryz.bytes3 : Tryz.prog.bytesOf 3 = 8 := by kernel_rfl

/-- a slice of integers that came in, of whatever size -/
def FarIn (w : World) (ao : Option Addr) (cap : Nat) (zs : List Int) : Prop := Row w ao zs ∧ zs.length ≤ 17592186043904 ∧ zs.length ≤ cap ∧ ∀ n ∈ zs, -9223372036854775808 ≤ n ∧ n ≤ 9223372036854775807

theorem farIn {H : Type} {enc : TypeId × Value → H} {W : World} {a : Option Addr} {len cap : Nat} {d : DataW H} {p : List MemPlace}
    (h : DataW.Trod enc Tryz.prog W 0 (fun _ => true) true 24 (.slice a len cap) d p) (hb : ∀ elems spare, d = .slice elems spare → (elems.length + spare.length) * 8 ≤ 140737488351232) : ∃ zs, zs.length = len ∧ FarIn W a cap zs := by
  obtain ⟨fuel, hf⟩ := h
  rcases Go.ChangeShapes.open_ints Tryz.underlying24 Tryz.underlying3 (by kernel_rfl) hf with ⟨hcs, _⟩ | ⟨x, l, c, zs, hcs, _, hl, hm, hz, hx, hcell, hwz⟩
  · simp [Value.cells] at hcs
    obtain ⟨rfl, rfl, rfl⟩ := hcs
    exact ⟨[], rfl, .inl rfl, by simp, by simp, fun n hn => by cases hn⟩
  · simp [Value.cells] at hcs
    obtain ⟨rfl, rfl, rfl⟩ := hcs
    have hzl : zs.length = cap := by simpa using hz
    have hlt : (zs.take len).length = len := by simp; omega
    injection hx with hx _
    have hb1 := hb _ _ hx
    simp only [Go.ChangeShapes.lits, List.length_map, List.length_take, List.length_drop] at hb1
    refine ⟨zs.take len, hlt, ?_, by omega, by omega, fun n hn => fits (hwz n (List.mem_of_mem_take hn))⟩
    by_cases h0 : len = 0
    · exact .inl (List.eq_nil_of_length_eq_zero (by omega))
    · have c0 := hcell 0 (by omega)
      obtain ⟨b, o, sp⟩ := x
      have hsp : sp = none := by
        cases sp with
        | none => rfl
        | some q =>
          have : W.cell? ((⟨b, o, some q⟩ : Addr).add 0) = none := by
            show W.cell? ⟨b, o, some q⟩ = none
            simp only [World.cell?]
            split <;> simp
          rw [this] at c0; cases c0
      subst hsp
      refine .inr ⟨b, o, rfl, fun j hj => ?_⟩
      have := hcell j (by omega)
      rw [Addr.add_lit] at this
      rw [this, List.getD_eq_getElem?_getD, List.getD_eq_getElem?_getD, List.getElem?_take_of_lt (by omega)]

end Go.Proofs.YtjageagnclmnjabGreatDoor.B

namespace Go.Proofs.YtjageagnclmnjabGreatDoor.B
set_option maxRecDepth 100000
open Go.RowKit

/-- one step of a walk that is not taken yet -/
theorem tok : Hid True := trivial
/-- what a call answers: n numbers -/
def AnsN (w : World) (n : Nat) (R : List Int) (e : Ending) (w' : World) : Prop :=
  ∃ ao cap, e = .returned (.slice ao n cap) ∧ n ≤ cap ∧ Row w' ao R ∧ Below w.heap.size w w'
theorem Ans.told {w : World} {R S : List Int} {n : Nat} {e : Ending} {w' : World} (h : Ans w R e w') (hl : R.length = n) (hS : R = S) : AnsN w n S e w' := by
  subst hS; subst hl; exact h

theorem of_r (a : Option Addr) (c n : Nat) (f R : List Int) (hR : of f = R) (w : World) (k : Row w a f) (e1 : f.length = n) (h : n ≤ 17592186044415) :
    Calls Tryz.prog 16 #[.slice a n c] w (AnsN w (n + 1) R) := by
  subst e1
  exact (of_any a c f w k h).mono fun e w' q => q.told (of_len f) hR
theorem conv_r (a1 a2 : Option Addr) (c1 c2 n : Nat) (f g R : List Int) (hR : conv f g = R) (w : World) (k1 : Row w a1 f) (k2 : Row w a2 g) (e1 : f.length = n) (e2 : g.length = n) (h : n ≤ 17592186044416) :
    Calls Tryz.prog 13 #[.slice a1 n c1, .slice a2 n c2] w (AnsN w n R) := by
  have hc := conv_any a1 a2 c1 c2 f g w k1 k2 (by omega) (by omega)
  rw [e1, e2] at hc
  exact hc.mono fun e w' q => q.told (by rw [conv_len, e1, e2, Nat.min_self]) hR
theorem equal_n (a1 a2 : Option Addr) (c1 c2 n m : Nat) (f g : List Int) (w : World) (k1 : Row w a1 f) (k2 : Row w a2 g) (e1 : f.length = n) (e2 : g.length = m) (h : n ≤ 35184372088832) (h2 : m ≤ 35184372088832) (b : Bool) (hb : decide (f = g) = b) :
    Calls Tryz.prog 15 #[.slice a1 n c1, .slice a2 m c2] w fun e w' => e = .returned (.bool b) ∧ Below w.heap.size w w' := by
  subst e1; subst e2; subst hb
  exact (equal_any a1 a2 c1 c2 f g w k1 k2 h h2).mono fun _ _ ⟨he, q, hw⟩ => ⟨he, hw ▸ below_drewN (Below.refl _ _) q⟩
end Go.Proofs.YtjageagnclmnjabGreatDoor.B
