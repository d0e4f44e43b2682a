/- PROVED: what is known of a slice of packets that came in, of whatever size. CONDITIONS: none beyond each theorem's own. -/
import Derived.Test.YtngmjmehkehbeaaRight
import Derived.ProofKit
import Derived.OpenShut
import Derived.ShutString
import Derived.ChangeOld
import Derived.ChangeSame
import Derived.Below
import Derived.SizedLaws
namespace Go.Proofs.Ytngmjmehkehbeaa
open Go.ChangeShapes Go.WideShapes Go.ChangeAt Go.RowKit

theorem fits {n : Int} (h : (Lit.int .i64 n).wf = true) : -9223372036854775808 ≤ n ∧ n ≤ 9223372036854775807 := by
  simpa [Lit.wf, IntKind.min, IntKind.max, IntKind.signed, IntKind.bits] using h

theorem own : ownKnob Try.prog.godebug = none := by kernel_rfl
theorem laidOut : laidOutB Try.prog = true := by kernel_rfl
theorem Try.bytes31 : Try.prog.bytesOf 31 = 16 := by kernel_rfl
theorem Try.cells31 : Try.prog.cellsOf 31 = 2 := by kernel_rfl
theorem Try.cells3 : Try.prog.cellsOf 3 = 1 := by kernel_rfl

/-- one packet of cells -/
theorem openPk {H : Type} {enc : TypeId × Value → H} {W : World} {fuel : Nat} {cs : List Value} {x : DataW H × List MemPlace} (h : DataW.trod enc Try.prog W 0 (fun _ => true) true fuel 31 cs = some x) :
    ∃ s c : Int, cs = [.int .i64 s, .int .i64 c] ∧ (-9223372036854775808 ≤ s ∧ s ≤ 9223372036854775807) ∧ -9223372036854775808 ≤ c ∧ c ≤ 9223372036854775807 := by
  obtain ⟨y0, y1, n, _, hl, h0, h1⟩ := trod_struct2 Try.underlying31 h
  obtain ⟨s, e0, _, w0⟩ := DataW.trod_int Try.underlying3 h0
  obtain ⟨c, e1, _, w1⟩ := DataW.trod_int Try.underlying3 h1
  rw [Try.cells31] at hl
  simp only [Try.cells3] at e0 e1
  match cs, hl with
  | [u, v], _ =>
    simp at e0 e1
    subst e0 e1
    exact ⟨s, c, rfl, fits w0, fits w1⟩

/-- a slice of packets that came in, of whatever size -/
def FarP (w : World) (ao : Option Addr) (cap : Nat) (ps : Rs) : Prop :=
  PRow w ao ps ∧ ps.length ≤ 8796093021952 ∧ ps.length ≤ cap ∧ cap ≤ 9223372036854775807 ∧ ∀ j, j < ps.length → (-9223372036854775808 ≤ (ps.getD j (0, 0)).1 ∧ (ps.getD j (0, 0)).1 ≤ 9223372036854775807) ∧ -9223372036854775808 ≤ (ps.getD j (0, 0)).2 ∧ (ps.getD j (0, 0)).2 ≤ 9223372036854775807

/-- so many pairs, one after another -/
theorem choose_pairs (P : Nat → Int × Int → Prop) (n : Nat) (h : ∀ j, j < n → ∃ p, P j p) : ∃ ps : Rs, ps.length = n ∧ ∀ j, j < n → P j (ps.getD j (0, 0)) := by
  induction n with
  | zero => exact ⟨[], rfl, fun j hj => by omega⟩
  | succ n ih =>
    obtain ⟨ps, hl, hp⟩ := ih fun j hj => h j (by omega)
    obtain ⟨p, hq⟩ := h n (by omega)
    refine ⟨ps ++ [p], by simp [hl], fun j hj => ?_⟩
    by_cases e : j = n
    · subst e
      rw [List.getD_eq_getElem?_getD, List.getElem?_append_right (by omega), hl]
      simpa using hq
    · rw [List.getD_eq_getElem?_getD, List.getElem?_append_left (by omega), ← List.getD_eq_getElem?_getD]
      exact hp j (by omega)

theorem farP {H : Type} {enc : TypeId × Value → H} {W : World} {a : Option Addr} {len cap : Nat} {d : DataW H} {p : List MemPlace}
    (h : DataW.Trod enc Try.prog W 0 (fun _ => true) true 22 (.slice a len cap) d p) (hb : ∀ elems spare, d = .slice elems spare → (elems.length + spare.length) * 16 ≤ 140737488351232) : ∃ ps, ps.length = len ∧ FarP W a cap ps := by
  obtain ⟨fuel, hf⟩ := h
  rcases DataW.trod_slice Try.underlying22 hf with ⟨hcs, _⟩ | ⟨x, l, c, elems, rest, n, _, hcs, hx, _, hlc, hm, hlen, hel, _, _⟩
  · simp [Value.cells] at hcs
    obtain ⟨rfl, rfl, rfl⟩ := hcs
    exact ⟨[], rfl, .inl rfl, by simp, by simp, by omega, fun j hj => by simp at hj⟩
  · simp [Value.cells] at hcs
    obtain ⟨rfl, rfl, rfl⟩ := hcs
    injection hx with hx _
    have hb1 := hb _ _ hx
    simp only [List.length_map] at hb1
    unfold maxLen at hm
    rw [Try.cells31] at hel
    obtain ⟨ps, hpl, hps⟩ := choose_pairs (fun j q => (W.cell? (x.add (j * 2)) = some (.int .i64 q.1) ∧ W.cell? ((x.add (j * 2)).add 1) = some (.int .i64 q.2)) ∧ (-9223372036854775808 ≤ q.1 ∧ q.1 ≤ 9223372036854775807) ∧ -9223372036854775808 ≤ q.2 ∧ q.2 ≤ 9223372036854775807) len fun j hj => by
      have := hel j hj
      rw [List.getElem?_eq_getElem (by omega), Option.bind_eq_some_iff] at this
      obtain ⟨cs, hcs, hy⟩ := this
      obtain ⟨s, c, rfl, hs, hc⟩ := openPk hy
      obtain ⟨_, _, h3⟩ := World.cells?_some hcs
      have h0 := h3 0 (by omega)
      have h1 := h3 1 (by omega)
      rw [show (x.add (j * 2)).add 0 = x.add (j * 2) by simp [Addr.add]] at h0
      exact ⟨(s, c), ⟨by simpa using h0, by simpa using h1⟩, hs, hc⟩
    refine ⟨ps, hpl, ?_, by omega, by omega, by omega, fun j hj => (hps j (by omega)).2⟩
    by_cases h0 : len = 0
    · exact .inl (List.eq_nil_of_length_eq_zero (by omega))
    · have c0 := (hps 0 (by omega)).1.1
      obtain ⟨b, o, sp⟩ := x
      have hsp : sp = none := by
        cases sp with
        | none => rfl
        | some q =>
          have : W.cell? ((⟨b, o, some q⟩ : Addr).add 0) = none := by
            show W.cell? ⟨b, o, some q⟩ = none
            simp only [World.cell?]
            split <;> simp
          rw [Nat.zero_mul, this] at c0; cases c0
      subst hsp
      refine .inr ⟨b, o, rfl, fun j hj => ?_⟩
      have := (hps j (by omega)).1
      rw [Addr.add_lit, Addr.add_lit] at this
      exact this

end Go.Proofs.Ytngmjmehkehbeaa
