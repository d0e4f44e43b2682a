/- PROVED: what is known of a graph that came in, and of how many edges it can have. CONDITIONS: none beyond each theorem's own. -/
import Derived.Test.YtdbpgcaodgkcjaaFar
namespace Go.Proofs.Ytdbpgcaodgkcjaa
open Go.ChangeShapes Go.WideShapes Go.ChangeAt Go.RowKit Go.Joins Go.Deep

theorem Try.bytes36 : Try.prog.bytesOf 36 = 24 := by kernel_rfl
theorem openGz {H : Type} {enc : TypeId × Value → H} {W : World} {r : Reach} {b0 : Nat} {v : Value} {d : DataW H} {p : List MemPlace}
    (hv : Value.okWide Try.prog W r b0 24 v) (h : DataW.Trod enc Try.prog W 0 (fun _ => true) true 24 v d p) (hb : ∀ n, n ∈ d.weights Try.prog 24 → n ≤ 140737488351232) : ∃ (n : Int) (a : Option Addr) (cap : Nat) (L : List Ed), v = .agg #[.int .i64 n, .slice a L.length cap] ∧ FarE W a cap L ∧ L.length * 24 ≤ 140737488351232 := by
  obtain ⟨n, a, cap, L, rfl, hF⟩ := openG hv h
  refine ⟨n, a, cap, L, rfl, hF, ?_⟩
  obtain ⟨fuel, hf⟩ := h
  obtain ⟨y0, y1, m, hxe, hl, h0, h1⟩ := trod_struct2 Try.underlying24 hf
  have h1' : DataW.trod enc Try.prog W 0 (fun _ => true) true m 22 [.slice a L.length cap] = some y1 := by simpa [Try.cells22, Value.cells] using h1
  injection hxe with hd _
  subst hd
  rcases DataW.trod_slice Try.underlying22 h1' with ⟨hcs, _⟩ | ⟨x, l, c, elems, rest, k, _, hcs, hx, _, hlc, hm, hlen, hel, _, _⟩
  · have e : Value.slice a L.length cap = .slice none 0 0 := by simpa using hcs
    injection e with _ e _
    omega
  · have e : Value.slice a L.length cap = .slice (some x) l c := by simpa using hcs
    injection e with _ e2 _
    subst hx
    have := hb ((elems.length + rest.length) * Try.prog.bytesOf 36) (by
      simp only [DataW.weights, Try.underlying24]
      simp [DataW.weights, DataW.weightsEach, Try.underlying22])
    rw [Try.bytes36] at this
    omega
end Go.Proofs.Ytdbpgcaodgkcjaa
