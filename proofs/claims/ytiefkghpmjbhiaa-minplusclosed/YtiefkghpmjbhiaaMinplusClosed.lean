/- PROVED: what is closed is never more than its parts, and nothing greater is: closed again it is itself; and so is what it comes to with itself. CONDITIONS: none. -/
import Derived.Test.YtiefkghpmjbhiaaClosedA
import Derived.Test.YtiefkghpmjbhiaaClosedB
import Derived.Test.YtiefkghpmjbhiaaClosedC
import Derived.Test.YtiefkghpmjbhiaaClosedD
import Derived.Test.YtiefkghpmjbhiaaClosedE
namespace Go.Proofs.Ytiefkghpmjbhiaa
open Go.RowKit
set_option linter.unusedVariables false

set_option maxHeartbeats 1600000 in
theorem minplusClosed_walk (a0 : Option Addr) (cap0 : Nat) (z0 : List Int) (a1 : Option Addr) (cap1 : Nat) (z1 : List Int) (w : World) (h0 : FarIn w a0 cap0 z0) (h1 : FarIn w a1 cap1 z1) :
    Calls Try.prog 7 #[.slice a0 z0.length cap0, .slice a1 z1.length cap1] w fun e w' => e = .returned (.bool true) ∧ Below w.heap.size w w' := by
  obtain ⟨r0, l0, c0, _⟩ := h0
  obtain ⟨r1, l1, c1, _⟩ := h1
  have hP := decide_eq_true (close_parts z0)
  have hW := decide_eq_true (close_below z0)
  have hCC := close_close z0
  have hCV := conv_close z0
  obtain ⟨n, e0⟩ : ∃ n, z0.length = n := ⟨_, rfl⟩
  obtain ⟨n1, e1⟩ : ∃ n, z1.length = n := ⟨_, rfl⟩
  have lC : (close z0).length = n := by rw [close_len, e0]
  rw [e0] at l0 c0 ⊢
  rw [e1] at l1 c1 ⊢
  by_cases q0 : n = 0
  · subst q0
    by_cases q1 : n1 = 0
    · subst q1
      exact c0a a0 a1 cap0 cap1 z0 z1 _ w r0 r1 e0 e1 c0 c1 (by omega) rfl lC hP hW hCC hCV
    · exact c0b a0 a1 cap0 cap1 z0 z1 _ w n1 (by omega) r0 r1 e0 e1 c0 c1 (by omega) rfl lC hP hW hCC hCV
  · obtain ⟨g0, o0, rfl, _⟩ := r0.at (by omega)
    by_cases q1 : n1 = n
    · subst q1
      obtain ⟨g1, o1, rfl, _⟩ := r1.at (by omega)
      by_cases q2 : parts z1
      · by_cases q3 : below (z1.drop 1) (z0.drop 1)
        · exact cni g0 o0 g1 o1 cap0 cap1 z0 z1 _ w n1 (by omega) r0 r1 e0 e1 c0 c1 (by omega) rfl lC hP hW hCC hCV (decide_eq_true q2) (decide_eq_true q3) (decide_eq_true (close_best z0 z1 (by omega) q2 q3))
        · exact cno g0 o0 g1 o1 cap0 cap1 z0 z1 _ w n1 (by omega) r0 r1 e0 e1 c0 c1 (by omega) rfl lC hP hW hCC hCV (decide_eq_true q2) (decide_eq_false q3)
      · exact cnn g0 o0 g1 o1 cap0 cap1 z0 z1 _ w n1 (by omega) r0 r1 e0 e1 c0 c1 (by omega) rfl lC hP hW hCC hCV (decide_eq_false q2)
    · exact cnl g0 o0 a1 cap0 cap1 z0 z1 _ w n (by omega) n1 (by omega) r0 r1 e0 e1 c0 c1 (by omega) rfl lC hP hW hCC hCV

end Go.Proofs.Ytiefkghpmjbhiaa
namespace Go.Proofs.Ytiefkghpmjbhiaa.minplusClosed
open Go.ChangeShapes Go.WideShapes Go.ChangeAt Go.RowKit
set_option linter.unusedVariables false

set_option maxRecDepth 100000 in
theorem lifted (os : Os) (started : os.Started) (H : Type) (enc : TypeId × Value → H) :
    ReturnsInHanded {} Try.checked os 7 .any (Rows.minplusClosedSpec.pre6 enc Try.prog Try.f7 Rows.minplusClosedRow.domain false) (Rows.minplusClosedSpec.post enc Try.prog Try.f7 false true false false) := by
  refine returnsInHanded_of_change_sized (C := Try.checked) own started (by kernel_rfl) Try.func7
    (ChangeSpec.witness6 (enc := enc) (C := Try.checked) false ⟨#[], #[.slice none 0 0, .slice none 0 0], []⟩ 8 (by kernel_rfl) (by kernel_rfl) (by kernel_rfl) (by kernel_rfl)) ?_
  intro W base args ds gs before hval0 hW _ hsz0 _
  have hsz : (DataW.weightsEach Try.prog (Try.f7.params.toList ++ Rows.minplusClosedSpec.plain.varTypes Try.prog) (ds ++ gs)).all (· ≤ reachBytes) = true := hsz0
  have hval : ∀ (j : Nat) t v, Try.f7.params[j]? = some t → args[j]? = some v → Value.okWide Try.prog W .any base t v := hval0
  have hW' := hW
  obtain ⟨p, q, hA0, hV, rfl, hfz, hnd⟩ := hW
  have hA : DataW.TrodAll enc Try.prog W 0 (fun _ => true) true Try.f7.params.toList args.toList ds p := hA0
  rw [Try.params7] at hA hval hsz
  obtain ⟨v0, vs0, d0, ds0, p0, q0, hargs, rfl, rfl, h0, r0⟩ := trodAll_cons hA
  obtain ⟨v1, vs1, d1, ds1, p1, q1, rfl, rfl, rfl, h1, r1⟩ := trodAll_cons r0
  obtain ⟨rfl, rfl, rfl⟩ := trodAll_nil r1
  obtain rfl : args = #[v0, v1] := by cases args; simp_all
  obtain ⟨rfl, rfl⟩ := trodVars_none hV
  obtain ⟨a0, len0, cap0, rfl⟩ := okWide_slice Try.underlying22 (hval 0 22 v0 rfl rfl)
  have k0 := h0
  have lt0 : ∀ x ∈ p0, x.block < W.heap.size := by obtain ⟨m, hm⟩ := k0; exact DataW.trod_lt m _ _ _ hm
  obtain ⟨z0, rfl, w0⟩ := farIn h0 (fun elems spare e => by
    subst e
    have := sized_slice hsz (j := 0) (t := 22) (e := 3) rfl rfl Try.underlying22
    rw [Try.bytes3] at this
    exact this)
  obtain ⟨a1, len1, cap1, rfl⟩ := okWide_slice Try.underlying22 (hval 1 22 v1 rfl rfl)
  have k1 := h1
  have lt1 : ∀ x ∈ p1, x.block < W.heap.size := by obtain ⟨m, hm⟩ := k1; exact DataW.trod_lt m _ _ _ hm
  obtain ⟨z1, rfl, w1⟩ := farIn h1 (fun elems spare e => by
    subst e
    have := sized_slice hsz (j := 1) (t := 22) (e := 3) rfl rfl Try.underlying22
    rw [Try.bytes3] at this
    exact this)
  clear hA0 hval0 hsz0 hsz
  refine (minplusClosed_walk a0 cap0 z0 a1 cap1 z1 W w0 w1).mono fun e W' ⟨he, bel⟩ => ?_
  subst he
  exact ⟨_, rfl, _, _, _, [], _, [], hW', trodAll_mk1 (shut_bool Try.underlying4 _), (trodAll_cons_mk (Below.trod laidOut (by kernel_rfl) (of_decide_eq_true (by kernel_rfl)) k0 bel lt0) (trodAll_cons_mk (Below.trod laidOut (by kernel_rfl) (of_decide_eq_true (by kernel_rfl)) k1 bel lt1) trodAll_mk0)), rfl, bel.frame _, fun h => by cases h⟩

theorem proved : Rows.MinplusClosedSaid :=
  OpenClaim.holds_of_wide 7 Try.f7 rfl rfl rfl rfl rfl rfl rfl ⟨rfl, rfl, rfl, rfl, rfl⟩ rfl rfl rfl rfl rfl (by kernel_rfl) Try.func7 (by kernel_rfl)
    (of_decide_eq_true (by kernel_rfl)) (by unfold Func.isWrapper; first | (rw [if_pos (by decide +kernel)]; kernel_rfl) | (rw [if_neg (by decide +kernel)]; exact ⟨rfl, rfl⟩))
    (fun os started H enc _ => lifted os started H enc)

end Go.Proofs.Ytiefkghpmjbhiaa.minplusClosed
namespace Go.Proofs.Ytiefkghpmjbhiaa
theorem minplusClosed_holds : Rows.MinplusClosedSaid := minplusClosed.proved
#print axioms minplusClosed_holds
end Go.Proofs.Ytiefkghpmjbhiaa
