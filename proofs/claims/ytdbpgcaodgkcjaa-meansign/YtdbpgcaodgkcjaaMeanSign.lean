/- PROVED: MeanSign: the greatest that cycles weigh by the edge is above nothing if, and only if, a way round weighs more than nothing. CONDITIONS: none. -/
import Derived.Test.YtdbpgcaodgkcjaaBes
import Derived.Test.YtdbpgcaodgkcjaaMSi
import Derived.Test.YtdbpgcaodgkcjaaFar
namespace Go.Proofs.Ytdbpgcaodgkcjaa.Z
open Go.RowKit
set_option linter.unusedVariables false

theorem cycle_some : CSome := fun n es hG a cap m hm hp v h => (cycle_no n es hG a cap m hm hp v h).mono fun e w' ⟨g, p, c, R, he, _, _, _, hb⟩ => ⟨_, _, _, he, hb⟩
theorem cycle_none : CNone := fun n es hG a cap m hm hp v h => cycle_yes n es hG a cap m hm hp v h
theorem cycle_bad : CWrong := fun N a cap L hl hg v h => (cycle_wrong N a cap L v h hl hg).mono fun e w' he => he
theorem meanSign_walk (N : Int) (a : Option Addr) (cap : Nat) (L : List Ed) (w : World) (hE : FarE w a cap L) :
    Calls Try.prog 5 #[.agg #[.int .i64 N, .slice a L.length cap]] w fun e w' => e = .returned (.bool true) ∧ Below w.heap.size w w' :=
  meanSign_all greatest_some greatest_none greatest_wrong best_some best_none best_wrong cycle_some cycle_none cycle_bad N a cap L w hE.1 (by have := hE.2; omega)

end Go.Proofs.Ytdbpgcaodgkcjaa.Z
namespace Go.Proofs.Ytdbpgcaodgkcjaa.meanSign
open Go.ChangeShapes Go.WideShapes Go.ChangeAt Go.RowKit Z
set_option linter.unusedVariables false

set_option maxRecDepth 100000 in
theorem lifted (os : Os) (started : os.Started) (H : Type) (enc : TypeId × Value → H) :
    ReturnsInHanded {} Try.checked os 5 .any (Rows.meanSignSpec.pre6 enc Try.prog Try.f5 Rows.meanSignRow.domain false) (Rows.meanSignSpec.post enc Try.prog Try.f5 false true false false) := by
  refine returnsInHanded_of_change_sized (C := Try.checked) own started (by kernel_rfl) Try.func5
    (ChangeSpec.witness6 (enc := enc) (C := Try.checked) false ⟨#[], #[.agg #[.int .i64 0, .slice none 0 0]], []⟩ 8 (by kernel_rfl) (by kernel_rfl) (by kernel_rfl) (by kernel_rfl)) ?_
  intro W base args ds gs before hval0 hW _ hsz0 _
  have hval : ∀ (j : Nat) t v, Try.f5.params[j]? = some t → args[j]? = some v → Value.okWide Try.prog W .any base t v := hval0
  have hsz : (DataW.weightsEach Try.prog (Try.f5.params.toList ++ Rows.meanSignSpec.plain.varTypes Try.prog) (ds ++ gs)).all (· ≤ reachBytes) = true := hsz0
  have hW' := hW
  obtain ⟨p, q, hA0, hV, rfl, hfz, hnd⟩ := hW
  have hA : DataW.TrodAll enc Try.prog W 0 (fun _ => true) true Try.f5.params.toList args.toList ds p := hA0
  rw [Try.params5] at hA hval hsz
  obtain ⟨v0, vs0, d0, ds0, p0, q0, hargs, rfl, rfl, h0, r0⟩ := trodAll_cons hA
  obtain ⟨rfl, rfl, rfl⟩ := trodAll_nil r0
  obtain rfl : args = #[v0] := by cases args; simp_all
  obtain ⟨rfl, rfl⟩ := trodVars_none hV
  have k0 := h0
  have lt0 : ∀ x ∈ p0, x.block < W.heap.size := by obtain ⟨m, hm⟩ := k0; exact DataW.trod_lt m _ _ _ hm
  obtain ⟨x0_0, a0, cap0, z0, rfl, w0⟩ := openG (hval 0 24 v0 rfl rfl) h0
  clear hA0 hval0 hsz0 hsz
  refine (meanSign_walk x0_0 a0 cap0 z0 W w0).mono fun e W' ⟨he, bel⟩ => ?_
  subst he
  exact ⟨_, rfl, _, _, _, [], _, [], hW', trodAll_mk1 (shut_bool Try.underlying4 _), (trodAll_cons_mk (Below.trod laidOut (by kernel_rfl) (of_decide_eq_true (by kernel_rfl)) k0 bel lt0) trodAll_mk0), rfl, bel.frame _, fun h => by cases h⟩

theorem proved : Rows.MeanSignSaid :=
  OpenClaim.holds_of_wide 5 Try.f5 rfl rfl rfl rfl rfl rfl rfl ⟨rfl, rfl, rfl, rfl, rfl⟩ rfl rfl rfl rfl rfl (by kernel_rfl) Try.func5 (by kernel_rfl)
    (of_decide_eq_true (by kernel_rfl)) (by unfold Func.isWrapper; first | (rw [if_pos (by decide +kernel)]; kernel_rfl) | (rw [if_neg (by decide +kernel)]; exact ⟨rfl, rfl⟩))
    (fun os started H enc _ => lifted os started H enc)

end Go.Proofs.Ytdbpgcaodgkcjaa.meanSign
namespace Go.Proofs.Ytdbpgcaodgkcjaa
theorem meanSign_holds : Rows.MeanSignSaid := meanSign.proved
#print axioms meanSign_holds
end Go.Proofs.Ytdbpgcaodgkcjaa
