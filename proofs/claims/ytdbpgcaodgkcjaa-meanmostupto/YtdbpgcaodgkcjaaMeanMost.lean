/- PROVED: MeanMost: no cycle weighs more by the edge than what is told, however it goes; and one weighs so much. CONDITIONS: the arguments hold together at most 1048576 values. -/
import Derived.Test.YtdbpgcaodgkcjaaBes
import Derived.Test.YtdbpgcaodgkcjaaMMo
import Derived.Test.YtdbpgcaodgkcjaaFar
namespace Go.Proofs.Ytdbpgcaodgkcjaa.Z
open Go.RowKit
set_option linter.unusedVariables false

theorem meanMost_walk (N : Int) (a : Option Addr) (cap : Nat) (L : List Ed) (a1 : Option Addr) (cap1 : Nat) (z : List Int) (w : World) (hE : FarE w a cap L) (hz : FarS w a1 cap1 z) (hu : z.length ≤ 1048576) :
    Calls Try.prog 4 #[.agg #[.int .i64 N, .slice a L.length cap], .slice a1 z.length cap1] w fun e w' => e = .returned (.bool true) ∧ Below w.heap.size w w' :=
  meanMost_all greatest_some greatest_none greatest_wrong best_some best_none best_wrong N a cap L a1 cap1 z hu w hE.1 (by have := hE.2; omega) hz.1

end Go.Proofs.Ytdbpgcaodgkcjaa.Z
namespace Go.Proofs.Ytdbpgcaodgkcjaa.meanMost
open Go.ChangeShapes Go.WideShapes Go.ChangeAt Go.RowKit Z
set_option linter.unusedVariables false

theorem contract (H : Type) (enc : TypeId × Value → H) (W : World) (base : Nat) (args : Array Value) (ds gs : List (DataW H)) (before : List MemPlace)
    (hval : ∀ (j : Nat) t v, Try.f4.params[j]? = some t → args[j]? = some v → Value.okWide Try.prog W .any base t v)
    (hW : DataW.Whole enc Try.prog Try.f4.params.toList Rows.meanMostSpec.vars false W args.toList ds gs before) (hk : Rows.uptoSmall H (ds ++ gs) = true) :
    Calls Try.prog 4 args W fun e W' => ∃ v, e = .returned v ∧ Rows.meanMostSpec.post enc Try.prog Try.f4 false true false false W args v W' := by
  have hW' := hW
  obtain ⟨p, q, hA0, hV, rfl, hfz, hnd⟩ := hW
  have hA : DataW.TrodAll enc Try.prog W 0 (fun _ => true) true Try.f4.params.toList args.toList ds p := hA0
  rw [Try.params4] at hA hval
  obtain ⟨v0, vs0, d0, ds0, p0, q0, hargs, rfl, rfl, h0, r0⟩ := trodAll_cons hA
  obtain ⟨v1, vs1, d1, ds1, p1, q1, rfl, rfl, rfl, h1, r1⟩ := trodAll_cons r0
  obtain ⟨rfl, rfl, rfl⟩ := trodAll_nil r1
  obtain rfl : args = #[v0, v1] := by cases args; simp_all
  obtain ⟨rfl, rfl⟩ := trodVars_none hV
  have k0 := h0
  have lt0 : ∀ x ∈ p0, x.block < W.heap.size := by obtain ⟨m, hm⟩ := k0; exact DataW.trod_lt m _ _ _ hm
  obtain ⟨x0_0, a0, cap0, z0, rfl, w0⟩ := openG (hval 0 24 v0 rfl rfl) h0
  have k1 := h1
  have lt1 : ∀ x ∈ p1, x.block < W.heap.size := by obtain ⟨m, hm⟩ := k1; exact DataW.trod_lt m _ _ _ hm
  obtain ⟨a1, len1, cap1, rfl⟩ := okWide_slice Try.underlying30 (hval 1 30 v1 rfl rfl)
  obtain ⟨z1, rfl, w1, e1⟩ := farS h1
  have l1 : z1.length ≤ 1048576 := by
    rcases e1 with ⟨_, e⟩ | ⟨elems, spare, e, hle⟩
    · omega
    · subst e
      exact Nat.le_trans hle (bulk_at (i := 1) (elems := elems) (spare := spare) hk rfl)
  clear hA0
  refine (meanMost_walk x0_0 a0 cap0 z0 a1 cap1 z1 W w0 w1 l1).mono fun e W' ⟨he, bel⟩ => ?_
  subst he
  exact ⟨_, rfl, _, _, _, [], _, [], hW', trodAll_mk1 (shut_bool Try.underlying4 _), (trodAll_cons_mk (Below.trod laidOut (by kernel_rfl) (of_decide_eq_true (by kernel_rfl)) k0 bel lt0) (trodAll_cons_mk (Below.trod laidOut (by kernel_rfl) (of_decide_eq_true (by kernel_rfl)) k1 bel lt1) trodAll_mk0)), rfl, bel.frame _, fun h => by cases h⟩

set_option maxRecDepth 100000 in
theorem lifted (os : Os) (started : os.Started) (H : Type) (enc : TypeId × Value → H) (F : Stop.Interp) :
    ReturnsInHanded {} Try.checked os 4 .any ((Rows.OpenSpec.upto Rows.meanMostSpec).pre6 enc Try.prog Try.f4 Rows.meanMostUptoRow.domain false) (((Rows.OpenSpec.upto Rows.meanMostSpec).at F).post enc Try.prog Try.f4 false true false false) := by
  refine returnsInHanded_of_cond (C := Try.checked) (s := Rows.OpenSpec.upto Rows.meanMostSpec) (k := Rows.uptoSmall) rfl own started (by kernel_rfl) Try.func4
    (OpenSpec.witness (enc := enc) (C := Try.checked) (s := Rows.OpenSpec.upto Rows.meanMostSpec) (k := Rows.uptoSmall) rfl false ⟨#[], #[.agg #[.int .i64 0, .slice none 0 0], .slice none 0 0], []⟩ 8 (by kernel_rfl) (by kernel_rfl) (by kernel_rfl)
      (x := ([.agg [.lit (.int .i64 0), .nil], .nil], [], [])) (by kernel_rfl) rfl (by kernel_rfl)) ?_
  intro W base args ds gs before hval hW _ hk _
  exact contract H enc W base args ds gs before hval hW hk

theorem proved : Rows.MeanMostUptoSaid :=
  OpenClaim.holds_of_cond 4 Try.f4 rfl rfl rfl rfl rfl rfl rfl ⟨rfl, rfl, rfl, rfl, rfl⟩ rfl rfl rfl rfl rfl (by kernel_rfl) Try.func4 (by kernel_rfl)
    (of_decide_eq_true (by kernel_rfl)) (by unfold Func.isWrapper; first | (rw [if_pos (by decide +kernel)]; kernel_rfl) | (rw [if_neg (by decide +kernel)]; exact ⟨rfl, rfl⟩))
    (fun os started H enc _ F => lifted os started H enc F)

end Go.Proofs.Ytdbpgcaodgkcjaa.meanMost
namespace Go.Proofs.Ytdbpgcaodgkcjaa
theorem meanMostUpto_holds : Rows.MeanMostUptoSaid := meanMost.proved
#print axioms meanMostUpto_holds
end Go.Proofs.Ytdbpgcaodgkcjaa
