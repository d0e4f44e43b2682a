/- PROVED: Of, Right, Steps and At answer what the document says, at every row and tick. CONDITIONS: none. -/
import Derived.Test.YtedcbchelliljaaFar
import Derived.Test.YtedcbchelliljaaSteps
import Derived.Test.YtedcbchelliljaaRight
import Derived.Test.YtedcbchelliljaaRef
import Derived.Test.YtedcbchelliljaaDRight
namespace Go.Proofs.Ytedcbchelliljaa
open Go.RowKit
set_option linter.unusedVariables false

theorem equal_rows (a1 a2 : Option Addr) (c1 c2 : Nat) (xs : List Int) (w : World) (h1 : Row w a1 xs) (h2 : Row w a2 xs) (b1 : xs.length ≤ 17592186044416) :
    Calls Try.prog 8 #[.slice a1 xs.length c1, .slice a2 xs.length c2] w fun e w' => e = .returned (.bool true) ∧ ∃ q, w' = w.drewN q :=
  equal_at a1 a2 c1 c2 xs.length xs w h1 h2 rfl (by omega)

set_option maxHeartbeats 1600000 in
theorem curveTells_walk (a0 : Option Addr) (cap0 : Nat) (z0 : List Int) (a1 : Int) (w : World) (h0 : FarIn w a0 cap0 z0) (w1 : -9223372036854775808 ≤ a1 ∧ a1 ≤ 9223372036854775807) :
    Calls Try.prog 3 #[.slice a0 z0.length cap0, .int .i64 a1] w fun e w' => e = .returned (.bool true) ∧ Below w.heap.size w w' := by
  obtain ⟨hz, hl, hc, _⟩ := h0
  have s1 := fun u (hu : Row u a0 z0) => of_any a0 cap0 z0 u hu (by omega)
  have s2 := fun u (hu : Row u a0 z0) => dof_any a0 cap0 z0 u hu (by omega) hc
  have s3 := fun u (hu : Row u a0 z0) => right_any a0 cap0 z0 u hu (by omega)
  have s4 := fun u (hu : Row u a0 z0) => dright_any a0 cap0 z0 u hu (by omega)
  have s5 := fun u (hu : Row u a0 z0) => steps_any a0 cap0 z0 (by omega) hc u hu
  have s6 := fun u (hu : Row u a0 z0) => dsteps_any a0 cap0 z0 u hu (by omega)
  have s7 := fun u (hu : Row u a0 z0) => at_any a0 cap0 z0 a1 u hu (by omega)
  have s8 := fun u (hu : Row u a0 z0) => dat_any a0 cap0 z0 a1 u hu (by omega)
  have l1 := of_len z0
  have l2 := stepsOf_len z0
  have hl2 : (of z0).length ≤ 17592186044416 := by omega
  have hl3 : (stepsOf z0).length ≤ 17592186044416 := by omega
  clear l1 l2
  generalize of z0 = R at s1 s2 hl2
  generalize stepsOf z0 = S at s5 s6 hl3
  generalize decide (right z0) = bb at s3 s4
  generalize att z0 a1 = tt at s7 s8
  go_enter Try.func3, Try.ntmps3
  go_wp2_with (first
    | (go_at_call 9; refine (s1 _ hz).mono ?_; rintro e v1 ⟨x1, c1, rfl, _, r1, b1⟩; have hz1 := hz.kept b1; clear hz s1)
    | (go_at_call 10; refine (s2 _ hz1).mono ?_; rintro e v2 ⟨x2, c2, rfl, _, r2, b2⟩; have hz2 := hz1.kept b2; have q1 := r1.kept b2; have B2 := bthen b1 b2; clear hz1 s2 r1 b1 b2)
    | (go_at_call 8; refine (equal_rows _ _ _ _ R _ q1 r2 hl2).mono ?_; rintro e v3 ⟨rfl, d3, rfl⟩; clear q1 r2)
    | (go_at_call 11; refine (s3 _ (hz2.drewN _)).mono ?_; rintro e v4 ⟨rfl, d4, rfl⟩; clear s3)
    | (go_at_call 12; refine (s4 _ (hz2.drewN _)).mono ?_; rintro e v5 ⟨rfl, rfl⟩; clear s4)
    | (go_at_call 13; refine (s5 _ (hz2.drewN _)).mono ?_; rintro e v6 ⟨x6, c6, rfl, _, r6, b6⟩; have hz6 := (hz2.drewN _).kept b6; have B6 := bthen (below_drewN B2 _) b6; clear hz2 s5 B2 b6)
    | (go_at_call 14; refine (s6 _ hz6).mono ?_; rintro e v7 ⟨x7, c7, rfl, _, r7, b7⟩; have hz7 := hz6.kept b7; have q6 := r6.kept b7; have B7 := bthen B6 b7; clear hz6 s6 r6 B6 b7)
    | (go_at_call 8; refine (equal_rows _ _ _ _ S _ q6 r7 hl3).mono ?_; rintro e v8 ⟨rfl, d8, rfl⟩; clear q6 r7)
    | (go_at_call 15; refine (s7 _ (hz7.drewN _)).mono ?_; rintro e v9 ⟨rfl, rfl⟩; clear s7)
    | (go_at_call 16; refine (s8 _ (hz7.drewN _)).mono ?_; rintro e v10 ⟨rfl, rfl⟩; clear s8))
  go_ret
  exact ⟨by simp, below_drewN B7 _⟩

end Go.Proofs.Ytedcbchelliljaa
namespace Go.Proofs.Ytedcbchelliljaa.curveTells
open Go.ChangeShapes Go.WideShapes Go.ChangeAt Go.RowKit
set_option linter.unusedVariables false

set_option maxRecDepth 100000 in
theorem lifted (os : Os) (started : os.Started) (H : Type) (enc : TypeId × Value → H) :
    ReturnsInHanded {} Try.checked os 3 .any (Rows.curveTellsSpec.pre6 enc Try.prog Try.f3 Rows.curveTellsRow.domain false) (Rows.curveTellsSpec.post enc Try.prog Try.f3 false true false false) := by
  refine returnsInHanded_of_change_sized (C := Try.checked) own started (by kernel_rfl) Try.func3
    (ChangeSpec.witness6 (enc := enc) (C := Try.checked) false ⟨#[], #[.slice none 0 0, .int .i64 0], []⟩ 8 (by kernel_rfl) (by kernel_rfl) (by kernel_rfl) (by kernel_rfl)) ?_
  intro W base args ds gs before hval0 hW _ hsz0 _
  have hsz : (DataW.weightsEach Try.prog (Try.f3.params.toList ++ Rows.curveTellsSpec.plain.varTypes Try.prog) (ds ++ gs)).all (· ≤ reachBytes) = true := hsz0
  have hval : ∀ (j : Nat) t v, Try.f3.params[j]? = some t → args[j]? = some v → Value.okWide Try.prog W .any base t v := hval0
  have hW' := hW
  obtain ⟨p, q, hA0, hV, rfl, hfz, hnd⟩ := hW
  have hA : DataW.TrodAll enc Try.prog W 0 (fun _ => true) true Try.f3.params.toList args.toList ds p := hA0
  rw [Try.params3] at hA hval hsz
  obtain ⟨v0, vs0, d0, ds0, p0, q0, hargs, rfl, rfl, h0, r0⟩ := trodAll_cons hA
  obtain ⟨v1, vs1, d1, ds1, p1, q1, rfl, rfl, rfl, h1, r1⟩ := trodAll_cons r0
  obtain ⟨rfl, rfl, rfl⟩ := trodAll_nil r1
  obtain rfl : args = #[v0, v1] := by cases args; simp_all
  obtain ⟨rfl, rfl⟩ := trodVars_none hV
  obtain ⟨a0, len0, cap0, rfl⟩ := okWide_slice Try.underlying22 (hval 0 22 v0 rfl rfl)
  have k0 := h0
  have lt0 : ∀ x ∈ p0, x.block < W.heap.size := by obtain ⟨m, hm⟩ := k0; exact DataW.trod_lt m _ _ _ hm
  obtain ⟨z0, rfl, w0⟩ := farIn h0 (fun elems spare e => by
    subst e
    have := sized_slice hsz (j := 0) (t := 22) (e := 3) rfl rfl Try.underlying22
    rw [Try.bytes3] at this
    exact this)
  obtain ⟨a1, rfl, rfl, rfl, w1⟩ := open_int Try.underlying3 (hval 1 3 v1 rfl rfl) h1
  clear hA0 hval0 hsz0 hsz
  refine (curveTells_walk a0 cap0 z0 a1 W w0 (fits w1)).mono fun e W' ⟨he, bel⟩ => ?_
  subst he
  exact ⟨_, rfl, _, _, _, [], _, [], hW', trodAll_mk1 (shut_bool Try.underlying4 _), (trodAll_cons_mk (Below.trod laidOut (by kernel_rfl) (of_decide_eq_true (by kernel_rfl)) k0 bel lt0) (trodAll_cons_mk (shut_int Try.underlying3 w1) trodAll_mk0)), rfl, bel.frame _, fun h => by cases h⟩

theorem proved : Rows.CurveTellsSaid :=
  OpenClaim.holds_of_wide 3 Try.f3 rfl rfl rfl rfl rfl rfl rfl ⟨rfl, rfl, rfl, rfl, rfl⟩ rfl rfl rfl rfl rfl (by kernel_rfl) Try.func3 (by kernel_rfl)
    (of_decide_eq_true (by kernel_rfl)) (by unfold Func.isWrapper; first | (rw [if_pos (by decide +kernel)]; kernel_rfl) | (rw [if_neg (by decide +kernel)]; exact ⟨rfl, rfl⟩))
    (fun os started H enc _ => lifted os started H enc)

end Go.Proofs.Ytedcbchelliljaa.curveTells
namespace Go.Proofs.Ytedcbchelliljaa
theorem curveTells_holds : Rows.CurveTellsSaid := curveTells.proved
#print axioms curveTells_holds
end Go.Proofs.Ytedcbchelliljaa
