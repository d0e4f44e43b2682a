/-
  PROVED: for all ints a, b and c the law NumMulDiv over num.MulDiv and num.Fit returns true: what is rounded down is the greatest that fits, and it rises with what is multiplied (at numbers cut to 30 bits, as the law cuts them). CONDITIONS: none; nothing that was in memory is changed.
-/
import Derived.Test.YtminaoacefdmjaaRows
import Derived.WalkKit
import Derived.Test.YtminaoacefdmjaaWalks
import Derived.ProofKit
import Derived.OpenShut
namespace Go.Proofs.Ytminaoacefdmjaa.numMulDiv
open Go.ChangeShapes Go.WideShapes Go.ChangeAt Go.RowKit
set_option linter.unusedVariables false

theorem own : ownKnob Try.prog.godebug = none := by kernel_rfl

/-! ### The walk. -/
theorem walk (a0 : Int) (a1 : Int) (a2 : Int) (w0 : (Lit.int .i64 a0).wf = true) (w1 : (Lit.int .i64 a1).wf = true) (w2 : (Lit.int .i64 a2).wf = true) (w : World) :
    Calls Try.prog 6 #[.int .i64 a0, .int .i64 a1, .int .i64 a2] w fun e w' => e = .returned (.bool true) ∧ Grown w w' := by
  have ha0 := TwNum.fit_lo a0
  have hb0 := TwNum.fit_lo a1
  have hc0 := TwNum.fit_lo a2
  have ha1 := TwNum.fit_hi a0
  have hb1 := TwNum.fit_hi a1
  have hc1 := TwNum.fit_hi a2
  have pA0 : 0 ≤ TwNum.fit a0 % 1073741824 := by omega
  have pB0 : 0 ≤ TwNum.fit a1 % 1073741824 := by omega
  have pC0 : 0 ≤ TwNum.fit a2 % 1073741824 := by omega
  have pA1 : TwNum.fit a0 % 1073741824 < 1073741824 := by omega
  have pB1 : TwNum.fit a1 % 1073741824 < 1073741824 := by omega
  have pC1 : TwNum.fit a2 % 1073741824 < 1073741824 := by omega
  by_cases hz : TwNum.fit a2 % 1073741824 = 0
  · have tz : (TwNum.fit a2 % 1073741824 == 0) = true := by simpa using hz
    have tq : (TwNum.muldiv (TwNum.fit a0 % 1073741824) (TwNum.fit a1 % 1073741824) (TwNum.fit a2 % 1073741824) == 1152921504606846976) = true := by
      rw [hz]; simpa using TwNum.muldiv_zero _ _
    clear hz
    go_enter Try.func6, Try.ntmps6
    go_wp2_with (first | (go_at_call 7; refine (fit_any _ _).mono ?_; rintro e w' ⟨rfl, rfl⟩) | (go_at_call 13; refine (muldiv_small _ _ _ _ (TwNum.small_mul (by omega) (by omega))).mono ?_; rintro e w' ⟨rfl, n1, rfl⟩) | (go_at_call 15; refine (alive_any _).mono ?_; rintro e w' ⟨rfl, n, rfl⟩))
    go_ret
    exact ⟨rfl, grown_drewN _ _⟩
  · have tz : (TwNum.fit a2 % 1073741824 == 0) = false := by simpa using hz
    have pC2 : 0 < TwNum.fit a2 % 1073741824 := by omega
    have e1 := TwNum.muldiv_ediv pA0 pA1 pB0 pB1 pC2 (by omega)
    have e2 := TwNum.muldiv_up pA0 pA1 pB0 pB1 pC2 (by omega)
    have e3 := TwNum.muldiv_one pA0 pA1 pB0 pB1
    have e4 := TwNum.muldiv_comm (TwNum.fit a1 % 1073741824) (TwNum.fit a0 % 1073741824) (TwNum.fit a2 % 1073741824)
    have pP0 : 0 ≤ TwNum.fit a0 % 1073741824 * (TwNum.fit a1 % 1073741824) := Int.mul_nonneg pA0 pB0
    have pP1 : TwNum.fit a0 % 1073741824 * (TwNum.fit a1 % 1073741824) ≤ 1152921504606846976 := TwNum.mul_le30 pA1 pB1 pB0
    have t1 : (TwNum.muldiv (TwNum.fit a0 % 1073741824) (TwNum.fit a1 % 1073741824) (TwNum.fit a2 % 1073741824) == TwNum.fit a0 % 1073741824 * (TwNum.fit a1 % 1073741824) / (TwNum.fit a2 % 1073741824)) = true := by simpa using e1
    have t3 : (TwNum.muldiv (TwNum.fit a0 % 1073741824) (TwNum.fit a1 % 1073741824) 1 == TwNum.fit a0 % 1073741824 * (TwNum.fit a1 % 1073741824)) = true := by simpa using e3
    have t4 : (TwNum.muldiv (TwNum.fit a1 % 1073741824) (TwNum.fit a0 % 1073741824) (TwNum.fit a2 % 1073741824) == TwNum.muldiv (TwNum.fit a0 % 1073741824) (TwNum.fit a1 % 1073741824) (TwNum.fit a2 % 1073741824)) = true := by simpa using e4
    clear e1 e3 e4 hz
    go_enter Try.func6, Try.ntmps6
    go_wp2_with (first | (go_at_call 7; refine (fit_any _ _).mono ?_; rintro e w' ⟨rfl, rfl⟩) | (go_at_call 13; refine (muldiv_small _ _ _ _ (TwNum.small_mul (by omega) (by omega))).mono ?_; rintro e w' ⟨rfl, n1, rfl⟩) | (go_at_call 15; refine (alive_any _).mono ?_; rintro e w' ⟨rfl, n, rfl⟩))
    go_ret
    exact ⟨rfl, grown_drewN _ _⟩

/-! ### The row. -/
set_option maxRecDepth 100000 in
theorem lifted (os : Os) (started : os.Started) (H : Type) (enc : TypeId × Value → H) :
    ReturnsInHanded {} Try.checked os 6 .any (Rows.numMulDivSpec.pre6 enc Try.prog Try.f6 Rows.numMulDivRow.domain false) (Rows.numMulDivSpec.post enc Try.prog Try.f6 false true false false) := by
  refine returnsInHanded_of_change (C := Try.checked) own started (by kernel_rfl) Try.func6
    (ChangeSpec.witness6 (enc := enc) (C := Try.checked) false ⟨#[], #[.int .i64 0, .int .i64 0, .int .i64 0], []⟩ 8 (by kernel_rfl) (by kernel_rfl) (by kernel_rfl) (by kernel_rfl)) ?_
  intro W base args ds gs before hval0 hW hcnd _
  have hval : ∀ (j : Nat) t v, Try.f6.params[j]? = some t → args[j]? = some v → Value.okWide Try.prog W .any base t v := hval0
  have hW' := hW
  obtain ⟨p, q, hA0, hV, rfl, hfz, hnd⟩ := hW
  have hA : DataW.TrodAll enc Try.prog W 0 (fun _ => true) true Try.f6.params.toList args.toList ds p := hA0
  rw [Try.params6] at hA hval
  obtain ⟨v0, vs0, d0, ds0, p0, q0, hargs, rfl, rfl, h0, r0⟩ := trodAll_cons hA
  obtain ⟨v1, vs1, d1, ds1, p1, q1, rfl, rfl, rfl, h1, r1⟩ := trodAll_cons r0
  obtain ⟨v2, vs2, d2, ds2, p2, q2, rfl, rfl, rfl, h2, r2⟩ := trodAll_cons r1
  obtain ⟨rfl, rfl, rfl⟩ := trodAll_nil r2
  obtain rfl : args = #[v0, v1, v2] := by cases args; simp_all
  obtain ⟨rfl, rfl⟩ := trodVars_none hV
  obtain ⟨a0, rfl, rfl, rfl, w0⟩ := open_int Try.underlying3 (hval 0 3 v0 rfl rfl) h0
  obtain ⟨a1, rfl, rfl, rfl, w1⟩ := open_int Try.underlying3 (hval 1 3 v1 rfl rfl) h1
  obtain ⟨a2, rfl, rfl, rfl, w2⟩ := open_int Try.underlying3 (hval 2 3 v2 rfl rfl) h2
  clear hA0 hval0
  simp only [List.append_nil] at hW'
  refine (walk a0 a1 a2 w0 w1 w2 W).mono fun e W' ⟨he, hg⟩ => ?_
  subst he
  exact ⟨_, rfl, post_of_same (pa := []) (pv := []) hW' (fun _ _ _ => (trodAll_cons_mk (shut_bool Try.underlying4 _) trodAll_mk0)) (fun sp _ => (trodAll_cons_mk (shut_int Try.underlying3 w0) (trodAll_cons_mk (shut_int Try.underlying3 w1) (trodAll_cons_mk (shut_int Try.underlying3 w2) trodAll_mk0)))) (fun _ _ => rfl) rfl
    (hg.frame _) hg.2.1 (ok_one (by kernel_rfl) rfl (okWide_bool_mk Try.underlying4 _))⟩

theorem over : Rows.numMulDivRow.holds Try.pinned (OpenSpec.ofChange Rows.numMulDivSpec) :=
  OpenClaim.holds_of_wide 6 Try.f6 rfl rfl rfl rfl rfl rfl rfl ⟨rfl, rfl, rfl, rfl, rfl⟩ rfl rfl rfl rfl rfl (by kernel_rfl) Try.func6 (by kernel_rfl)
    (of_decide_eq_true (by kernel_rfl)) (by unfold Func.isWrapper; first | (rw [if_pos (by decide +kernel)]; kernel_rfl) | (rw [if_neg (by decide +kernel)]; exact ⟨rfl, rfl⟩))
    (fun os started H enc _ => lifted os started H enc)

theorem proved : Rows.NumMulDivSaid :=
  over
end Go.Proofs.Ytminaoacefdmjaa.numMulDiv
namespace Go.Proofs.Ytminaoacefdmjaa
theorem numMulDiv_holds : Rows.NumMulDivSaid := numMulDiv.proved
#print axioms numMulDiv_holds
end Go.Proofs.Ytminaoacefdmjaa
