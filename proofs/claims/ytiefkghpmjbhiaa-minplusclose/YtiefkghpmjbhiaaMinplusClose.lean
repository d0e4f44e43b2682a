/- PROVED: minplus.Close and Parts answer what E2 says, at every argument. CONDITIONS: none. -/
import Derived.Test.YtiefkghpmjbhiaaLast
namespace Go.Proofs.Ytiefkghpmjbhiaa
open Go.RowKit
set_option linter.unusedVariables false

set_option maxHeartbeats 4000000 in
theorem close_go (a0 : Option Addr) (cap0 n : Nat) (z0 : List Int) (w : World) (r0 : Row w a0 z0) (e0 : z0.length = n) (hn : n ≤ 17592186044416) (hl : n ≤ 17592186044415) (hm : n ≤ 35184372088832) (k0 : n ≤ cap0) (C : List Int) (hC : Hid (close z0 = C)) (lC : C.length = n) (b : Bool) (hP : Hid (decide (parts z0) = b)) :
    Calls Try.prog 4 #[.slice a0 n cap0] w fun e w' => e = .returned (.bool true) ∧ Below w.heap.size w w' := by
  have B : Below w.heap.size w w := Below.refl _ _
  have T1 := tok
  have T2 := tok
  have T3 := tok
  have T4 := tok
  have T5 := tok
  go_enter Try.func4, Try.ntmps4
  go_wp2_with (first
      | (clear T1; go_at_call 16; refine (close_r _ _ n z0 C hC.out _ (r0.kept B) e0 hn).mono ?_; rintro e v1 ⟨x1, d1, rfl, l1, p1, b1⟩; replace B := bthen B b1; clear b1)
      | (clear T2; go_at_call 17; refine (eclose_r _ _ n z0 C hC.out _ (r0.kept B) e0 hl k0).mono ?_; rintro e v2 ⟨x2, d2, rfl, l2, p2, b2⟩; replace B := bthen B b2; replace p1 := p1.kept b2; clear b2)
      | (clear T3; go_at_call 9; refine (equal_open _ _ _ _ n C _ p1 p2 lC hm).mono ?_; rintro e v3 ⟨rfl, b3⟩; replace B := bthen B b3; clear b3 p1 p2)
      | (clear T4; go_at_call 18; refine (parts_n _ _ n z0 _ (r0.kept B) e0 hn b hP.out).mono ?_; rintro e v4 ⟨rfl, b4⟩; replace B := bthen B b4; clear b4)
      | (clear T5; go_at_call 19; refine (eparts_n _ _ n z0 _ (r0.kept B) e0 hn b hP.out).mono ?_; rintro e v5 ⟨rfl, b5⟩; replace B := bthen B b5; clear b5))
  go_ret
  exact ⟨by simp, B⟩

set_option maxHeartbeats 1600000 in
theorem minplusClose_walk (a0 : Option Addr) (cap0 : Nat) (z0 : List Int) (w : World) (h0 : FarIn w a0 cap0 z0) :
    Calls Try.prog 4 #[.slice a0 z0.length cap0] w fun e w' => e = .returned (.bool true) ∧ Below w.heap.size w w' := by
  obtain ⟨r0, l0, k0, _⟩ := h0
  exact close_go a0 cap0 _ z0 w r0 rfl (by omega) (by omega) (by omega) k0 _ rfl (close_len _) _ rfl

end Go.Proofs.Ytiefkghpmjbhiaa
namespace Go.Proofs.Ytiefkghpmjbhiaa.minplusClose
open Go.ChangeShapes Go.WideShapes Go.ChangeAt Go.RowKit
set_option linter.unusedVariables false

set_option maxRecDepth 100000 in
theorem lifted (os : Os) (started : os.Started) (H : Type) (enc : TypeId × Value → H) :
    ReturnsInHanded {} Try.checked os 4 .any (Rows.minplusCloseSpec.pre6 enc Try.prog Try.f4 Rows.minplusCloseRow.domain false) (Rows.minplusCloseSpec.post enc Try.prog Try.f4 false true false false) := by
  refine returnsInHanded_of_change_sized (C := Try.checked) own started (by kernel_rfl) Try.func4
    (ChangeSpec.witness6 (enc := enc) (C := Try.checked) false ⟨#[], #[.slice none 0 0], []⟩ 8 (by kernel_rfl) (by kernel_rfl) (by kernel_rfl) (by kernel_rfl)) ?_
  intro W base args ds gs before hval0 hW _ hsz0 _
  have hsz : (DataW.weightsEach Try.prog (Try.f4.params.toList ++ Rows.minplusCloseSpec.plain.varTypes Try.prog) (ds ++ gs)).all (· ≤ reachBytes) = true := hsz0
  have hval : ∀ (j : Nat) t v, Try.f4.params[j]? = some t → args[j]? = some v → Value.okWide Try.prog W .any base t v := hval0
  have hW' := hW
  obtain ⟨p, q, hA0, hV, rfl, hfz, hnd⟩ := hW
  have hA : DataW.TrodAll enc Try.prog W 0 (fun _ => true) true Try.f4.params.toList args.toList ds p := hA0
  rw [Try.params4] at hA hval hsz
  obtain ⟨v0, vs0, d0, ds0, p0, q0, hargs, rfl, rfl, h0, r0⟩ := trodAll_cons hA
  obtain ⟨rfl, rfl, rfl⟩ := trodAll_nil r0
  obtain rfl : args = #[v0] := by cases args; simp_all
  obtain ⟨rfl, rfl⟩ := trodVars_none hV
  obtain ⟨a0, len0, cap0, rfl⟩ := okWide_slice Try.underlying22 (hval 0 22 v0 rfl rfl)
  have k0 := h0
  have lt0 : ∀ x ∈ p0, x.block < W.heap.size := by obtain ⟨m, hm⟩ := k0; exact DataW.trod_lt m _ _ _ hm
  obtain ⟨z0, rfl, w0⟩ := farIn h0 (fun elems spare e => by
    subst e
    have := sized_slice hsz (j := 0) (t := 22) (e := 3) rfl rfl Try.underlying22
    rw [Try.bytes3] at this
    exact this)
  clear hA0 hval0 hsz0 hsz
  refine (minplusClose_walk a0 cap0 z0 W w0).mono fun e W' ⟨he, bel⟩ => ?_
  subst he
  exact ⟨_, rfl, _, _, _, [], _, [], hW', trodAll_mk1 (shut_bool Try.underlying4 _), (trodAll_cons_mk (Below.trod laidOut (by kernel_rfl) (of_decide_eq_true (by kernel_rfl)) k0 bel lt0) trodAll_mk0), rfl, bel.frame _, fun h => by cases h⟩

theorem proved : Rows.MinplusCloseSaid :=
  OpenClaim.holds_of_wide 4 Try.f4 rfl rfl rfl rfl rfl rfl rfl ⟨rfl, rfl, rfl, rfl, rfl⟩ rfl rfl rfl rfl rfl (by kernel_rfl) Try.func4 (by kernel_rfl)
    (of_decide_eq_true (by kernel_rfl)) (by unfold Func.isWrapper; first | (rw [if_pos (by decide +kernel)]; kernel_rfl) | (rw [if_neg (by decide +kernel)]; exact ⟨rfl, rfl⟩))
    (fun os started H enc _ => lifted os started H enc)

end Go.Proofs.Ytiefkghpmjbhiaa.minplusClose
namespace Go.Proofs.Ytiefkghpmjbhiaa
theorem minplusClose_holds : Rows.MinplusCloseSaid := minplusClose.proved
#print axioms minplusClose_holds
end Go.Proofs.Ytiefkghpmjbhiaa
