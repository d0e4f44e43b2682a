/- PROVED: tidewaitkeep.LinkFair answers true at every input: who sends as much as the other loses no more, but for one, where nobody waits. CONDITIONS: none. -/
import Derived.Test.YtacgfalgifgkoaaAlive
import Derived.Test.YtacgfalgifgkoaaFar
import Derived.Test.YtacgfalgifgkoaaNums
namespace Go.Proofs.Ytacgfalgifgkoaa
open Go.RowKit
set_option linter.unusedVariables false

set_option maxHeartbeats 1600000 in
theorem fair_yes (r m n c0 c1 l0 l1 k0 k1 : Int) (w : World) (p : ∀ v, Calls Try.prog 7 #[.int .i64 r, .int .i64 m, .agg #[.int .i64 0, .int .i64 0], .agg #[.int .i64 n, .int .i64 n]] v (Ans v n n c0 c1 l0 l1 k0 k1 0))
    (hc0 : 0 ≤ c0 ∧ c0 ≤ 100) (hc1 : 0 ≤ c1 ∧ c1 ≤ 100) (hl0 : 0 ≤ l0 ∧ l0 ≤ 100) (hl1 : 0 ≤ l1 ∧ l1 ≤ 100) (hk0 : 0 ≤ k0 ∧ k0 ≤ 100) (hk1 : 0 ≤ k1 ∧ k1 ≤ 100)
    (h1 : 0 ≤ c0 - c1) (h2 : c0 - c1 ≤ 1) (h3 : 0 ≤ l1 - l0) (h4 : l1 - l0 ≤ 1) (x : Int) (hx : k0 - k1 = x) (hx1 : x = -1 ∨ x = 0 ∨ x = 1) :
    Calls Try.prog 5 #[.int .i64 r, .int .i64 m, .int .i64 n] w fun e w' => e = .returned (.bool true) ∧ Below w.heap.size w w' := by
  rcases hx1 with rfl | rfl | rfl
  all_goals
    have T1 := tok
    go_enter Try.func5, Try.ntmps5
    go_wp2_with (first
      | (clear T1; go_at_call 11; refine (alive_any _).mono ?_; rintro e v1 ⟨rfl, b1⟩)
      | (go_at_call 7; refine (p _).mono ?_; clear p; rintro e v2 ⟨rfl, b2⟩))
    go_quiet (fail)
    go_wp2
    go_ret
    exact ⟨rfl, below_drewN (balloc (balloc (bthen b1 b2) _) _) _⟩

set_option maxHeartbeats 1600000 in
theorem fair_no (r m n : Int) (w : World) (p : ∀ v, Calls Try.prog 7 #[.int .i64 r, .int .i64 m, .agg #[.int .i64 0, .int .i64 0], .agg #[.int .i64 n, .int .i64 n]] v (Ans v 0 0 0 0 0 0 0 0 2)) :
    Calls Try.prog 5 #[.int .i64 r, .int .i64 m, .int .i64 n] w fun e w' => e = .returned (.bool true) ∧ Below w.heap.size w w' := by
  have T1 := tok
  go_enter Try.func5, Try.ntmps5
  go_wp2_with (first
    | (clear T1; go_at_call 11; refine (alive_any _).mono ?_; rintro e v1 ⟨rfl, b1⟩)
    | (go_at_call 7; refine (p _).mono ?_; clear p; rintro e v2 ⟨rfl, b2⟩))
  go_ret
  exact ⟨rfl, balloc (balloc (bthen b1 b2) _) _⟩

theorem linkFair_walk (a0 a1 a2 : Int) (w : World) (w0 : -9223372036854775808 ≤ a0 ∧ a0 ≤ 9223372036854775807) (w1 : -9223372036854775808 ≤ a1 ∧ a1 ≤ 9223372036854775807) (w2 : -9223372036854775808 ≤ a2 ∧ a2 ≤ 9223372036854775807) :
    Calls Try.prog 5 #[.int .i64 a0, .int .i64 a1, .int .i64 a2] w fun e w' => e = .returned (.bool true) ∧ Below w.heap.size w w' := by
  by_cases h : lr a0 a1 0 0 a2 a2
  · obtain ⟨f1, f2, f3, f4, f5, f6⟩ := fair_is a0 a1 a2 h
    obtain ⟨i1, i2, i3, i4, i5, i6⟩ := inside a0 a1 0 0 a2 a2 h
    exact fair_yes a0 a1 a2 _ _ _ _ _ _ w (fun v => pass_yes a0 a1 0 0 a2 a2 h v) i1 i2 i3 i4 i5 i6 f1 f2 f3 f4 _ rfl (by omega)
  · exact fair_no a0 a1 a2 w (fun v => pass_no a0 a1 0 0 a2 a2 h v)

end Go.Proofs.Ytacgfalgifgkoaa
namespace Go.Proofs.Ytacgfalgifgkoaa.linkFair
open Go.ChangeShapes Go.WideShapes Go.ChangeAt Go.RowKit
set_option linter.unusedVariables false

set_option maxRecDepth 100000 in
theorem lifted (os : Os) (started : os.Started) (H : Type) (enc : TypeId × Value → H) :
    ReturnsInHanded {} Try.checked os 5 .any (Rows.linkFairSpec.pre6 enc Try.prog Try.f5 Rows.linkFairRow.domain false) (Rows.linkFairSpec.post enc Try.prog Try.f5 false true false false) := by
  refine returnsInHanded_of_change_sized (C := Try.checked) own started (by kernel_rfl) Try.func5
    (ChangeSpec.witness6 (enc := enc) (C := Try.checked) false ⟨#[], #[.int .i64 0, .int .i64 0, .int .i64 0], []⟩ 8 (by kernel_rfl) (by kernel_rfl) (by kernel_rfl) (by kernel_rfl)) ?_
  intro W base args ds gs before hval0 hW _ hsz0 _
  have hsz : (DataW.weightsEach Try.prog (Try.f5.params.toList ++ Rows.linkFairSpec.plain.varTypes Try.prog) (ds ++ gs)).all (· ≤ reachBytes) = true := hsz0
  have hval : ∀ (j : Nat) t v, Try.f5.params[j]? = some t → args[j]? = some v → Value.okWide Try.prog W .any base t v := hval0
  have hW' := hW
  obtain ⟨p, q, hA0, hV, rfl, hfz, hnd⟩ := hW
  have hA : DataW.TrodAll enc Try.prog W 0 (fun _ => true) true Try.f5.params.toList args.toList ds p := hA0
  rw [Try.params5] at hA hval hsz
  obtain ⟨v0, vs0, d0, ds0, p0, q0, hargs, rfl, rfl, h0, r0⟩ := trodAll_cons hA
  obtain ⟨v1, vs1, d1, ds1, p1, q1, rfl, rfl, rfl, h1, r1⟩ := trodAll_cons r0
  obtain ⟨v2, vs2, d2, ds2, p2, q2, rfl, rfl, rfl, h2, r2⟩ := trodAll_cons r1
  obtain ⟨rfl, rfl, rfl⟩ := trodAll_nil r2
  obtain rfl : args = #[v0, v1, v2] := by cases args; simp_all
  obtain ⟨rfl, rfl⟩ := trodVars_none hV
  obtain ⟨a0, rfl, rfl, rfl, w0⟩ := open_int Try.underlying3 (hval 0 3 v0 rfl rfl) h0
  obtain ⟨a1, rfl, rfl, rfl, w1⟩ := open_int Try.underlying3 (hval 1 3 v1 rfl rfl) h1
  obtain ⟨a2, rfl, rfl, rfl, w2⟩ := open_int Try.underlying3 (hval 2 3 v2 rfl rfl) h2
  clear hA0 hval0 hsz0 hsz
  refine (linkFair_walk a0 a1 a2 W (fits w0) (fits w1) (fits w2)).mono fun e W' ⟨he, bel⟩ => ?_
  subst he
  exact ⟨_, rfl, _, _, _, [], _, [], hW', trodAll_mk1 (shut_bool Try.underlying4 _), (trodAll_cons_mk (shut_int Try.underlying3 w0) (trodAll_cons_mk (shut_int Try.underlying3 w1) (trodAll_cons_mk (shut_int Try.underlying3 w2) trodAll_mk0))), rfl, bel.frame _, fun h => by cases h⟩

theorem proved : Rows.LinkFairSaid :=
  OpenClaim.holds_of_wide 5 Try.f5 rfl rfl rfl rfl rfl rfl rfl ⟨rfl, rfl, rfl, rfl, rfl⟩ rfl rfl rfl rfl rfl (by kernel_rfl) Try.func5 (by kernel_rfl)
    (of_decide_eq_true (by kernel_rfl)) (by unfold Func.isWrapper; first | (rw [if_pos (by decide +kernel)]; kernel_rfl) | (rw [if_neg (by decide +kernel)]; exact ⟨rfl, rfl⟩))
    (fun os started H enc _ => lifted os started H enc)

end Go.Proofs.Ytacgfalgifgkoaa.linkFair
namespace Go.Proofs.Ytacgfalgifgkoaa
theorem linkFair_holds : Rows.LinkFairSaid := linkFair.proved
#print axioms linkFair_holds
end Go.Proofs.Ytacgfalgifgkoaa
