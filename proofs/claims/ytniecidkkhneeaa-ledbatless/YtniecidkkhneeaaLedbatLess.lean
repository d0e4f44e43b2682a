/- PROVED: of two delays behind the same control the longer one leaves no greater window, at every argument. CONDITIONS: none. -/
import Derived.Test.YtniecidkkhneeaaAlive
import Derived.Test.YtniecidkkhneeaaAgg
namespace Go.Proofs.Ytniecidkkhneeaa
open Go.RowKit
set_option linter.unusedVariables false

set_option maxHeartbeats 1600000 in
theorem less_of (k n b a s q x y u v K V B Q E K2 V2 B2 Q2 E2 : Int) (w : World) (hu : min x y = u) (hv : max x y = v) (h : nextC k n b a s q u = (K, V, B, Q, E)) (h2 : nextC k n b a s q v = (K2, V2, B2, Q2, E2)) (hE : E ≠ 0 ∨ E = 0 ∧ E2 ≠ 0 ∨ E = 0 ∧ E2 = 0 ∧ V2 ≤ V) :
    Calls Try.prog 5 #[.agg #[.int .i64 k, .int .i64 n, .int .i64 b, .int .i64 a, .int .i64 s, .int .i64 q], .int .i64 x, .int .i64 y] w fun e w' => e = .returned (.bool true) ∧ Below w.heap.size w w' := by
  have nx := fun v => next_any k n b a s q _ K V B Q E h v
  have ny := fun v => next_any k n b a s q _ K2 V2 B2 Q2 E2 h2 v
  clear h h2
  have X := Ctl.new w _ rfl k n b a s q
  have T1 := tok
  have T2 := tok
  rcases hE with hE | ⟨rfl, hE⟩ | ⟨rfl, rfl, hE⟩
  all_goals
    go_enter Try.func5, Try.ntmps5
    go_wp2_with (first
      | (go_at_call 13; refine (alive_any _).mono ?_; rintro e v1 ⟨rfl, b1⟩; replace X := X.kept b1; obtain ⟨c0, c1, c2, c3, c4, c5, f0, f1, f2, f3, f4, f5⟩ := X; replace b1 := up1 b1)
      | (clear T1; go_at_call 8; refine (nx _).mono ?_; rintro e v2 ⟨rfl, b2⟩; clear nx; have X2 := (Ctl.kept ⟨c0, c1, c2, c3, c4, c5, f0, f1, f2, f3, f4, f5⟩ b2); clear c0 c1 c2 c3 c4 c5 f0 f1 f2 f3 f4 f5; obtain ⟨c0, c1, c2, c3, c4, c5, f0, f1, f2, f3, f4, f5⟩ := X2; have z2 : w.heap.size < v2.heap.size := block_lt c0; replace b1 := bthen b1 b2; have Y := Ctl.new v2 _ rfl K V B 0 0 Q)
      | (clear T2; go_at_call 8; refine (ny _).mono ?_; rintro e v3 ⟨rfl, b3⟩; clear ny; have Y2 := Y.kept b3; clear Y; obtain ⟨d0, d1, d2, d3, d4, d5, g0, g1, g2, g3, g4, g5⟩ := Y2; have z4 : v2.heap.size < v3.heap.size := block_lt d0; replace b1 := bthen b1 (up1 b3)))
    go_ret
    exact ⟨rfl, balloc b1 _⟩

theorem ledbatLess_walk (k0 n0 b0 d0w s0 q0 : Int) (a1 a2 : Int) (w : World) (w1 : -9223372036854775808 ≤ a1 ∧ a1 ≤ 9223372036854775807) (w2 : -9223372036854775808 ≤ a2 ∧ a2 ≤ 9223372036854775807) :
    Calls Try.prog 5 #[.agg #[.int .i64 k0, .int .i64 n0, .int .i64 b0, .int .i64 d0w, .int .i64 s0, .int .i64 q0], .int .i64 a1, .int .i64 a2] w fun e w' => e = .returned (.bool true) ∧ Below w.heap.size w w' := by
  by_cases h1 : mright k0 n0 b0 d0w s0 q0
  · have hN : ∀ x, inr x → nextC k0 n0 b0 d0w s0 q0 x = (3, ct n0 q0 (x - nb b0 x) / 4, nb b0 x, ct n0 q0 (x - nb b0 x) % 4, 0) := fun x hx => by unfold nextC; rw [if_pos h1, if_pos hx]
    have hR : ∀ x, ¬ inr x → nextC k0 n0 b0 d0w s0 q0 x = (0, 0, 0, 0, 2) := fun x hx => by unfold nextC; rw [if_pos h1, if_neg hx]
    by_cases h2 : inr (min a1 a2)
    · by_cases h3 : inr (max a1 a2)
      · exact less_of _ _ _ _ _ _ _ _ _ _ _ _ _ _ _ _ _ _ _ _ w rfl rfl (hN _ h2) (hN _ h3) (.inr (.inr ⟨rfl, rfl, ct_less (by omega)⟩))
      · exact less_of _ _ _ _ _ _ _ _ _ _ _ _ _ _ _ _ _ _ _ _ w rfl rfl (hN _ h2) (hR _ h3) (.inr (.inl ⟨rfl, by decide⟩))
    · exact less_of _ _ _ _ _ _ _ _ _ _ _ _ _ _ _ _ _ _ _ _ w rfl rfl (hR _ h2) rfl (.inl (by decide))
  · have hF : ∀ x, nextC k0 n0 b0 d0w s0 q0 x = (0, 0, 0, 0, 1) := fun x => by unfold nextC; rw [if_neg h1]
    exact less_of _ _ _ _ _ _ _ _ _ _ _ _ _ _ _ _ _ _ _ _ w rfl rfl (hF _) (hF _) (.inl (by decide))

end Go.Proofs.Ytniecidkkhneeaa
namespace Go.Proofs.Ytniecidkkhneeaa.ledbatLess
open Go.ChangeShapes Go.WideShapes Go.ChangeAt Go.RowKit
set_option linter.unusedVariables false

set_option maxRecDepth 100000 in
theorem lifted (os : Os) (started : os.Started) (H : Type) (enc : TypeId × Value → H) :
    ReturnsInHanded {} Try.checked os 5 .any (Rows.ledbatLessSpec.pre6 enc Try.prog Try.f5 Rows.ledbatLessRow.domain false) (Rows.ledbatLessSpec.post enc Try.prog Try.f5 false true false false) := by
  refine returnsInHanded_of_change_sized (C := Try.checked) own started (by kernel_rfl) Try.func5
    (ChangeSpec.witness6 (enc := enc) (C := Try.checked) false ⟨#[], #[.agg #[.int .i64 0, .int .i64 0, .int .i64 0, .int .i64 0, .int .i64 0, .int .i64 0], .int .i64 0, .int .i64 0], []⟩ 8 (by kernel_rfl) (by kernel_rfl) (by kernel_rfl) (by kernel_rfl)) ?_
  intro W base args ds gs before hval0 hW _ hsz0 _
  have hsz : (DataW.weightsEach Try.prog (Try.f5.params.toList ++ Rows.ledbatLessSpec.plain.varTypes Try.prog) (ds ++ gs)).all (· ≤ reachBytes) = true := hsz0
  have hval : ∀ (j : Nat) t v, Try.f5.params[j]? = some t → args[j]? = some v → Value.okWide Try.prog W .any base t v := hval0
  have hW' := hW
  obtain ⟨p, q, hA0, hV, rfl, hfz, hnd⟩ := hW
  have hA : DataW.TrodAll enc Try.prog W 0 (fun _ => true) true Try.f5.params.toList args.toList ds p := hA0
  rw [Try.params5] at hA hval hsz
  obtain ⟨v0, vs0, d0, ds0, p0, q0, hargs, rfl, rfl, h0, r0⟩ := trodAll_cons hA
  obtain ⟨v1, vs1, d1, ds1, p1, q1, rfl, rfl, rfl, h1, r1⟩ := trodAll_cons r0
  obtain ⟨v2, vs2, d2, ds2, p2, q2, rfl, rfl, rfl, h2, r2⟩ := trodAll_cons r1
  obtain ⟨rfl, rfl, rfl⟩ := trodAll_nil r2
  obtain rfl : args = #[v0, v1, v2] := by cases args; simp_all
  obtain ⟨rfl, rfl⟩ := trodVars_none hV
  obtain ⟨k0, n0, b0, d0w, s0, q0, rfl, rfl, rfl, wk0, wn0, wb0, wd0, ws0, wq0⟩ := openC (hval 0 23 v0 rfl rfl) h0
  obtain ⟨a1, rfl, rfl, rfl, w1⟩ := open_int Try.underlying3 (hval 1 3 v1 rfl rfl) h1
  obtain ⟨a2, rfl, rfl, rfl, w2⟩ := open_int Try.underlying3 (hval 2 3 v2 rfl rfl) h2
  clear hA0 hval0 hsz0 hsz
  refine (ledbatLess_walk k0 n0 b0 d0w s0 q0 a1 a2 W (fits w1) (fits w2)).mono fun e W' ⟨he, bel⟩ => ?_
  subst he
  exact ⟨_, rfl, _, _, _, [], _, [], hW', trodAll_mk1 (shut_bool Try.underlying4 _), (trodAll_cons_mk (shutC wk0 wn0 wb0 wd0 ws0 wq0) (trodAll_cons_mk (shut_int Try.underlying3 w1) (trodAll_cons_mk (shut_int Try.underlying3 w2) trodAll_mk0))), rfl, bel.frame _, fun h => by cases h⟩

theorem proved : Rows.LedbatLessSaid :=
  OpenClaim.holds_of_wide 5 Try.f5 rfl rfl rfl rfl rfl rfl rfl ⟨rfl, rfl, rfl, rfl, rfl⟩ rfl rfl rfl rfl rfl (by kernel_rfl) Try.func5 (by kernel_rfl)
    (of_decide_eq_true (by kernel_rfl)) (by unfold Func.isWrapper; first | (rw [if_pos (by decide +kernel)]; kernel_rfl) | (rw [if_neg (by decide +kernel)]; exact ⟨rfl, rfl⟩))
    (fun os started H enc _ => lifted os started H enc)

end Go.Proofs.Ytniecidkkhneeaa.ledbatLess
namespace Go.Proofs.Ytniecidkkhneeaa
theorem ledbatLess_holds : Rows.LedbatLessSaid := ledbatLess.proved
#print axioms ledbatLess_holds
end Go.Proofs.Ytniecidkkhneeaa
