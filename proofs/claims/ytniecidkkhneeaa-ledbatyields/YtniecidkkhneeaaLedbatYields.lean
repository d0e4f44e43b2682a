/- PROVED: who waits longer than it aims at has less in flight, who waits less has more, up to both ends, at every argument. CONDITIONS: none. -/
import Derived.Test.YtniecidkkhneeaaAlive
import Derived.Test.YtniecidkkhneeaaAgg
namespace Go.Proofs.Ytniecidkkhneeaa
open Go.RowKit
set_option linter.unusedVariables false

set_option maxHeartbeats 1600000 in
theorem yields_no (k n b a s q d K V B Q E : Int) (w : World) (h : nextC k n b a s q d = (K, V, B, Q, E)) (hE : E ≠ 0) :
    Calls Try.prog 7 #[.agg #[.int .i64 k, .int .i64 n, .int .i64 b, .int .i64 a, .int .i64 s, .int .i64 q], .int .i64 d] w fun e w' => e = .returned (.bool true) ∧ Below w.heap.size w w' := by
  have nx := fun v => next_any k n b a s q d K V B Q E h v
  clear h
  have X := Ctl.new w _ rfl k n b a s q
  go_enter Try.func7, Try.ntmps7
  go_wp2_with (first
    | (go_at_call 13; refine (alive_any _).mono ?_; rintro e v1 ⟨rfl, b1⟩; replace X := X.kept b1; obtain ⟨c0, c1, c2, c3, c4, c5, f0, f1, f2, f3, f4, f5⟩ := X; replace b1 := up1 b1)
    | (go_at_call 8; refine (nx _).mono ?_; rintro e v2 ⟨rfl, b2⟩; clear nx; replace b1 := bthen b1 b2))
  go_ret
  exact ⟨rfl, balloc b1 _⟩

set_option maxHeartbeats 1600000 in
theorem yields_of (k n b a s q d K V B Q u v x : Int) (w : World) (h : nextC k n b a s q d = (K, V, B, Q, 0)) (hn : 1 ≤ n ∧ n ≤ 12) (hq : 0 ≤ q ∧ q ≤ 3) (hV : 1 ≤ V ∧ V ≤ 12) (hQ : 0 ≤ Q ∧ Q ≤ 3) (hd : 0 ≤ d ∧ d ≤ 1099511627776) (hB : 0 ≤ B ∧ B ≤ 1099511627776) (hu : 4 * n + q = u) (hv : 4 * V + Q = v) (hx : d - B = x)
    (hT : decide (2 < x) = true ∧ decide (v < u) = true ∨ decide (2 < x) = true ∧ decide (v < u) = false ∧ (u == 4) = true ∨ decide (2 < x) = false ∧ decide (x < 2) = true ∧ decide (u < v) = true ∨ decide (2 < x) = false ∧ decide (x < 2) = true ∧ decide (u < v) = false ∧ decide (48 ≤ u) = true ∨ decide (2 < x) = false ∧ decide (x < 2) = false ∧ (v == u) = true) :
    Calls Try.prog 7 #[.agg #[.int .i64 k, .int .i64 n, .int .i64 b, .int .i64 a, .int .i64 s, .int .i64 q], .int .i64 d] w fun e w' => e = .returned (.bool true) ∧ Below w.heap.size w w' := by
  have nx := fun v => next_any k n b a s q d K V B Q 0 h v
  clear h
  have X := Ctl.new w _ rfl k n b a s q
  rcases hT with ⟨t1, t2⟩ | ⟨t1, t2, t3⟩ | ⟨t1, t2, t3⟩ | ⟨t1, t2, t3, t4⟩ | ⟨t1, t2, t3⟩
  all_goals
    go_enter Try.func7, Try.ntmps7
    go_wp2_with (first
      | (go_at_call 13; refine (alive_any _).mono ?_; rintro e v1 ⟨rfl, b1⟩; replace X := X.kept b1; obtain ⟨c0, c1, c2, c3, c4, c5, f0, f1, f2, f3, f4, f5⟩ := X; replace b1 := up1 b1)
      | (go_at_call 8; refine (nx _).mono ?_; rintro e v2 ⟨rfl, b2⟩; clear nx; have X2 := (Ctl.kept ⟨c0, c1, c2, c3, c4, c5, f0, f1, f2, f3, f4, f5⟩ b2); clear c0 c1 c2 c3 c4 c5 f0 f1 f2 f3 f4 f5; replace b1 := bthen b1 b2; have Z := Ctl.new v2 _ rfl K V B 0 0 Q))
    replace X2 := X2.alloc (.cells #[.int .i64 K, .int .i64 V, .int .i64 B, .int .i64 0, .int .i64 0, .int .i64 Q] 23)
    replace b1 := balloc b1 (.cells #[.int .i64 K, .int .i64 V, .int .i64 B, .int .i64 0, .int .i64 0, .int .i64 Q] 23)
    generalize v2.heap.size = C at Z ⊢
    generalize v2.alloc (.cells #[.int .i64 K, .int .i64 V, .int .i64 B, .int .i64 0, .int .i64 0, .int .i64 Q] 23) = v3 at X2 Z b1 ⊢
    obtain ⟨c0, c1, c2, c3, c4, c5, f0, f1, f2, f3, f4, f5⟩ := X2
    obtain ⟨d0, d1, d2, d3, d4, d5, g0, g1, g2, g3, g4, g5⟩ := Z
    go_quiet (fail)
    go_wp2
    go_ret
    exact ⟨rfl, below_drewN b1 _⟩

theorem ledbatYields_walk (k0 n0 b0 d0w s0 q0 : Int) (a1 : Int) (w : World) (w1 : -9223372036854775808 ≤ a1 ∧ a1 ≤ 9223372036854775807) :
    Calls Try.prog 7 #[.agg #[.int .i64 k0, .int .i64 n0, .int .i64 b0, .int .i64 d0w, .int .i64 s0, .int .i64 q0], .int .i64 a1] w fun e w' => e = .returned (.bool true) ∧ Below w.heap.size w w' := by
  by_cases h1 : mright k0 n0 b0 d0w s0 q0
  · by_cases h2 : inr a1
    · have hN : nextC k0 n0 b0 d0w s0 q0 a1 = (3, ct n0 q0 (a1 - nb b0 a1) / 4, nb b0 a1, ct n0 q0 (a1 - nb b0 a1) % 4, 0) := by unfold nextC; rw [if_pos h1, if_pos h2]
      have hb := nb_in (b := b0) h2
      have hc := ct_right (n := n0) (q := q0) (x := a1 - nb b0 a1)
      obtain ⟨hk, hn, hb0, ha, hs, hq, hp⟩ := h1
      refine yields_of _ _ _ _ _ _ _ _ _ _ _ _ _ _ w hN hn hq hc.1 hc.2.1 h2 ⟨hb.1, hb.2.2.1⟩ rfl rfl rfl ?_
      have e : 4 * (ct n0 q0 (a1 - nb b0 a1) / 4) + ct n0 q0 (a1 - nb b0 a1) % 4 = ct n0 q0 (a1 - nb b0 a1) := by omega
      rw [e]
      clear e hc hN
      simp only [decide_eq_true_iff, decide_eq_false_iff_not, beq_iff_eq]
      generalize a1 - nb b0 a1 = x at hb ⊢
      unfold ct bd gr
      omega
    · exact yields_no _ _ _ _ _ _ _ 0 0 0 0 2 w (by unfold nextC; rw [if_pos h1, if_neg h2]) (by decide)
  · exact yields_no _ _ _ _ _ _ _ 0 0 0 0 1 w (by unfold nextC; rw [if_neg h1]) (by decide)

end Go.Proofs.Ytniecidkkhneeaa
namespace Go.Proofs.Ytniecidkkhneeaa.ledbatYields
open Go.ChangeShapes Go.WideShapes Go.ChangeAt Go.RowKit
set_option linter.unusedVariables false

set_option maxRecDepth 100000 in
theorem lifted (os : Os) (started : os.Started) (H : Type) (enc : TypeId × Value → H) :
    ReturnsInHanded {} Try.checked os 7 .any (Rows.ledbatYieldsSpec.pre6 enc Try.prog Try.f7 Rows.ledbatYieldsRow.domain false) (Rows.ledbatYieldsSpec.post enc Try.prog Try.f7 false true false false) := by
  refine returnsInHanded_of_change_sized (C := Try.checked) own started (by kernel_rfl) Try.func7
    (ChangeSpec.witness6 (enc := enc) (C := Try.checked) false ⟨#[], #[.agg #[.int .i64 0, .int .i64 0, .int .i64 0, .int .i64 0, .int .i64 0, .int .i64 0], .int .i64 0], []⟩ 8 (by kernel_rfl) (by kernel_rfl) (by kernel_rfl) (by kernel_rfl)) ?_
  intro W base args ds gs before hval0 hW _ hsz0 _
  have hsz : (DataW.weightsEach Try.prog (Try.f7.params.toList ++ Rows.ledbatYieldsSpec.plain.varTypes Try.prog) (ds ++ gs)).all (· ≤ reachBytes) = true := hsz0
  have hval : ∀ (j : Nat) t v, Try.f7.params[j]? = some t → args[j]? = some v → Value.okWide Try.prog W .any base t v := hval0
  have hW' := hW
  obtain ⟨p, q, hA0, hV, rfl, hfz, hnd⟩ := hW
  have hA : DataW.TrodAll enc Try.prog W 0 (fun _ => true) true Try.f7.params.toList args.toList ds p := hA0
  rw [Try.params7] at hA hval hsz
  obtain ⟨v0, vs0, d0, ds0, p0, q0, hargs, rfl, rfl, h0, r0⟩ := trodAll_cons hA
  obtain ⟨v1, vs1, d1, ds1, p1, q1, rfl, rfl, rfl, h1, r1⟩ := trodAll_cons r0
  obtain ⟨rfl, rfl, rfl⟩ := trodAll_nil r1
  obtain rfl : args = #[v0, v1] := by cases args; simp_all
  obtain ⟨rfl, rfl⟩ := trodVars_none hV
  obtain ⟨k0, n0, b0, d0w, s0, q0, rfl, rfl, rfl, wk0, wn0, wb0, wd0, ws0, wq0⟩ := openC (hval 0 23 v0 rfl rfl) h0
  obtain ⟨a1, rfl, rfl, rfl, w1⟩ := open_int Try.underlying3 (hval 1 3 v1 rfl rfl) h1
  clear hA0 hval0 hsz0 hsz
  refine (ledbatYields_walk k0 n0 b0 d0w s0 q0 a1 W (fits w1)).mono fun e W' ⟨he, bel⟩ => ?_
  subst he
  exact ⟨_, rfl, _, _, _, [], _, [], hW', trodAll_mk1 (shut_bool Try.underlying4 _), (trodAll_cons_mk (shutC wk0 wn0 wb0 wd0 ws0 wq0) (trodAll_cons_mk (shut_int Try.underlying3 w1) trodAll_mk0)), rfl, bel.frame _, fun h => by cases h⟩

theorem proved : Rows.LedbatYieldsSaid :=
  OpenClaim.holds_of_wide 7 Try.f7 rfl rfl rfl rfl rfl rfl rfl ⟨rfl, rfl, rfl, rfl, rfl⟩ rfl rfl rfl rfl rfl (by kernel_rfl) Try.func7 (by kernel_rfl)
    (of_decide_eq_true (by kernel_rfl)) (by unfold Func.isWrapper; first | (rw [if_pos (by decide +kernel)]; kernel_rfl) | (rw [if_neg (by decide +kernel)]; exact ⟨rfl, rfl⟩))
    (fun os started H enc _ => lifted os started H enc)

end Go.Proofs.Ytniecidkkhneeaa.ledbatYields
namespace Go.Proofs.Ytniecidkkhneeaa
theorem ledbatYields_holds : Rows.LedbatYieldsSaid := ledbatYields.proved
#print axioms ledbatYields_holds
end Go.Proofs.Ytniecidkkhneeaa
