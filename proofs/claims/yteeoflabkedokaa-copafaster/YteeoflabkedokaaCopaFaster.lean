/- PROVED: who goes on the same way goes twice as fast, up to the fastest, who turns goes by one; and the window moves that way by no more than the speed, at every argument. CONDITIONS: none. -/
import Derived.Test.YteeoflabkedokaaAlive
import Derived.Test.YteeoflabkedokaaAgg
namespace Go.Proofs.Yteeoflabkedokaa
open Go.RowKit
set_option linter.unusedVariables false

set_option maxHeartbeats 1600000 in
theorem faster_no (k n b a s q d K V B Y S E : Int) (w : World) (h : nextC k n b a s q d = (K, V, B, Y, S, E)) (hE : E ≠ 0) :
    Calls Try.prog 6 #[.agg #[.int .i64 k, .int .i64 n, .int .i64 b, .int .i64 a, .int .i64 s, .int .i64 q], .int .i64 d] w fun e w' => e = .returned (.bool true) ∧ Below w.heap.size w w' := by
  have nx := fun v => next_any k n b a s q d K V B Y S E h v
  clear h
  have X := Ctl.new w _ rfl k n b a s q
  go_enter Try.func6, Try.ntmps6
  go_wp2_with (first
    | (go_at_call 12; refine (alive_any _).mono ?_; rintro e v1 ⟨rfl, b1⟩; replace X := X.kept b1; obtain ⟨c0, c1, c2, c3, c4, c5, f0, f1, f2, f3, f4, f5⟩ := X; replace b1 := up1 b1)
    | (go_at_call 7; refine (nx _).mono ?_; rintro e v2 ⟨rfl, b2⟩; clear nx; replace b1 := bthen b1 b2))
  go_ret
  exact ⟨rfl, balloc b1 _⟩

set_option maxHeartbeats 1600000 in
theorem faster_of (k n b a s q d K V B Y S p : Int) (w : World) (h : nextC k n b a s q d = (K, V, B, Y, S, 0)) (hn : 1 ≤ n ∧ n ≤ 12) (hV : 1 ≤ V ∧ V ≤ 12) (hs0 : 0 ≤ s) (hs1 : s ≤ 4) (hp : (V - n) * Y = p)
    (hT : ¬ Y = a ∧ S = 1 ∧ decide (n - 1 ≤ V) = true ∧ decide (V ≤ n + 1) = true ∨ Y = a ∧ min (max (2 * s) 1) 4 = S ∧ 0 ≤ p ∧ p ≤ 4 ∧ decide (p ≤ S) = true) :
    Calls Try.prog 6 #[.agg #[.int .i64 k, .int .i64 n, .int .i64 b, .int .i64 a, .int .i64 s, .int .i64 q], .int .i64 d] w fun e w' => e = .returned (.bool true) ∧ Below w.heap.size w w' := by
  have nx := fun v => next_any k n b a s q d K V B Y S 0 h v
  clear h
  have X := Ctl.new w _ rfl k n b a s q
  rcases hT with ⟨hY, rfl, h1, h2⟩ | ⟨rfl, hS, h1, h2, h3⟩
  all_goals
    go_enter Try.func6, Try.ntmps6
    go_wp2_with (first
      | (go_at_call 12; refine (alive_any _).mono ?_; rintro e v1 ⟨rfl, b1⟩; replace X := X.kept b1; obtain ⟨c0, c1, c2, c3, c4, c5, f0, f1, f2, f3, f4, f5⟩ := X; replace b1 := up1 b1)
      | (go_at_call 7; refine (nx _).mono ?_; rintro e v2 ⟨rfl, b2⟩; clear nx; have X2 := (Ctl.kept ⟨c0, c1, c2, c3, c4, c5, f0, f1, f2, f3, f4, f5⟩ b2); clear c0 c1 c2 c3 c4 c5 f0 f1 f2 f3 f4 f5; obtain ⟨c0, c1, c2, c3, c4, c5, f0, f1, f2, f3, f4, f5⟩ := X2; have z2 : w.heap.size < v2.heap.size := block_lt c0; replace b1 := bthen b1 b2))
    go_ret
    exact ⟨rfl, balloc b1 _⟩

theorem copaFaster_walk (k0 n0 b0 d0w s0 q0 : Int) (a1 : Int) (w : World) (w1 : -9223372036854775808 ≤ a1 ∧ a1 ≤ 9223372036854775807) :
    Calls Try.prog 6 #[.agg #[.int .i64 k0, .int .i64 n0, .int .i64 b0, .int .i64 d0w, .int .i64 s0, .int .i64 q0], .int .i64 a1] w fun e w' => e = .returned (.bool true) ∧ Below w.heap.size w w' := by
  by_cases h1 : lright k0 n0 b0 d0w s0 q0
  · by_cases h2 : inr a1
    · have hN : nextC k0 n0 b0 d0w s0 q0 a1 = (2, nw n0 d0w s0 (wy n0 (a1 - nb b0 a1) a1), nb b0 a1, wy n0 (a1 - nb b0 a1) a1, spd d0w s0 (wy n0 (a1 - nb b0 a1) a1), 0) := by unfold nextC; rw [if_pos h1, if_pos h2]
      have hy := wy_is n0 (a1 - nb b0 a1) a1
      have hg := nw_goes (a := d0w) (s := s0) h1.2.1 hy
      have hS := spd_in d0w s0 (wy n0 (a1 - nb b0 a1) a1)
      refine faster_of _ _ _ _ _ _ _ _ _ _ _ _ _ w hN h1.2.1 (nw_in _ _ _ _) h1.2.2.2.2.1.1 h1.2.2.2.2.1.2 rfl ?_
      by_cases c : wy n0 (a1 - nb b0 a1) a1 = d0w
      · exact .inr ⟨c, by unfold spd; rw [if_pos c], hg.1, by omega, decide_eq_true hg.2⟩
      · have t := nw_turns (s := s0) h1.2.1 hy c
        exact .inl ⟨c, t.1, decide_eq_true t.2.1, decide_eq_true t.2.2⟩
    · exact faster_no _ _ _ _ _ _ _ 0 0 0 0 0 2 w (by unfold nextC; rw [if_pos h1, if_neg h2]) (by decide)
  · exact faster_no _ _ _ _ _ _ _ 0 0 0 0 0 1 w (by unfold nextC; rw [if_neg h1]) (by decide)

end Go.Proofs.Yteeoflabkedokaa
namespace Go.Proofs.Yteeoflabkedokaa.copaFaster
open Go.ChangeShapes Go.WideShapes Go.ChangeAt Go.RowKit
set_option linter.unusedVariables false

set_option maxRecDepth 100000 in
theorem lifted (os : Os) (started : os.Started) (H : Type) (enc : TypeId × Value → H) :
    ReturnsInHanded {} Try.checked os 6 .any (Rows.copaFasterSpec.pre6 enc Try.prog Try.f6 Rows.copaFasterRow.domain false) (Rows.copaFasterSpec.post enc Try.prog Try.f6 false true false false) := by
  refine returnsInHanded_of_change_sized (C := Try.checked) own started (by kernel_rfl) Try.func6
    (ChangeSpec.witness6 (enc := enc) (C := Try.checked) false ⟨#[], #[.agg #[.int .i64 0, .int .i64 0, .int .i64 0, .int .i64 0, .int .i64 0, .int .i64 0], .int .i64 0], []⟩ 8 (by kernel_rfl) (by kernel_rfl) (by kernel_rfl) (by kernel_rfl)) ?_
  intro W base args ds gs before hval0 hW _ hsz0 _
  have hsz : (DataW.weightsEach Try.prog (Try.f6.params.toList ++ Rows.copaFasterSpec.plain.varTypes Try.prog) (ds ++ gs)).all (· ≤ reachBytes) = true := hsz0
  have hval : ∀ (j : Nat) t v, Try.f6.params[j]? = some t → args[j]? = some v → Value.okWide Try.prog W .any base t v := hval0
  have hW' := hW
  obtain ⟨p, q, hA0, hV, rfl, hfz, hnd⟩ := hW
  have hA : DataW.TrodAll enc Try.prog W 0 (fun _ => true) true Try.f6.params.toList args.toList ds p := hA0
  rw [Try.params6] at hA hval hsz
  obtain ⟨v0, vs0, d0, ds0, p0, q0, hargs, rfl, rfl, h0, r0⟩ := trodAll_cons hA
  obtain ⟨v1, vs1, d1, ds1, p1, q1, rfl, rfl, rfl, h1, r1⟩ := trodAll_cons r0
  obtain ⟨rfl, rfl, rfl⟩ := trodAll_nil r1
  obtain rfl : args = #[v0, v1] := by cases args; simp_all
  obtain ⟨rfl, rfl⟩ := trodVars_none hV
  obtain ⟨k0, n0, b0, d0w, s0, q0, rfl, rfl, rfl, wk0, wn0, wb0, wd0, ws0, wq0⟩ := openC (hval 0 23 v0 rfl rfl) h0
  obtain ⟨a1, rfl, rfl, rfl, w1⟩ := open_int Try.underlying3 (hval 1 3 v1 rfl rfl) h1
  clear hA0 hval0 hsz0 hsz
  refine (copaFaster_walk k0 n0 b0 d0w s0 q0 a1 W (fits w1)).mono fun e W' ⟨he, bel⟩ => ?_
  subst he
  exact ⟨_, rfl, _, _, _, [], _, [], hW', trodAll_mk1 (shut_bool Try.underlying4 _), (trodAll_cons_mk (shutC wk0 wn0 wb0 wd0 ws0 wq0) (trodAll_cons_mk (shut_int Try.underlying3 w1) trodAll_mk0)), rfl, bel.frame _, fun h => by cases h⟩

theorem proved : Rows.CopaFasterSaid :=
  OpenClaim.holds_of_wide 6 Try.f6 rfl rfl rfl rfl rfl rfl rfl ⟨rfl, rfl, rfl, rfl, rfl⟩ rfl rfl rfl rfl rfl (by kernel_rfl) Try.func6 (by kernel_rfl)
    (of_decide_eq_true (by kernel_rfl)) (by unfold Func.isWrapper; first | (rw [if_pos (by decide +kernel)]; kernel_rfl) | (rw [if_neg (by decide +kernel)]; exact ⟨rfl, rfl⟩))
    (fun os started H enc _ => lifted os started H enc)

end Go.Proofs.Yteeoflabkedokaa.copaFaster
namespace Go.Proofs.Yteeoflabkedokaa
theorem copaFaster_holds : Rows.CopaFasterSaid := copaFaster.proved
#print axioms copaFaster_holds
end Go.Proofs.Yteeoflabkedokaa
