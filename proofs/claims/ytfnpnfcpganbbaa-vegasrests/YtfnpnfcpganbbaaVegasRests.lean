/- PROVED: vegas: who has what it aims at rests: where the window stayed, the same delay changes nothing; it never changes by more than one; at every argument. CONDITIONS: none. -/
import Derived.Test.YtfnpnfcpganbbaaAlive
import Derived.Test.YtfnpnfcpganbbaaAgg
namespace Go.Proofs.Ytfnpnfcpganbbaa
open Go.RowKit
set_option linter.unusedVariables false

attribute [local go_sem ↓] eqS

set_option maxHeartbeats 1600000 in
theorem rests_no (k n b a s q d K V B E : Int) (w : World) (h : nextC k n b a s q d = (K, V, B, E)) (hE : E ≠ 0) :
    Calls Try.prog 6 #[.agg #[.int .i64 k, .int .i64 n, .int .i64 b, .int .i64 a, .int .i64 s, .int .i64 q], .int .i64 d] w fun e w' => e = .returned (.bool true) ∧ Below w.heap.size w w' := by
  have nx := fun v => next_any k n b a s q d K V B E h v
  clear h
  have X := Ctl.new w _ rfl k n b a s q
  go_enter Try.func6, Try.ntmps6
  go_wp2_with (first
    | (go_at_call 12; refine (alive_any _).mono ?_; rintro e v1 ⟨rfl, b1⟩; replace X := X.kept b1; obtain ⟨c0, c1, c2, c3, c4, c5, f0, f1, f2, f3, f4, f5⟩ := X; replace b1 := up1 b1)
    | (go_at_call 7; refine (nx _).mono ?_; rintro e v2 ⟨rfl, b2⟩; clear nx; replace b1 := bthen b1 b2))
  go_ret
  exact ⟨rfl, balloc b1 _⟩

set_option maxHeartbeats 1600000 in
theorem rests_yes (n b d V B V2 B2 : Int) (w : World) (h : nextC 1 n b 0 0 0 d = (1, V, B, 0)) (h2 : nextC 1 V B 0 0 0 d = (1, V2, B2, 0)) (hn : 1 ≤ n ∧ n ≤ 12) (hl : decide (V < n - 1) = false) (hm : decide (n + 1 < V) = false) (hs : V = n → sameC 1 V2 B2 0 0 0 1 V B 0 0 0 = true) :
    Calls Try.prog 6 #[.agg #[.int .i64 1, .int .i64 n, .int .i64 b, .int .i64 0, .int .i64 0, .int .i64 0], .int .i64 d] w fun e w' => e = .returned (.bool true) ∧ Below w.heap.size w w' := by
  have nx := fun v => next_any 1 n b 0 0 0 d 1 V B 0 h v
  have ny := fun v => next_any 1 V B 0 0 0 d 1 V2 B2 0 h2 v
  clear h h2
  have X := Ctl.new w _ rfl 1 n b 0 0 0
  have T1 := tok
  have T2 := tok
  by_cases hV : V = n
  · subst hV
    replace hs := hs rfl
    go_enter Try.func6, Try.ntmps6
    go_wp2_with (first
      | (go_at_call 12; refine (alive_any _).mono ?_; rintro e v1 ⟨rfl, b1⟩; replace X := X.kept b1; obtain ⟨c0, c1, c2, c3, c4, c5, f0, f1, f2, f3, f4, f5⟩ := X; replace b1 := up1 b1)
      | (clear T1; go_at_call 7; refine (nx _).mono ?_; rintro e v2 ⟨rfl, b2⟩; clear nx; have X2 := (Ctl.kept ⟨c0, c1, c2, c3, c4, c5, f0, f1, f2, f3, f4, f5⟩ b2); clear c0 c1 c2 c3 c4 c5 f0 f1 f2 f3 f4 f5; obtain ⟨c0, c1, c2, c3, c4, c5, f0, f1, f2, f3, f4, f5⟩ := X2; have z2 : w.heap.size < v2.heap.size := block_lt c0; replace b1 := bthen b1 b2; have Y := Ctl.new v2 _ rfl 1 V B 0 0 0)
      | (clear T2; go_at_call 7; refine (ny _).mono ?_; rintro e v3 ⟨rfl, b3⟩; clear ny; have X2 := (Ctl.kept ((Ctl.mk c0 c1 c2 c3 c4 c5 f0 f1 f2 f3 f4 f5).alloc _) b3); clear c0 c1 c2 c3 c4 c5 f0 f1 f2 f3 f4 f5; obtain ⟨c0, c1, c2, c3, c4, c5, f0, f1, f2, f3, f4, f5⟩ := X2; have Y2 := Y.kept b3; clear Y; obtain ⟨d0, d1, d2, d3, d4, d5, g0, g1, g2, g3, g4, g5⟩ := Y2; have z3 : w.heap.size < v3.heap.size := block_lt c0; have z4 : v2.heap.size < v3.heap.size := block_lt d0; replace b1 := bthen b1 (up1 b3)))
    go_ret
    exact ⟨rfl, balloc b1 _⟩
  · clear hs
    go_enter Try.func6, Try.ntmps6
    go_wp2_with (first
      | (go_at_call 12; refine (alive_any _).mono ?_; rintro e v1 ⟨rfl, b1⟩; replace X := X.kept b1; obtain ⟨c0, c1, c2, c3, c4, c5, f0, f1, f2, f3, f4, f5⟩ := X; replace b1 := up1 b1)
      | (clear T1; go_at_call 7; refine (nx _).mono ?_; rintro e v2 ⟨rfl, b2⟩; clear nx; have X2 := (Ctl.kept ⟨c0, c1, c2, c3, c4, c5, f0, f1, f2, f3, f4, f5⟩ b2); clear c0 c1 c2 c3 c4 c5 f0 f1 f2 f3 f4 f5; obtain ⟨c0, c1, c2, c3, c4, c5, f0, f1, f2, f3, f4, f5⟩ := X2; have z2 : w.heap.size < v2.heap.size := block_lt c0; replace b1 := bthen b1 b2; have Y := Ctl.new v2 _ rfl 1 V B 0 0 0)
      | (clear T2; go_at_call 7; refine (ny _).mono ?_; rintro e v3 ⟨rfl, b3⟩; clear ny; have X2 := (Ctl.kept ((Ctl.mk c0 c1 c2 c3 c4 c5 f0 f1 f2 f3 f4 f5).alloc _) b3); clear c0 c1 c2 c3 c4 c5 f0 f1 f2 f3 f4 f5; obtain ⟨c0, c1, c2, c3, c4, c5, f0, f1, f2, f3, f4, f5⟩ := X2; have Y2 := Y.kept b3; clear Y; obtain ⟨d0, d1, d2, d3, d4, d5, g0, g1, g2, g3, g4, g5⟩ := Y2; have z3 : w.heap.size < v3.heap.size := block_lt c0; have z4 : v2.heap.size < v3.heap.size := block_lt d0; replace b1 := bthen b1 (up1 b3)))
    go_ret
    exact ⟨rfl, balloc b1 _⟩

theorem vegasRests_walk (k0 n0 b0 d0w s0 q0 : Int) (a1 : Int) (w : World) (w1 : -9223372036854775808 ≤ a1 ∧ a1 ≤ 9223372036854775807) :
    Calls Try.prog 6 #[.agg #[.int .i64 k0, .int .i64 n0, .int .i64 b0, .int .i64 d0w, .int .i64 s0, .int .i64 q0], .int .i64 a1] w fun e w' => e = .returned (.bool true) ∧ Below w.heap.size w w' := by
  by_cases h1 : kright k0 n0 b0 d0w s0 q0
  · by_cases h2 : inr a1
    · obtain ⟨hb0, hb1, hb2, _⟩ := nb_in (b := b0) h2
      have hN : nextC k0 n0 b0 d0w s0 q0 a1 = (1, nw n0 (a1 - nb b0 a1) a1, nb b0 a1, 0) := by unfold nextC; rw [if_pos h1, if_pos h2]
      obtain ⟨rfl, hn, hb, rfl, rfl, rfl⟩ := h1
      have hV := nw_in (a1 - nb b0 a1) a1 hn
      have hV2 := nw_near (a1 - nb b0 a1) a1 hn
      have hN2 : nextC 1 (nw n0 (a1 - nb b0 a1) a1) (nb b0 a1) 0 0 0 a1 = (1, nw (nw n0 (a1 - nb b0 a1) a1) (a1 - nb (nb b0 a1) a1) a1, nb (nb b0 a1) a1, 0) := by
        unfold nextC; rw [if_pos ⟨rfl, hV, ⟨by omega, by omega⟩, rfl, rfl, rfl⟩, if_pos h2]
      exact rests_yes n0 b0 a1 _ _ _ _ w hN hN2 hn (decide_eq_false (by omega)) (decide_eq_false (by omega)) fun e => same_is.2 ⟨rfl, nw_rests n0 b0 a1 e, nb_again b0 a1, rfl, rfl, rfl⟩
    · exact rests_no _ _ _ _ _ _ _ 0 0 0 2 w (by unfold nextC; rw [if_pos h1, if_neg h2]) (by decide)
  · exact rests_no _ _ _ _ _ _ _ 0 0 0 1 w (by unfold nextC; rw [if_neg h1]) (by decide)

end Go.Proofs.Ytfnpnfcpganbbaa
namespace Go.Proofs.Ytfnpnfcpganbbaa.vegasRests
open Go.ChangeShapes Go.WideShapes Go.ChangeAt Go.RowKit
set_option linter.unusedVariables false

set_option maxRecDepth 100000 in
theorem lifted (os : Os) (started : os.Started) (H : Type) (enc : TypeId × Value → H) :
    ReturnsInHanded {} Try.checked os 6 .any (Rows.vegasRestsSpec.pre6 enc Try.prog Try.f6 Rows.vegasRestsRow.domain false) (Rows.vegasRestsSpec.post enc Try.prog Try.f6 false true false false) := by
  refine returnsInHanded_of_change_sized (C := Try.checked) own started (by kernel_rfl) Try.func6
    (ChangeSpec.witness6 (enc := enc) (C := Try.checked) false ⟨#[], #[.agg #[.int .i64 0, .int .i64 0, .int .i64 0, .int .i64 0, .int .i64 0, .int .i64 0], .int .i64 0], []⟩ 8 (by kernel_rfl) (by kernel_rfl) (by kernel_rfl) (by kernel_rfl)) ?_
  intro W base args ds gs before hval0 hW _ hsz0 _
  have hsz : (DataW.weightsEach Try.prog (Try.f6.params.toList ++ Rows.vegasRestsSpec.plain.varTypes Try.prog) (ds ++ gs)).all (· ≤ reachBytes) = true := hsz0
  have hval : ∀ (j : Nat) t v, Try.f6.params[j]? = some t → args[j]? = some v → Value.okWide Try.prog W .any base t v := hval0
  have hW' := hW
  obtain ⟨p, q, hA0, hV, rfl, hfz, hnd⟩ := hW
  have hA : DataW.TrodAll enc Try.prog W 0 (fun _ => true) true Try.f6.params.toList args.toList ds p := hA0
  rw [Try.params6] at hA hval hsz
  obtain ⟨v0, vs0, d0, ds0, p0, q0, hargs, rfl, rfl, h0, r0⟩ := trodAll_cons hA
  obtain ⟨v1, vs1, d1, ds1, p1, q1, rfl, rfl, rfl, h1, r1⟩ := trodAll_cons r0
  obtain ⟨rfl, rfl, rfl⟩ := trodAll_nil r1
  obtain rfl : args = #[v0, v1] := by cases args; simp_all
  obtain ⟨rfl, rfl⟩ := trodVars_none hV
  obtain ⟨k0, n0, b0, d0w, s0, q0, rfl, rfl, rfl, wk0, wn0, wb0, wd0, ws0, wq0⟩ := openC (hval 0 23 v0 rfl rfl) h0
  obtain ⟨a1, rfl, rfl, rfl, w1⟩ := open_int Try.underlying3 (hval 1 3 v1 rfl rfl) h1
  clear hA0 hval0 hsz0 hsz
  refine (vegasRests_walk k0 n0 b0 d0w s0 q0 a1 W (fits w1)).mono fun e W' ⟨he, bel⟩ => ?_
  subst he
  exact ⟨_, rfl, _, _, _, [], _, [], hW', trodAll_mk1 (shut_bool Try.underlying4 _), (trodAll_cons_mk (shutC wk0 wn0 wb0 wd0 ws0 wq0) (trodAll_cons_mk (shut_int Try.underlying3 w1) trodAll_mk0)), rfl, bel.frame _, fun h => by cases h⟩

theorem proved : Rows.VegasRestsSaid :=
  OpenClaim.holds_of_wide 6 Try.f6 rfl rfl rfl rfl rfl rfl rfl ⟨rfl, rfl, rfl, rfl, rfl⟩ rfl rfl rfl rfl rfl (by kernel_rfl) Try.func6 (by kernel_rfl)
    (of_decide_eq_true (by kernel_rfl)) (by unfold Func.isWrapper; first | (rw [if_pos (by decide +kernel)]; kernel_rfl) | (rw [if_neg (by decide +kernel)]; exact ⟨rfl, rfl⟩))
    (fun os started H enc _ => lifted os started H enc)

end Go.Proofs.Ytfnpnfcpganbbaa.vegasRests
namespace Go.Proofs.Ytfnpnfcpganbbaa
theorem vegasRests_holds : Rows.VegasRestsSaid := vegasRests.proved
#print axioms vegasRests_holds
end Go.Proofs.Ytfnpnfcpganbbaa
