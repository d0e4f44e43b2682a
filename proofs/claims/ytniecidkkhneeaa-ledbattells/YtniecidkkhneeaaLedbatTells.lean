/- PROVED: ledbat.New, Right and Next answer what chapter 13 says, at every argument. CONDITIONS: none. -/
import Derived.Deep.RegionHeld3
import Derived.Test.YtniecidkkhneeaaRefNext
import Derived.Test.YtniecidkkhneeaaAgg
namespace Go.Proofs.Ytniecidkkhneeaa
open Go.RowKit
set_option linter.unusedVariables false

attribute [local go_sem ↓] eqS

set_option maxHeartbeats 4000000 in
theorem tells_of (k n b a s q d m K V B Q E u : Int) (R : Bool) (w : World) (h : nextC k n b a s q d = (K, V, B, Q, E)) (hR : decide (mright k n b a s q) = R) (hu : min (max m 1) 12 = u) :
    Calls Try.prog 3 #[.agg #[.int .i64 k, .int .i64 n, .int .i64 b, .int .i64 a, .int .i64 s, .int .i64 q], .int .i64 d, .int .i64 m] w fun e w' => e = .returned (.bool true) ∧ Below w.heap.size w w' := by
  have nx := fun v => next_any k n b a s q d K V B Q E h v
  have rx := fun v => ref_any k n b a s q d K V B Q E h v
  have r1 := fun v => right_any k n b a s q v
  have r2 := fun v => mright_any k n b a s q v
  have nn := fun v => new_is m u hu v
  rw [hR] at r1 r2
  have s1 := same_self K V B 0 0 Q
  have s2 := same_self 3 u (-1) 0 0 0
  have X := Ctl.new w _ rfl k n b a s q
  have bb : Below w.heap.size w (w.alloc (.cells #[.int .i64 k, .int .i64 n, .int .i64 b, .int .i64 a, .int .i64 s, .int .i64 q] 23)) := balloc (Below.refl _ _) _
  clear h hR
  go_enter Try.func3, Try.ntmps3
  go_wp2_with (first
    | (go_at_call 8; refine (nx _).mono ?_; rintro e v1 ⟨rfl, b1⟩; clear nx; replace X := X.kept b1; replace bb := bthen bb b1; clear b1; obtain ⟨c0, c1, c2, c3, c4, c5, f0, f1, f2, f3, f4, f5⟩ := X; have z1 : w.heap.size < v1.heap.size := block_lt c0; have Y := Ctl.new v1 _ rfl K V B 0 0 Q)
    | (go_at_call 9; refine (rx _).mono ?_; rintro e v2 ⟨rfl, b2⟩; clear rx; have X2 := (Ctl.kept ((Ctl.mk c0 c1 c2 c3 c4 c5 f0 f1 f2 f3 f4 f5).alloc _) b2); clear c0 c1 c2 c3 c4 c5 f0 f1 f2 f3 f4 f5; replace Y := Y.kept b2; replace bb := bthen bb (up1 b2); clear b2; have Z := Ctl.new v2 _ rfl K V B 0 0 Q))
  have z0 : v1.heap.size < v2.heap.size := block_lt Y.c0
  replace X := X2.alloc (.cells #[.int .i64 K, .int .i64 V, .int .i64 B, .int .i64 0, .int .i64 0, .int .i64 Q] 23)
  replace Y := Y.alloc (.cells #[.int .i64 K, .int .i64 V, .int .i64 B, .int .i64 0, .int .i64 0, .int .i64 Q] 23)
  replace bb := balloc bb (.cells #[.int .i64 K, .int .i64 V, .int .i64 B, .int .i64 0, .int .i64 0, .int .i64 Q] 23)
  clear X2
  generalize v2.alloc (.cells #[.int .i64 K, .int .i64 V, .int .i64 B, .int .i64 0, .int .i64 0, .int .i64 Q] 23) = v3 at X Y Z bb ⊢
  generalize v1.heap.size = C1 at Y ⊢
  generalize v2.heap.size = C2 at Z ⊢
  go_region_held3 (fun w' => w'.cell? ⟨w.heap.size, 0, none⟩ = some (.int .i64 k) ∧ w'.cell? ⟨w.heap.size, 1, none⟩ = some (.int .i64 n) ∧ w'.cell? ⟨w.heap.size, 2, none⟩ = some (.int .i64 b) ∧ w'.cell? ⟨w.heap.size, 3, none⟩ = some (.int .i64 a) ∧ w'.cell? ⟨w.heap.size, 4, none⟩ = some (.int .i64 s) ∧ w'.cell? ⟨w.heap.size, 5, none⟩ = some (.int .i64 q) ∧ w'.cell? ⟨C1, 0, none⟩ = some (.int .i64 K) ∧ w'.cell? ⟨C1, 1, none⟩ = some (.int .i64 V) ∧ w'.cell? ⟨C1, 2, none⟩ = some (.int .i64 B) ∧ w'.cell? ⟨C1, 3, none⟩ = some (.int .i64 0) ∧ w'.cell? ⟨C1, 4, none⟩ = some (.int .i64 0) ∧ w'.cell? ⟨C1, 5, none⟩ = some (.int .i64 Q) ∧ w'.cell? ⟨C2, 0, none⟩ = some (.int .i64 K) ∧ w'.cell? ⟨C2, 1, none⟩ = some (.int .i64 V) ∧ w'.cell? ⟨C2, 2, none⟩ = some (.int .i64 B) ∧ w'.cell? ⟨C2, 3, none⟩ = some (.int .i64 0) ∧ w'.cell? ⟨C2, 4, none⟩ = some (.int .i64 0) ∧ w'.cell? ⟨C2, 5, none⟩ = some (.int .i64 Q)) (exact ⟨X.c0, X.c1, X.c2, X.c3, X.c4, X.c5, Y.c0, Y.c1, Y.c2, Y.c3, Y.c4, Y.c5, Z.c0, Z.c1, Z.c2, Z.c3, Z.c4, Z.c5⟩) (first
    | (go_at_call 10; refine (nn _).mono ?_; rintro e v4 ⟨rfl, b4⟩; clear nn; replace bb := bthen (Below.drew bb) b4; replace X := X.drew.kept b4; replace Y := Y.drew.kept b4; replace Z := Z.drew.kept b4; clear b4)
    | (go_at_call 11; refine (r1 _).mono ?_; rintro e v5 ⟨rfl, b5⟩; clear r1; replace bb := bthen bb b5; replace X := X.kept b5; replace Y := Y.kept b5; replace Z := Z.kept b5; clear b5)
    | (go_at_call 12; refine (r2 _).mono ?_; rintro e v6 ⟨rfl, b6⟩; clear r2; replace bb := bthen bb b6; replace X := X.kept b6; replace Y := Y.kept b6; replace Z := Z.kept b6; clear b6))
  all_goals go_wp2
  all_goals go_ret
  all_goals exact ⟨rfl, bb⟩

theorem ledbatTells_walk (k0 n0 b0 d0w s0 q0 : Int) (a1 a2 : Int) (w : World) (w1 : -9223372036854775808 ≤ a1 ∧ a1 ≤ 9223372036854775807) (w2 : -9223372036854775808 ≤ a2 ∧ a2 ≤ 9223372036854775807) :
    Calls Try.prog 3 #[.agg #[.int .i64 k0, .int .i64 n0, .int .i64 b0, .int .i64 d0w, .int .i64 s0, .int .i64 q0], .int .i64 a1, .int .i64 a2] w fun e w' => e = .returned (.bool true) ∧ Below w.heap.size w w' :=
  tells_of _ _ _ _ _ _ _ _ _ _ _ _ _ _ _ w rfl rfl rfl

end Go.Proofs.Ytniecidkkhneeaa
namespace Go.Proofs.Ytniecidkkhneeaa.ledbatTells
open Go.ChangeShapes Go.WideShapes Go.ChangeAt Go.RowKit
set_option linter.unusedVariables false

set_option maxRecDepth 100000 in
theorem lifted (os : Os) (started : os.Started) (H : Type) (enc : TypeId × Value → H) :
    ReturnsInHanded {} Try.checked os 3 .any (Rows.ledbatTellsSpec.pre6 enc Try.prog Try.f3 Rows.ledbatTellsRow.domain false) (Rows.ledbatTellsSpec.post enc Try.prog Try.f3 false true false false) := by
  refine returnsInHanded_of_change_sized (C := Try.checked) own started (by kernel_rfl) Try.func3
    (ChangeSpec.witness6 (enc := enc) (C := Try.checked) false ⟨#[], #[.agg #[.int .i64 0, .int .i64 0, .int .i64 0, .int .i64 0, .int .i64 0, .int .i64 0], .int .i64 0, .int .i64 0], []⟩ 8 (by kernel_rfl) (by kernel_rfl) (by kernel_rfl) (by kernel_rfl)) ?_
  intro W base args ds gs before hval0 hW _ hsz0 _
  have hsz : (DataW.weightsEach Try.prog (Try.f3.params.toList ++ Rows.ledbatTellsSpec.plain.varTypes Try.prog) (ds ++ gs)).all (· ≤ reachBytes) = true := hsz0
  have hval : ∀ (j : Nat) t v, Try.f3.params[j]? = some t → args[j]? = some v → Value.okWide Try.prog W .any base t v := hval0
  have hW' := hW
  obtain ⟨p, q, hA0, hV, rfl, hfz, hnd⟩ := hW
  have hA : DataW.TrodAll enc Try.prog W 0 (fun _ => true) true Try.f3.params.toList args.toList ds p := hA0
  rw [Try.params3] at hA hval hsz
  obtain ⟨v0, vs0, d0, ds0, p0, q0, hargs, rfl, rfl, h0, r0⟩ := trodAll_cons hA
  obtain ⟨v1, vs1, d1, ds1, p1, q1, rfl, rfl, rfl, h1, r1⟩ := trodAll_cons r0
  obtain ⟨v2, vs2, d2, ds2, p2, q2, rfl, rfl, rfl, h2, r2⟩ := trodAll_cons r1
  obtain ⟨rfl, rfl, rfl⟩ := trodAll_nil r2
  obtain rfl : args = #[v0, v1, v2] := by cases args; simp_all
  obtain ⟨rfl, rfl⟩ := trodVars_none hV
  obtain ⟨k0, n0, b0, d0w, s0, q0, rfl, rfl, rfl, wk0, wn0, wb0, wd0, ws0, wq0⟩ := openC (hval 0 23 v0 rfl rfl) h0
  obtain ⟨a1, rfl, rfl, rfl, w1⟩ := open_int Try.underlying3 (hval 1 3 v1 rfl rfl) h1
  obtain ⟨a2, rfl, rfl, rfl, w2⟩ := open_int Try.underlying3 (hval 2 3 v2 rfl rfl) h2
  clear hA0 hval0 hsz0 hsz
  refine (ledbatTells_walk k0 n0 b0 d0w s0 q0 a1 a2 W (fits w1) (fits w2)).mono fun e W' ⟨he, bel⟩ => ?_
  subst he
  exact ⟨_, rfl, _, _, _, [], _, [], hW', trodAll_mk1 (shut_bool Try.underlying4 _), (trodAll_cons_mk (shutC wk0 wn0 wb0 wd0 ws0 wq0) (trodAll_cons_mk (shut_int Try.underlying3 w1) (trodAll_cons_mk (shut_int Try.underlying3 w2) trodAll_mk0))), rfl, bel.frame _, fun h => by cases h⟩

theorem proved : Rows.LedbatTellsSaid :=
  OpenClaim.holds_of_wide 3 Try.f3 rfl rfl rfl rfl rfl rfl rfl ⟨rfl, rfl, rfl, rfl, rfl⟩ rfl rfl rfl rfl rfl (by kernel_rfl) Try.func3 (by kernel_rfl)
    (of_decide_eq_true (by kernel_rfl)) (by unfold Func.isWrapper; first | (rw [if_pos (by decide +kernel)]; kernel_rfl) | (rw [if_neg (by decide +kernel)]; exact ⟨rfl, rfl⟩))
    (fun os started H enc _ => lifted os started H enc)

end Go.Proofs.Ytniecidkkhneeaa.ledbatTells
namespace Go.Proofs.Ytniecidkkhneeaa
theorem ledbatTells_holds : Rows.LedbatTellsSaid := ledbatTells.proved
#print axioms ledbatTells_holds
end Go.Proofs.Ytniecidkkhneeaa
