/- PROVED: ClockTells: clock.Right, Ways and Waits answer what J1 says, at every argument and every size. CONDITIONS: none. -/
import Derived.Test.YtngmjmehkehbeaaRefBase
namespace Go.Proofs.Ytngmjmehkehbeaa
open Go.RowKit
set_option linter.unusedVariables false

theorem jways_n (a : Option Addr) (c n : Nat) (ps : Rs) (R : List Int) (r : Nat) (w : World) (k : PRow w a ps) (e1 : ps.length = n) (h : n ≤ 8796093022206) (hR : ways ps = R) (hl : R.length = r) :
    Calls Try.prog 7 #[.slice a n c] w (AnsN w r R) := by
  subst e1
  exact (jways_any a c ps w k h).mono fun e w' q => q.told (by rw [hR]; exact hl) hR
theorem jwaits_n (a : Option Addr) (c n : Nat) (ps : Rs) (u v : Int) (R : List Int) (r : Nat) (w : World) (k : PRow w a ps) (e1 : ps.length = n) (h : n ≤ 8796093022206) (hu : u ≤ 9223372036854775807) (hv : v ≤ 9223372036854775807) (hR : waits ps u v = R) (hl : R.length = r) :
    Calls Try.prog 12 #[.slice a n c, .int .i64 u, .int .i64 v] w (AnsN w r R) := by
  subst e1
  exact (jwaits_any a c ps u v w k h hu hv).mono fun e w' q => q.told (by rw [hR]; exact hl) hR

set_option maxHeartbeats 3200000 in
theorem tells_any (x0 : Option Addr) (c0 n : Nat) (ps : Rs) (u v : Int) (W Y : List Int) (r q : Nat) (b : Bool) (w : World) (r0 : PRow w x0 ps) (l0 : Hid (ps.length = n)) (hn : n ≤ 8796093021952) (hu : u ≤ 9223372036854775807) (hv : v ≤ 9223372036854775807)
    (hW : Hid (waits ps u v = W)) (lW : Hid (W.length = r)) (hY : Hid (ways ps = Y)) (lY : Hid (Y.length = q)) (hr : r ≤ n) (hq : q ≤ n) (hb : Hid (decide (cright ps) = b)) (he : ((q : Int) == (n : Int)) = b) :
    Calls Try.prog 3 #[.slice x0 n c0, .int .i64 u, .int .i64 v] w fun e w' => e = .returned (.bool true) ∧ Below w.heap.size w w' := by
  have hbb : (b == b) = true := by simp
  have T1 := tok
  have T2 := tok
  have T3 := tok
  have T4 := tok
  have T5 := tok
  have T6 := tok
  have T7 := tok
  go_enter Try.func3, Try.ntmps3
  go_wp2_with (first
    | (clear T1; go_at_call 7; refine (jways_n x0 _ n ps Y q _ r0 l0.out (by omega) hY.out lY.out).mono ?_; rintro e v1 ⟨a1, d1, rfl, _, y, B⟩; replace r0 := r0.kept B)
    | (clear T2; go_at_call 8; refine (right_n x0 _ n ps _ r0 l0.out (by omega) b hb.out).mono ?_; rintro e v2 ⟨rfl, b2⟩; replace B := bthen B b2; replace r0 := r0.kept b2; replace y := y.kept b2; clear b2)
    | (clear T3; go_at_call 10; refine (ways_n x0 _ n ps Y q _ r0 l0.out (by omega) hY.out lY.out).mono ?_; rintro e v3 ⟨a3, d3, rfl, _, z, b3⟩; replace B := bthen B b3; replace r0 := r0.kept b3; replace y := y.kept b3; clear b3)
    | (clear T4; go_at_call 9; refine (equal_n a3 a1 _ _ q q Y Y _ z y lY.out lY.out (by omega) (by omega) true (eqRow Y)).mono ?_; rintro e v4 ⟨rfl, b4⟩; replace B := bthen B b4; replace r0 := r0.kept b4; clear b4 y z)
    | (clear T5; go_at_call 11; refine (waits_n x0 _ n ps u v W r _ r0 l0.out (by omega) hu hv hW.out lW.out).mono ?_; rintro e v5 ⟨a5, d5, rfl, _, y, b5⟩; replace B := bthen B b5; replace r0 := r0.kept b5; clear b5)
    | (clear T6; go_at_call 12; refine (jwaits_n x0 _ n ps u v W r _ r0 l0.out (by omega) hu hv hW.out lW.out).mono ?_; rintro e v6 ⟨a6, d6, rfl, _, z, b6⟩; replace B := bthen B b6; replace y := y.kept b6; clear b6 r0)
    | (clear T7; go_at_call 9; refine (equal_n a5 a6 _ _ r r W W _ y z lW.out lW.out (by omega) (by omega) true (eqRow W)).mono ?_; rintro e v7 ⟨rfl, b7⟩; replace B := bthen B b7; clear b7 y z))
  go_ret
  exact ⟨rfl, B⟩

theorem clockTells_walk (a0 : Option Addr) (cap0 : Nat) (z0 : Rs) (a1 a2 : Int) (w : World) (h0 : FarP w a0 cap0 z0) (w1 : -9223372036854775808 ≤ a1 ∧ a1 ≤ 9223372036854775807) (w2 : -9223372036854775808 ≤ a2 ∧ a2 ≤ 9223372036854775807) :
    Calls Try.prog 3 #[.slice a0 z0.length cap0, .int .i64 a1, .int .i64 a2] w fun e w' => e = .returned (.bool true) ∧ Below w.heap.size w w' := by
  refine tells_any a0 cap0 z0.length z0 a1 a2 _ _ _ _ _ w h0.1 rfl h0.2.1 w1.2 w2.2 rfl rfl rfl rfl (waits_le z0 a1 a2) (ways_le z0) rfl ?_
  by_cases h : cright z0
  · rw [decide_eq_true h, ways_len h]; simp
  · rw [decide_eq_false h, ways_no h]
    refine beq_eq_false_iff_ne.2 fun e => h fun j hj => ?_
    simp at e; omega

end Go.Proofs.Ytngmjmehkehbeaa
namespace Go.Proofs.Ytngmjmehkehbeaa.clockTells
open Go.ChangeShapes Go.WideShapes Go.ChangeAt Go.RowKit
set_option linter.unusedVariables false

set_option maxRecDepth 100000 in
theorem lifted (os : Os) (started : os.Started) (H : Type) (enc : TypeId × Value → H) :
    ReturnsInHanded {} Try.checked os 3 .any (Rows.clockTellsSpec.pre6 enc Try.prog Try.f3 Rows.clockTellsRow.domain false) (Rows.clockTellsSpec.post enc Try.prog Try.f3 false true false false) := by
  refine returnsInHanded_of_change_sized (C := Try.checked) own started (by kernel_rfl) Try.func3
    (ChangeSpec.witness6 (enc := enc) (C := Try.checked) false ⟨#[], #[.slice none 0 0, .int .i64 0, .int .i64 0], []⟩ 8 (by kernel_rfl) (by kernel_rfl) (by kernel_rfl) (by kernel_rfl)) ?_
  intro W base args ds gs before hval0 hW _ hsz0 _
  have hsz : (DataW.weightsEach Try.prog (Try.f3.params.toList ++ Rows.clockTellsSpec.plain.varTypes Try.prog) (ds ++ gs)).all (· ≤ reachBytes) = true := hsz0
  have hval : ∀ (j : Nat) t v, Try.f3.params[j]? = some t → args[j]? = some v → Value.okWide Try.prog W .any base t v := hval0
  have hW' := hW
  obtain ⟨p, q, hA0, hV, rfl, hfz, hnd⟩ := hW
  have hA : DataW.TrodAll enc Try.prog W 0 (fun _ => true) true Try.f3.params.toList args.toList ds p := hA0
  rw [Try.params3] at hA hval hsz
  obtain ⟨v0, vs0, d0, ds0, p0, q0, hargs, rfl, rfl, h0, r0⟩ := trodAll_cons hA
  obtain ⟨v1, vs1, d1, ds1, p1, q1, rfl, rfl, rfl, h1, r1⟩ := trodAll_cons r0
  obtain ⟨v2, vs2, d2, ds2, p2, q2, rfl, rfl, rfl, h2, r2⟩ := trodAll_cons r1
  obtain ⟨rfl, rfl, rfl⟩ := trodAll_nil r2
  obtain rfl : args = #[v0, v1, v2] := by cases args; simp_all
  obtain ⟨rfl, rfl⟩ := trodVars_none hV
  obtain ⟨a0, len0, cap0, rfl⟩ := okWide_slice Try.underlying22 (hval 0 22 v0 rfl rfl)
  have k0 := h0
  have lt0 : ∀ x ∈ p0, x.block < W.heap.size := by obtain ⟨m, hm⟩ := k0; exact DataW.trod_lt m _ _ _ hm
  obtain ⟨z0, rfl, w0⟩ := farP h0 (fun elems spare e => by
    subst e
    have := sized_slice hsz (j := 0) (t := 22) (e := 31) rfl rfl Try.underlying22
    rw [Try.bytes31] at this
    exact this)
  obtain ⟨a1, rfl, rfl, rfl, w1⟩ := open_int Try.underlying3 (hval 1 3 v1 rfl rfl) h1
  obtain ⟨a2, rfl, rfl, rfl, w2⟩ := open_int Try.underlying3 (hval 2 3 v2 rfl rfl) h2
  clear hA0 hval0 hsz0 hsz
  refine (clockTells_walk a0 cap0 z0 a1 a2 W w0 (fits w1) (fits w2)).mono fun e W' ⟨he, bel⟩ => ?_
  subst he
  exact ⟨_, rfl, _, _, _, [], _, [], hW', trodAll_mk1 (shut_bool Try.underlying4 _), (trodAll_cons_mk (Below.trod laidOut (by kernel_rfl) (of_decide_eq_true (by kernel_rfl)) k0 bel lt0) (trodAll_cons_mk (shut_int Try.underlying3 w1) (trodAll_cons_mk (shut_int Try.underlying3 w2) trodAll_mk0))), rfl, bel.frame _, fun h => by cases h⟩

theorem proved : Rows.ClockTellsSaid :=
  OpenClaim.holds_of_wide 3 Try.f3 rfl rfl rfl rfl rfl rfl rfl ⟨rfl, rfl, rfl, rfl, rfl⟩ rfl rfl rfl rfl rfl (by kernel_rfl) Try.func3 (by kernel_rfl)
    (of_decide_eq_true (by kernel_rfl)) (by unfold Func.isWrapper; first | (rw [if_pos (by decide +kernel)]; kernel_rfl) | (rw [if_neg (by decide +kernel)]; exact ⟨rfl, rfl⟩))
    (fun os started H enc _ => lifted os started H enc)

end Go.Proofs.Ytngmjmehkehbeaa.clockTells
namespace Go.Proofs.Ytngmjmehkehbeaa
theorem clockTells_holds : Rows.ClockTellsSaid := clockTells.proved
#print axioms clockTells_holds
end Go.Proofs.Ytngmjmehkehbeaa
