/- PROVED: a line is never more than its parts. CONDITIONS: none. -/
import Derived.Test.YtohfgaipalpncabAlive
import Derived.Test.YtohfgaipalpncabClose
import Derived.Test.YtohfgaipalpncabParts
import Derived.Test.YtohfgaipalpncabRight
namespace Go.Proofs.Ytohfgaipalpncab
open Go.RowKit
set_option linter.unusedVariables false

set_option maxRecDepth 100000 in
set_option maxHeartbeats 4000000 in
theorem line_none (x0 y0 a1 : Int) (m u : Nat) (S : List Int) (w : World) (hu : Hid (min (max a1 0) 300 = (u : Int))) (hS : Hid (line x0 y0 u = S)) (lS : Hid (S.length = m)) (hm : m ≤ 300) (hp : Hid (decide (parts S) = true)) (hc : Hid (close S = S)) (h0 : m = 0) :
    Calls Try.prog 3 #[.agg #[.int .i64 x0, .int .i64 y0], .int .i64 a1] w fun e w' => e = .returned (.bool true) ∧ Below w.heap.size w w' := by
  obtain ⟨w0, hw0⟩ : ∃ w0, w.alloc (.cells #[.int .i64 x0, .int .i64 y0] 23) = w0 := ⟨_, rfl⟩
  have B : Below w.heap.size w w0 := by rw [← hw0]; exact balloc (Below.refl _ _) _
  have K : Bk w0 w.heap.size x0 y0 := by rw [← hw0]; exact Bk.new w x0 y0
  have c2 : Hid (∀ v, Calls Try.prog 5 #[.agg #[.int .i64 x0, .int .i64 y0], .int .i64 a1] v (AnsN v m S)) := fun v => (line_nat x0 y0 a1 u hu.out v).mono fun e w' q => q.told (by rw [hS.out, lS.out]) hS.out
  have c3 : Hid (∀ v a c, Row v a S → Calls Try.prog 6 #[.slice a m c] v fun e w' => e = .returned (.bool true) ∧ Below v.heap.size v w') := fun v a c k => by
    have := parts_any a c S v k (by rw [lS.out]; omega)
    rw [lS.out, hp.out] at this; exact this
  have c5 : Hid (∀ v a c, Row v a S → Calls Try.prog 9 #[.slice a m c] v (AnsN v m S)) := fun v a c k => by
    have := close_any a c S v k (by rw [lS.out]; omega)
    rw [lS.out] at this
    exact this.mono fun e w' q => q.told (by rw [hc.out, lS.out]) hc.out
  subst h0
  have T1 := tok
  have T2 := tok
  have T3 := tok
  have T5 := tok
  have T6 := tok
  go_enter Try.func3, Try.ntmps3
  go_wp2_with (first
    | (clear T1; go_at_call 4; refine (alive_any _).mono ?_; rintro e v1 ⟨rfl, b1⟩; replace B := bthen B b1; replace K := K.kept b1; have cr := K.r; have cb := K.b; clear b1)
    | (clear T2; go_at_call 5; refine (c2.out _).mono ?_; rintro e v2 ⟨q2, d2, rfl, _, r2, b2⟩; replace B := bthen B b2; clear b2 cr cb K)
    | (clear T3; go_at_call 6; refine (c3.out _ _ _ r2).mono ?_; rintro e v3 ⟨rfl, b3⟩; replace B := bthen B b3; replace r2 := r2.kept b3; clear b3)
    | (clear T5; go_at_call 9; refine (c5.out _ _ _ r2).mono ?_; rintro e v5 ⟨q5, d5, rfl, _, r5, b5⟩; replace B := bthen B b5; replace r2 := r2.kept b5; clear b5)
    | (clear T6; go_at_call 8; refine (equal_n q5 q2 _ _ 0 0 S S _ r5 r2 lS.out lS.out (by omega) (by omega) true (decide_eq_true rfl)).mono ?_; rintro e v6 ⟨rfl, b6⟩; replace B := bthen B b6; clear b6 r5 r2))
  go_ret
  exact ⟨rfl, B⟩

set_option maxRecDepth 100000 in
set_option maxHeartbeats 4000000 in
theorem line_some (x0 y0 a1 : Int) (m u : Nat) (S : List Int) (w : World) (hu : Hid (min (max a1 0) 300 = (u : Int))) (hS : Hid (line x0 y0 u = S)) (lS : Hid (S.length = m)) (hm : m ≤ 300) (hp : Hid (decide (parts S) = true)) (hc : Hid (close S = S)) (h0 : ((m : Int) == 0) = false) (hr : Hid (decide (right S) = true)) :
    Calls Try.prog 3 #[.agg #[.int .i64 x0, .int .i64 y0], .int .i64 a1] w fun e w' => e = .returned (.bool true) ∧ Below w.heap.size w w' := by
  obtain ⟨w0, hw0⟩ : ∃ w0, w.alloc (.cells #[.int .i64 x0, .int .i64 y0] 23) = w0 := ⟨_, rfl⟩
  have B : Below w.heap.size w w0 := by rw [← hw0]; exact balloc (Below.refl _ _) _
  have K : Bk w0 w.heap.size x0 y0 := by rw [← hw0]; exact Bk.new w x0 y0
  have c2 : Hid (∀ v, Calls Try.prog 5 #[.agg #[.int .i64 x0, .int .i64 y0], .int .i64 a1] v (AnsN v m S)) := fun v => (line_nat x0 y0 a1 u hu.out v).mono fun e w' q => q.told (by rw [hS.out, lS.out]) hS.out
  have c3 : Hid (∀ v a c, Row v a S → Calls Try.prog 6 #[.slice a m c] v fun e w' => e = .returned (.bool true) ∧ Below v.heap.size v w') := fun v a c k => by
    have := parts_any a c S v k (by rw [lS.out]; omega)
    rw [lS.out, hp.out] at this; exact this
  have c5 : Hid (∀ v a c, Row v a S → Calls Try.prog 9 #[.slice a m c] v (AnsN v m S)) := fun v a c k => by
    have := close_any a c S v k (by rw [lS.out]; omega)
    rw [lS.out] at this
    exact this.mono fun e w' q => q.told (by rw [hc.out, lS.out]) hc.out
  have c4 : Hid (∀ v a c, Row v a S → Calls Try.prog 7 #[.slice a m c] v fun e w' => e = .returned (.bool true) ∧ Below v.heap.size v w') := fun v a c k => by
    have := right_any a c S v k (by rw [lS.out]; omega)
    rw [lS.out, hr.out] at this
    exact this.mono fun _ _ ⟨he, q, hw⟩ => ⟨he, hw ▸ below_drewN (Below.refl _ _) q⟩
  have T1 := tok
  have T2 := tok
  have T3 := tok
  have T4 := tok
  have T5 := tok
  have T6 := tok
  go_enter Try.func3, Try.ntmps3
  go_wp2_with (first
    | (clear T1; go_at_call 4; refine (alive_any _).mono ?_; rintro e v1 ⟨rfl, b1⟩; replace B := bthen B b1; replace K := K.kept b1; have cr := K.r; have cb := K.b; clear b1)
    | (clear T2; go_at_call 5; refine (c2.out _).mono ?_; rintro e v2 ⟨q2, d2, rfl, _, r2, b2⟩; replace B := bthen B b2; clear b2 cr cb K)
    | (clear T3; go_at_call 6; refine (c3.out _ _ _ r2).mono ?_; rintro e v3 ⟨rfl, b3⟩; replace B := bthen B b3; replace r2 := r2.kept b3; clear b3)
    | (clear T4; go_at_call 7; refine (c4.out _ _ _ r2).mono ?_; rintro e v4 ⟨rfl, b4⟩; replace B := bthen B b4; replace r2 := r2.kept b4; clear b4)
    | (clear T5; go_at_call 9; refine (c5.out _ _ _ r2).mono ?_; rintro e v5 ⟨q5, d5, rfl, _, r5, b5⟩; replace B := bthen B b5; replace r2 := r2.kept b5; clear b5)
    | (clear T6; go_at_call 8; refine (equal_n q5 q2 _ _ m m S S _ r5 r2 lS.out lS.out (by omega) (by omega) true (decide_eq_true rfl)).mono ?_; rintro e v6 ⟨rfl, b6⟩; replace B := bthen B b6; clear b6 r5 r2))
  go_ret
  exact ⟨rfl, B⟩

theorem bucketLine_walk (x0 y0 a1 : Int) (w : World) (w1 : -9223372036854775808 ≤ a1 ∧ a1 ≤ 9223372036854775807) :
    Calls Try.prog 3 #[.agg #[.int .i64 x0, .int .i64 y0], .int .i64 a1] w fun e w' => e = .returned (.bool true) ∧ Below w.heap.size w w' := by
  obtain ⟨u, hu⟩ : ∃ u : Nat, min (max a1 0) 300 = (u : Int) := ⟨(min (max a1 0) 300).toNat, by omega⟩
  have hu3 : u ≤ 300 := by omega
  have hm : (line x0 y0 u).length ≤ 300 := by
    unfold line; split
    · rw [outs_len]; omega
    · exact Nat.zero_le _
  by_cases h0 : (line x0 y0 u).length = 0
  · exact line_none x0 y0 a1 _ u _ w hu rfl rfl hm (decide_eq_true (line_parts x0 y0 u hu3)) (line_close x0 y0 u hu3) h0
  · exact line_some x0 y0 a1 _ u _ w hu rfl rfl hm (decide_eq_true (line_parts x0 y0 u hu3)) (line_close x0 y0 u hu3) (by simp only [beq_eq_false_iff_ne, ne_eq]; omega) (decide_eq_true (line_curve x0 y0 u hu3 h0))

end Go.Proofs.Ytohfgaipalpncab
namespace Go.Proofs.Ytohfgaipalpncab.bucketLine
open Go.ChangeShapes Go.WideShapes Go.ChangeAt Go.RowKit
set_option linter.unusedVariables false

set_option maxRecDepth 100000 in
theorem lifted (os : Os) (started : os.Started) (H : Type) (enc : TypeId × Value → H) :
    ReturnsInHanded {} Try.checked os 3 .any (Rows.bucketLineSpec.pre6 enc Try.prog Try.f3 Rows.bucketLineRow.domain false) (Rows.bucketLineSpec.post enc Try.prog Try.f3 false true false false) := by
  refine returnsInHanded_of_change_sized (C := Try.checked) own started (by kernel_rfl) Try.func3
    (ChangeSpec.witness6 (enc := enc) (C := Try.checked) false ⟨#[], #[.agg #[.int .i64 0, .int .i64 0], .int .i64 0], []⟩ 8 (by kernel_rfl) (by kernel_rfl) (by kernel_rfl) (by kernel_rfl)) ?_
  intro W base args ds gs before hval0 hW _ hsz0 _
  have hsz : (DataW.weightsEach Try.prog (Try.f3.params.toList ++ Rows.bucketLineSpec.plain.varTypes Try.prog) (ds ++ gs)).all (· ≤ reachBytes) = true := hsz0
  have hval : ∀ (j : Nat) t v, Try.f3.params[j]? = some t → args[j]? = some v → Value.okWide Try.prog W .any base t v := hval0
  have hW' := hW
  obtain ⟨p, q, hA0, hV, rfl, hfz, hnd⟩ := hW
  have hA : DataW.TrodAll enc Try.prog W 0 (fun _ => true) true Try.f3.params.toList args.toList ds p := hA0
  rw [Try.params3] at hA hval hsz
  obtain ⟨v0, vs0, d0, ds0, p0, q0, hargs, rfl, rfl, h0, r0⟩ := trodAll_cons hA
  obtain ⟨v1, vs1, d1, ds1, p1, q1, rfl, rfl, rfl, h1, r1⟩ := trodAll_cons r0
  obtain ⟨rfl, rfl, rfl⟩ := trodAll_nil r1
  obtain rfl : args = #[v0, v1] := by cases args; simp_all
  obtain ⟨rfl, rfl⟩ := trodVars_none hV
  obtain ⟨x0, y0, rfl, rfl, rfl, wx0, wy0⟩ := openBk (hval 0 23 v0 rfl rfl) h0
  obtain ⟨a1, rfl, rfl, rfl, w1⟩ := open_int Try.underlying3 (hval 1 3 v1 rfl rfl) h1
  clear hA0 hval0 hsz0 hsz
  refine (bucketLine_walk x0 y0 a1 W (fits w1)).mono fun e W' ⟨he, bel⟩ => ?_
  subst he
  exact ⟨_, rfl, _, _, _, [], _, [], hW', trodAll_mk1 (shut_bool Try.underlying4 _), (trodAll_cons_mk (shutBk wx0 wy0) (trodAll_cons_mk (shut_int Try.underlying3 w1) trodAll_mk0)), rfl, bel.frame _, fun h => by cases h⟩

theorem proved : Rows.BucketLineSaid :=
  OpenClaim.holds_of_wide 3 Try.f3 rfl rfl rfl rfl rfl rfl rfl ⟨rfl, rfl, rfl, rfl, rfl⟩ rfl rfl rfl rfl rfl (by kernel_rfl) Try.func3 (by kernel_rfl)
    (of_decide_eq_true (by kernel_rfl)) (by unfold Func.isWrapper; first | (rw [if_pos (by decide +kernel)]; kernel_rfl) | (rw [if_neg (by decide +kernel)]; exact ⟨rfl, rfl⟩))
    (fun os started H enc _ => lifted os started H enc)

end Go.Proofs.Ytohfgaipalpncab.bucketLine
namespace Go.Proofs.Ytohfgaipalpncab
theorem bucketLine_holds : Rows.BucketLineSaid := bucketLine.proved
#print axioms bucketLine_holds
end Go.Proofs.Ytohfgaipalpncab
