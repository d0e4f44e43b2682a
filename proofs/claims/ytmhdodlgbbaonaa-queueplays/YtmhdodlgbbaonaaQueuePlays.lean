/- PROVED: queue.Right, Play and Delays answer what chapter 7 says, at every argument. CONDITIONS: none. -/
import Derived.Test.YtmhdodlgbbaonaaQRefD
namespace Go.Proofs.Ytmhdodlgbbaonaa
open Go.RowKit
set_option linter.unusedVariables false

/-- both tell the same of a queue -/
theorem both_play (R M : Int) (a : Option Addr) (cap n : Nat) (z : List Int) (en : z.length = n) (hl : n ≤ 17592186044414) :
    ∃ (N : Nat) (X Y Z : List Int), N ≤ 300 ∧ X.length = N ∧ Y.length = N ∧ Z.length = N ∧ (∀ v, Row v a z → Calls Try.prog 9 #[.int .i64 R, .int .i64 M, .slice a n cap] v (Ans3 v N X Y Z)) ∧ (∀ v, Row v a z → Calls Try.prog 10 #[.int .i64 R, .int .i64 M, .slice a n cap] v (Ans3 v N X Y Z)) := by
  by_cases h : bright R M z
  · have hn := h.2.2.1
    subst en
    exact ⟨z.length, _, _, _, by omega, outs_len _ _, outs_len _ _, outs_len _ _, fun v kv => play_any R M a cap z v kv h, fun v kv => gplay_any R M a cap z v kv h⟩
  · exact ⟨0, [], [], [], by omega, rfl, rfl, rfl, fun v kv => play_none R M a cap n z v kv en h, fun v kv => gplay_none R M a cap n z v kv en hl h⟩
theorem both_delays (R : Int) (a : Option Addr) (cap n : Nat) (z : List Int) (en : z.length = n) (hc : n ≤ cap) (hl : n ≤ 17592186044414) :
    ∃ (N : Nat) (D : List Int), N ≤ 300 ∧ D.length = N ∧ (∀ v, Row v a z → Calls Try.prog 14 #[.int .i64 R, .slice a n cap] v (AnsN v N D)) ∧ (∀ v, Row v a z → Calls Try.prog 15 #[.int .i64 R, .slice a n cap] v (AnsN v N D)) := by
  by_cases h : bright R 1099511627776 z
  · have hn := h.2.2.1
    refine ⟨n, dels R z, by omega, ?_, fun v kv => delays_any R a cap n z v kv en h _ rfl, fun v kv => gdelays_any R a cap n z v kv en hc h _ rfl⟩
    unfold dels
    rw [if_pos h, outs_len, en]
  · exact ⟨0, [], by omega, rfl, fun v kv => delays_none R a cap n z v kv en h, fun v kv => gdelays_none R a cap n z v kv en hc hl h⟩

set_option maxHeartbeats 3200000 in
theorem queuePlays_walk (a0 a1 : Int) (a2 : Option Addr) (cap2 : Nat) (z2 : List Int) (w : World) (w0 : -9223372036854775808 ≤ a0 ∧ a0 ≤ 9223372036854775807) (w1 : -9223372036854775808 ≤ a1 ∧ a1 ≤ 9223372036854775807) (h2 : FarIn w a2 cap2 z2) :
    Calls Try.prog 3 #[.int .i64 a0, .int .i64 a1, .slice a2 z2.length cap2] w fun e w' => e = .returned (.bool true) ∧ Below w.heap.size w w' := by
  obtain ⟨r, hl, hc, _⟩ := h2
  clear w0 w1
  have q1 := fun v kv => qright_any a0 a1 a2 cap2 z2 v kv
  have q2 := fun v kv => fright_any a0 a1 a2 cap2 z2 v kv (by omega)
  obtain ⟨n, en⟩ : ∃ n, z2.length = n := ⟨_, rfl⟩
  obtain ⟨N, X, Y, Z, hN, lX, lY, lZ, p1, p2⟩ := both_play a0 a1 a2 cap2 n z2 en (by omega)
  obtain ⟨K, D, hK, lD, d1, d2⟩ := both_delays a0 a2 cap2 n z2 en (by omega) (by omega)
  rw [en] at q1 q2 hl hc ⊢
  clear en
  generalize decide (bright a0 a1 z2) = ok at q1 q2
  have hok : (ok == ok) = true := by cases ok <;> rfl
  replace p1 : Hid (∀ v, Row v a2 z2 → Calls Try.prog 9 #[.int .i64 a0, .int .i64 a1, .slice a2 n cap2] v (Ans3 v N X Y Z)) := p1
  replace p2 : Hid (∀ v, Row v a2 z2 → Calls Try.prog 10 #[.int .i64 a0, .int .i64 a1, .slice a2 n cap2] v (Ans3 v N X Y Z)) := p2
  replace d1 : Hid (∀ v, Row v a2 z2 → Calls Try.prog 14 #[.int .i64 a0, .slice a2 n cap2] v (AnsN v K D)) := d1
  replace d2 : Hid (∀ v, Row v a2 z2 → Calls Try.prog 15 #[.int .i64 a0, .slice a2 n cap2] v (AnsN v K D)) := d2
  replace q1 : Hid (∀ v, Row v a2 z2 → Calls Try.prog 11 #[.int .i64 a0, .int .i64 a1, .slice a2 n cap2] v fun e w' => e = .returned (.bool ok) ∧ Below v.heap.size v w') := q1
  replace q2 : Hid (∀ v, Row v a2 z2 → Calls Try.prog 12 #[.agg #[.int .i64 a0, .int .i64 a1], .slice a2 n cap2] v fun e w' => e = .returned (.bool ok) ∧ Below v.heap.size v w') := q2
  replace lX : Hid _ := lX
  replace lY : Hid _ := lY
  replace lZ : Hid _ := lZ
  replace lD : Hid _ := lD
  have B : Below w.heap.size w w := Below.refl _ _
  have T1 := tok
  have T2 := tok
  have T3 := tok
  have T4 := tok
  have T5 := tok
  have T6 := tok
  have T7 := tok
  have T8 := tok
  have T9 := tok
  have T10 := tok
  cases ok
  all_goals
    go_enter Try.func3, Try.ntmps3
    go_wp2_with (first
      | (clear T1; go_at_call 9; refine (p1.out _ r).mono ?_; rintro e v1 ⟨x1, c1, x2, c2, x3, c3, rfl, _, r1, r2, r3, b1⟩; replace B := bthen B b1; replace r := r.kept b1; clear b1)
      | (clear T2; go_at_call 10; refine (p2.out _ r).mono ?_; rintro e v2 ⟨x4, c4, x5, c5, x6, c6, rfl, _, r4, r5, r6, b2⟩; replace B := bthen B b2; replace r := r.kept b2; replace r1 := r1.kept b2; replace r2 := r2.kept b2; replace r3 := r3.kept b2; clear b2)
      | (clear T3; go_at_call 11; refine (q1.out _ r).mono ?_; rintro e v3 ⟨rfl, b3⟩; replace B := bthen B b3; replace r := r.kept b3; replace r1 := r1.kept b3; replace r2 := r2.kept b3; replace r3 := r3.kept b3; replace r4 := r4.kept b3; replace r5 := r5.kept b3; replace r6 := r6.kept b3; clear b3)
      | (clear T4; go_at_call 12; refine (q2.out _ r).mono ?_; rintro e v4 ⟨rfl, b4⟩; replace B := bthen B b4; replace r := r.kept b4; replace r1 := r1.kept b4; replace r2 := r2.kept b4; replace r3 := r3.kept b4; replace r4 := r4.kept b4; replace r5 := r5.kept b4; replace r6 := r6.kept b4; clear b4)
      | (clear T5; go_at_call 13; refine (equal_n x1 x4 _ _ N N X X _ r1 r4 lX.out lX.out (by omega) (by omega) true (decide_eq_true rfl)).mono ?_; rintro e v5 ⟨rfl, b5⟩; replace B := bthen B b5; replace r := r.kept b5; replace r2 := r2.kept b5; replace r3 := r3.kept b5; replace r5 := r5.kept b5; replace r6 := r6.kept b5; clear b5 r1 r4)
      | (clear T6; go_at_call 13; refine (equal_n x2 x5 _ _ N N Y Y _ r2 r5 lY.out lY.out (by omega) (by omega) true (decide_eq_true rfl)).mono ?_; rintro e v6 ⟨rfl, b6⟩; replace B := bthen B b6; replace r := r.kept b6; replace r3 := r3.kept b6; replace r6 := r6.kept b6; clear b6 r2 r5)
      | (clear T7; go_at_call 13; refine (equal_n x3 x6 _ _ N N Z Z _ r3 r6 lZ.out lZ.out (by omega) (by omega) true (decide_eq_true rfl)).mono ?_; rintro e v7 ⟨rfl, b7⟩; replace B := bthen B b7; replace r := r.kept b7; clear b7 r3 r6)
      | (clear T8; go_at_call 14; refine (d1.out _ r).mono ?_; rintro e v8 ⟨x8, c8, rfl, _, r8, b8⟩; replace B := bthen B b8; replace r := r.kept b8; clear b8)
      | (clear T9; go_at_call 15; refine (d2.out _ r).mono ?_; rintro e v9 ⟨x9, c9, rfl, _, r9, b9⟩; replace B := bthen B b9; replace r8 := r8.kept b9; clear b9 r)
      | (clear T10; go_at_call 13; refine (equal_n x8 x9 _ _ K K D D _ r8 r9 lD.out lD.out (by omega) (by omega) true (decide_eq_true rfl)).mono ?_; rintro e v10 ⟨rfl, b10⟩; replace B := bthen B b10; clear b10 r8 r9))
    go_ret
    exact ⟨rfl, B⟩

end Go.Proofs.Ytmhdodlgbbaonaa
namespace Go.Proofs.Ytmhdodlgbbaonaa.queuePlays
open Go.ChangeShapes Go.WideShapes Go.ChangeAt Go.RowKit
set_option linter.unusedVariables false

set_option maxRecDepth 100000 in
theorem lifted (os : Os) (started : os.Started) (H : Type) (enc : TypeId × Value → H) :
    ReturnsInHanded {} Try.checked os 3 .any (Rows.queuePlaysSpec.pre6 enc Try.prog Try.f3 Rows.queuePlaysRow.domain false) (Rows.queuePlaysSpec.post enc Try.prog Try.f3 false true false false) := by
  refine returnsInHanded_of_change_sized (C := Try.checked) own started (by kernel_rfl) Try.func3
    (ChangeSpec.witness6 (enc := enc) (C := Try.checked) false ⟨#[], #[.int .i64 0, .int .i64 0, .slice none 0 0], []⟩ 8 (by kernel_rfl) (by kernel_rfl) (by kernel_rfl) (by kernel_rfl)) ?_
  intro W base args ds gs before hval0 hW _ hsz0 _
  have hsz : (DataW.weightsEach Try.prog (Try.f3.params.toList ++ Rows.queuePlaysSpec.plain.varTypes Try.prog) (ds ++ gs)).all (· ≤ reachBytes) = true := hsz0
  have hval : ∀ (j : Nat) t v, Try.f3.params[j]? = some t → args[j]? = some v → Value.okWide Try.prog W .any base t v := hval0
  have hW' := hW
  obtain ⟨p, q, hA0, hV, rfl, hfz, hnd⟩ := hW
  have hA : DataW.TrodAll enc Try.prog W 0 (fun _ => true) true Try.f3.params.toList args.toList ds p := hA0
  rw [Try.params3] at hA hval hsz
  obtain ⟨v0, vs0, d0, ds0, p0, q0, hargs, rfl, rfl, h0, r0⟩ := trodAll_cons hA
  obtain ⟨v1, vs1, d1, ds1, p1, q1, rfl, rfl, rfl, h1, r1⟩ := trodAll_cons r0
  obtain ⟨v2, vs2, d2, ds2, p2, q2, rfl, rfl, rfl, h2, r2⟩ := trodAll_cons r1
  obtain ⟨rfl, rfl, rfl⟩ := trodAll_nil r2
  obtain rfl : args = #[v0, v1, v2] := by cases args; simp_all
  obtain ⟨rfl, rfl⟩ := trodVars_none hV
  obtain ⟨a0, rfl, rfl, rfl, w0⟩ := open_int Try.underlying3 (hval 0 3 v0 rfl rfl) h0
  obtain ⟨a1, rfl, rfl, rfl, w1⟩ := open_int Try.underlying3 (hval 1 3 v1 rfl rfl) h1
  obtain ⟨a2, len2, cap2, rfl⟩ := okWide_slice Try.underlying22 (hval 2 22 v2 rfl rfl)
  have k2 := h2
  have lt2 : ∀ x ∈ p2, x.block < W.heap.size := by obtain ⟨m, hm⟩ := k2; exact DataW.trod_lt m _ _ _ hm
  obtain ⟨z2, rfl, w2⟩ := farIn h2 (fun elems spare e => by
    subst e
    have := sized_slice hsz (j := 2) (t := 22) (e := 3) rfl rfl Try.underlying22
    rw [Try.bytes3] at this
    exact this)
  clear hA0 hval0 hsz0 hsz
  refine (queuePlays_walk a0 a1 a2 cap2 z2 W (fits w0) (fits w1) w2).mono fun e W' ⟨he, bel⟩ => ?_
  subst he
  exact ⟨_, rfl, _, _, _, [], _, [], hW', trodAll_mk1 (shut_bool Try.underlying4 _), (trodAll_cons_mk (shut_int Try.underlying3 w0) (trodAll_cons_mk (shut_int Try.underlying3 w1) (trodAll_cons_mk (Below.trod laidOut (by kernel_rfl) (of_decide_eq_true (by kernel_rfl)) k2 bel lt2) trodAll_mk0))), rfl, bel.frame _, fun h => by cases h⟩

theorem proved : Rows.QueuePlaysSaid :=
  OpenClaim.holds_of_wide 3 Try.f3 rfl rfl rfl rfl rfl rfl rfl ⟨rfl, rfl, rfl, rfl, rfl⟩ rfl rfl rfl rfl rfl (by kernel_rfl) Try.func3 (by kernel_rfl)
    (of_decide_eq_true (by kernel_rfl)) (by unfold Func.isWrapper; first | (rw [if_pos (by decide +kernel)]; kernel_rfl) | (rw [if_neg (by decide +kernel)]; exact ⟨rfl, rfl⟩))
    (fun os started H enc _ => lifted os started H enc)

end Go.Proofs.Ytmhdodlgbbaonaa.queuePlays
namespace Go.Proofs.Ytmhdodlgbbaonaa
theorem queuePlays_holds : Rows.QueuePlaysSaid := queuePlays.proved
#print axioms queuePlays_holds
end Go.Proofs.Ytmhdodlgbbaonaa
