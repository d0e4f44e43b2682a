/- PROVED: MORE ROOM LOSES NO MORE, AND NEITHER DOES A FASTER ONE, at every number and every row of steps. CONDITIONS: none. -/
import Derived.Test.YtmhdodlgbbaonaaGets
namespace Go.Proofs.Ytmhdodlgbbaonaa
open Go.RowKit
set_option linter.unusedVariables false

theorem qright_n (R M : Int) (a : Option Addr) (c n : Nat) (f : List Int) (w : World) (k : Row w a f) (e1 : f.length = n) (b : Bool) (hb : decide (bright R M f) = b) :
    Calls Try.prog 11 #[.int .i64 R, .int .i64 M, .slice a n c] w fun e w' => e = .returned (.bool b) ∧ Below w.heap.size w w' := by
  subst e1; subst hb
  exact qright_any R M a c f w k
theorem wrap_up {R f Q : Int} (hq : wrap64 (R + f) = Q) (hR : inr R) (hQ : inr Q) (h0 : 0 ≤ f) (h1 : f ≤ 9223372036854775807) : R ≤ Q := by
  unfold inr at *
  by_cases c : R + f ≤ 9223372036854775807
  · rw [IntWalk.wrap64_in _ (by omega)] at hq; omega
  · exfalso
    unfold wrap64 at hq
    omega

set_option maxHeartbeats 3200000 in
theorem more_go (R M f g Q N : Int) (a : Option Addr) (cap n : Nat) (z P1 L1 W1 P2 L2 W2 OP1 OL1 OP2 OL2 : List Int) (w : World) (r : Row w a z) (en : Hid (z.length = n)) (hn : n < 300) (hq : wrap64 (R + f) = Q) (hq2 : wrap64 (M + g) = N) (hf : 0 ≤ f) (hg : 0 ≤ g)
    (h1 : Hid (bright R M z)) (h2 : Hid (bright Q N z)) (hP1 : Hid (pw R M z = P1)) (hL1 : Hid (pl R M z = L1)) (hW1 : Hid (pq R M z = W1)) (hP2 : Hid (pw Q N z = P2)) (hL2 : Hid (pl Q N z = L2)) (hW2 : Hid (pq Q N z = W2))
    (lP1 : Hid (P1.length = n)) (lL1 : Hid (L1.length = n)) (lP2 : Hid (P2.length = n)) (lL2 : Hid (L2.length = n)) (o1 : Hid (of P1 = OP1)) (o2 : Hid (of L1 = OL1)) (o3 : Hid (of P2 = OP2)) (o4 : Hid (of L2 = OL2))
    (m1 : Hid (OP1.length = n + 1)) (m2 : Hid (OL1.length = n + 1)) (m3 : Hid (OP2.length = n + 1)) (m4 : Hid (OL2.length = n + 1)) (k1 : Hid (below OL2 OL1)) (k2 : Hid (below OP1 OP2)) :
    Calls Try.prog 8 #[.int .i64 R, .int .i64 M, .int .i64 f, .int .i64 g, .slice a n cap] w fun e w' => e = .returned (.bool true) ∧ Below w.heap.size w w' := by
  have B : Below w.heap.size w w := Below.refl _ _
  have T1 := tok
  have T2 := tok
  have T3 := tok
  have T4 := tok
  have T5 := tok
  have T6 := tok
  have T7 := tok
  have T8 := tok
  have T9 := tok
  have T10 := tok
  have T11 := tok
  go_enter Try.func8, Try.ntmps8
  go_wp2_with (first
    | (clear T1; go_at_call 16; refine (alive_any _).mono ?_; rintro e v1 ⟨rfl, b1⟩; replace B := bthen B b1; replace r := r.kept b1; clear b1)
    | (clear T2; go_at_call 11; refine (qright_n Q N a _ n z _ r en.out true (decide_eq_true h2.out)).mono ?_; rintro e v2 ⟨rfl, b2⟩; replace B := bthen B b2; replace r := r.kept b2; clear b2)
    | (clear T3; go_at_call 11; refine (qright_n R M a _ n z _ r en.out true (decide_eq_true h1.out)).mono ?_; rintro e v3 ⟨rfl, b3⟩; replace B := bthen B b3; replace r := r.kept b3; clear b3)
    | (clear T4; go_at_call 9; refine (play_r R M a _ n z P1 L1 W1 _ r en.out h1.out hP1.out hL1.out hW1.out).mono ?_; rintro e v4 ⟨a1, c1, a2, c2, a3, c3, rfl, _, r1, r2, _, b4⟩; replace B := bthen B b4; replace r := r.kept b4; clear b4)
    | (clear T5; go_at_call 9; refine (play_r Q N a _ n z P2 L2 W2 _ r en.out h2.out hP2.out hL2.out hW2.out).mono ?_; rintro e v5 ⟨a4, c4, a5, c5, a6, c6, rfl, _, r4, r5, _, b5⟩; replace B := bthen B b5; replace r1 := r1.kept b5; replace r2 := r2.kept b5; clear b5 r)
    | (clear T6; go_at_call 17; refine (of_r a5 _ n L2 OL2 o4.out _ r5 lL2.out (by omega)).mono ?_; rintro e v6 ⟨a7, c7, rfl, _, r7, b6⟩; replace B := bthen B b6; replace r1 := r1.kept b6; replace r2 := r2.kept b6; replace r4 := r4.kept b6; clear b6 r5)
    | (clear T7; go_at_call 17; refine (of_r a2 _ n L1 OL1 o2.out _ r2 lL1.out (by omega)).mono ?_; rintro e v7 ⟨a8, c8, rfl, _, r8, b7⟩; replace B := bthen B b7; replace r1 := r1.kept b7; replace r4 := r4.kept b7; replace r7 := r7.kept b7; clear b7 r2)
    | (clear T8; go_at_call 22; refine (within_n a7 a8 _ _ (n + 1) (n + 1) OL2 OL1 _ r7 r8 m4.out m2.out (by omega) (by omega) true (decide_eq_true k1.out)).mono ?_; rintro e v8 ⟨rfl, b8⟩; replace B := bthen B b8; replace r1 := r1.kept b8; replace r4 := r4.kept b8; clear b8 r7 r8)
    | (clear T9; go_at_call 17; refine (of_r a1 _ n P1 OP1 o1.out _ r1 lP1.out (by omega)).mono ?_; rintro e v9 ⟨a9, c9, rfl, _, r9, b9⟩; replace B := bthen B b9; replace r4 := r4.kept b9; clear b9 r1)
    | (clear T10; go_at_call 17; refine (of_r a4 _ n P2 OP2 o3.out _ r4 lP2.out (by omega)).mono ?_; rintro e v10 ⟨a10, c10, rfl, _, r10, b10⟩; replace B := bthen B b10; replace r9 := r9.kept b10; clear b10 r4)
    | (clear T11; go_at_call 22; refine (within_n a9 a10 _ _ (n + 1) (n + 1) OP1 OP2 _ r9 r10 m1.out m3.out (by omega) (by omega) true (decide_eq_true k2.out)).mono ?_; rintro e v11 ⟨rfl, b11⟩; replace B := bthen B b11; clear b11 r9 r10))
  go_ret
  exact ⟨rfl, B⟩

set_option maxHeartbeats 1600000 in
theorem more_not (R M f g Q N : Int) (a : Option Addr) (cap n : Nat) (z : List Int) (w : World) (r : Row w a z) (en : Hid (z.length = n)) (hq : wrap64 (R + f) = Q) (hq2 : wrap64 (M + g) = N) (hf : 0 ≤ f) (hg : 0 ≤ g) (b : Bool)
    (h2 : Hid (decide (bright Q N z) = b)) (h1 : Hid (decide (bright R M z) = false)) :
    Calls Try.prog 8 #[.int .i64 R, .int .i64 M, .int .i64 f, .int .i64 g, .slice a n cap] w fun e w' => e = .returned (.bool true) ∧ Below w.heap.size w w' := by
  have B : Below w.heap.size w w := Below.refl _ _
  have T1 := tok
  have T2 := tok
  have T3 := tok
  cases b
  · go_enter Try.func8, Try.ntmps8
    go_wp2_with (first
      | (clear T1; go_at_call 16; refine (alive_any _).mono ?_; rintro e v1 ⟨rfl, b1⟩; replace B := bthen B b1; replace r := r.kept b1; clear b1)
      | (clear T2; go_at_call 11; refine (qright_n Q N a _ n z _ r en.out false h2.out).mono ?_; rintro e v2 ⟨rfl, b2⟩; replace B := bthen B b2; replace r := r.kept b2; clear b2))
    go_ret
    exact ⟨rfl, B⟩
  · go_enter Try.func8, Try.ntmps8
    go_wp2_with (first
      | (clear T1; go_at_call 16; refine (alive_any _).mono ?_; rintro e v1 ⟨rfl, b1⟩; replace B := bthen B b1; replace r := r.kept b1; clear b1)
      | (clear T2; go_at_call 11; refine (qright_n Q N a _ n z _ r en.out true h2.out).mono ?_; rintro e v2 ⟨rfl, b2⟩; replace B := bthen B b2; replace r := r.kept b2; clear b2)
      | (clear T3; go_at_call 11; refine (qright_n R M a _ n z _ r en.out false h1.out).mono ?_; rintro e v3 ⟨rfl, b3⟩; replace B := bthen B b3; replace r := r.kept b3; clear b3))
    go_ret
    exact ⟨rfl, B⟩
set_option maxHeartbeats 1600000 in
theorem more_not2 (R M f g Q N : Int) (a : Option Addr) (cap n : Nat) (z : List Int) (w : World) (r : Row w a z) (en : Hid (z.length = n)) (hq : wrap64 (R + f) = Q) (hq2 : wrap64 (M + g) = N) (hf : 0 ≤ f) (hg : 0 ≤ g)
    (h2 : Hid (decide (bright Q N z) = false)) :
    Calls Try.prog 8 #[.int .i64 R, .int .i64 M, .int .i64 f, .int .i64 g, .slice a n cap] w fun e w' => e = .returned (.bool true) ∧ Below w.heap.size w w' := by
  have B : Below w.heap.size w w := Below.refl _ _
  have T1 := tok
  have T2 := tok
  go_enter Try.func8, Try.ntmps8
  go_wp2_with (first
    | (clear T1; go_at_call 16; refine (alive_any _).mono ?_; rintro e v1 ⟨rfl, b1⟩; replace B := bthen B b1; replace r := r.kept b1; clear b1)
    | (clear T2; go_at_call 11; refine (qright_n Q N a _ n z _ r en.out false h2.out).mono ?_; rintro e v2 ⟨rfl, b2⟩; replace B := bthen B b2; replace r := r.kept b2; clear b2))
  go_ret
  exact ⟨rfl, B⟩
set_option maxHeartbeats 1600000 in
theorem more_low (R M f g : Int) (a : Option Addr) (cap n : Nat) (w : World) (hf : f < 0 ∨ 0 ≤ f ∧ g < 0) :
    Calls Try.prog 8 #[.int .i64 R, .int .i64 M, .int .i64 f, .int .i64 g, .slice a n cap] w fun e w' => e = .returned (.bool true) ∧ Below w.heap.size w w' := by
  have B : Below w.heap.size w w := Below.refl _ _
  have T1 := tok
  rcases hf with hf | ⟨hf, hg⟩
  · go_enter Try.func8, Try.ntmps8
    go_wp2_with (clear T1; go_at_call 16; refine (alive_any _).mono ?_; rintro e v1 ⟨rfl, b1⟩; replace B := bthen B b1; clear b1)
    go_ret
    exact ⟨rfl, B⟩
  · go_enter Try.func8, Try.ntmps8
    go_wp2_with (clear T1; go_at_call 16; refine (alive_any _).mono ?_; rintro e v1 ⟨rfl, b1⟩; replace B := bthen B b1; clear b1)
    go_ret
    exact ⟨rfl, B⟩

theorem queueMore_walk (a0 a1 a2 a3 : Int) (a4 : Option Addr) (cap4 : Nat) (z4 : List Int) (w : World) (w0 : -9223372036854775808 ≤ a0 ∧ a0 ≤ 9223372036854775807) (w1 : -9223372036854775808 ≤ a1 ∧ a1 ≤ 9223372036854775807) (w2 : -9223372036854775808 ≤ a2 ∧ a2 ≤ 9223372036854775807) (w3 : -9223372036854775808 ≤ a3 ∧ a3 ≤ 9223372036854775807) (h4 : FarIn w a4 cap4 z4) :
    Calls Try.prog 8 #[.int .i64 a0, .int .i64 a1, .int .i64 a2, .int .i64 a3, .slice a4 z4.length cap4] w fun e w' => e = .returned (.bool true) ∧ Below w.heap.size w w' := by
  by_cases hf : a2 < 0
  · exact more_low a0 a1 a2 a3 a4 cap4 z4.length w (.inl hf)
  by_cases hg : a3 < 0
  · exact more_low a0 a1 a2 a3 a4 cap4 z4.length w (.inr ⟨by omega, hg⟩)
  by_cases h2 : bright (wrap64 (a0 + a2)) (wrap64 (a1 + a3)) z4
  · by_cases h1 : bright a0 a1 z4
    · have u1 : a0 ≤ wrap64 (a0 + a2) := wrap_up rfl h1.1 h2.1 (by omega) (by omega)
      have u2 : a1 ≤ wrap64 (a1 + a3) := wrap_up rfl h1.2.1 h2.2.1 (by omega) (by omega)
      exact more_go a0 a1 a2 a3 _ _ a4 cap4 z4.length z4 _ _ _ _ _ _ _ _ _ _ w h4.1 rfl h1.2.2.1 rfl rfl (by omega) (by omega) h1 h2 rfl rfl rfl rfl rfl rfl (pw_len h1) (pl_len h1) (pw_len h2) (pl_len h2) rfl rfl rfl rfl
        (by show _ = _; rw [of_len, pw_len h1]) (by show _ = _; rw [of_len, pl_len h1]) (by show _ = _; rw [of_len, pw_len h2]) (by show _ = _; rw [of_len, pl_len h2]) (more_lost h1 h2 u1 u2) (more_went h1 h2 u1 u2)
    · exact more_not a0 a1 a2 a3 _ _ a4 cap4 z4.length z4 w h4.1 rfl rfl rfl (by omega) (by omega) _ (decide_eq_true h2) (decide_eq_false h1)
  · exact more_not2 a0 a1 a2 a3 _ _ a4 cap4 z4.length z4 w h4.1 rfl rfl rfl (by omega) (by omega) (decide_eq_false h2)

end Go.Proofs.Ytmhdodlgbbaonaa
namespace Go.Proofs.Ytmhdodlgbbaonaa.queueMore
open Go.ChangeShapes Go.WideShapes Go.ChangeAt Go.RowKit
set_option linter.unusedVariables false

set_option maxRecDepth 100000 in
theorem lifted (os : Os) (started : os.Started) (H : Type) (enc : TypeId × Value → H) :
    ReturnsInHanded {} Try.checked os 8 .any (Rows.queueMoreSpec.pre6 enc Try.prog Try.f8 Rows.queueMoreRow.domain false) (Rows.queueMoreSpec.post enc Try.prog Try.f8 false true false false) := by
  refine returnsInHanded_of_change_sized (C := Try.checked) own started (by kernel_rfl) Try.func8
    (ChangeSpec.witness6 (enc := enc) (C := Try.checked) false ⟨#[], #[.int .i64 0, .int .i64 0, .int .i64 0, .int .i64 0, .slice none 0 0], []⟩ 8 (by kernel_rfl) (by kernel_rfl) (by kernel_rfl) (by kernel_rfl)) ?_
  intro W base args ds gs before hval0 hW _ hsz0 _
  have hsz : (DataW.weightsEach Try.prog (Try.f8.params.toList ++ Rows.queueMoreSpec.plain.varTypes Try.prog) (ds ++ gs)).all (· ≤ reachBytes) = true := hsz0
  have hval : ∀ (j : Nat) t v, Try.f8.params[j]? = some t → args[j]? = some v → Value.okWide Try.prog W .any base t v := hval0
  have hW' := hW
  obtain ⟨p, q, hA0, hV, rfl, hfz, hnd⟩ := hW
  have hA : DataW.TrodAll enc Try.prog W 0 (fun _ => true) true Try.f8.params.toList args.toList ds p := hA0
  rw [Try.params8] at hA hval hsz
  obtain ⟨v0, vs0, d0, ds0, p0, q0, hargs, rfl, rfl, h0, r0⟩ := trodAll_cons hA
  obtain ⟨v1, vs1, d1, ds1, p1, q1, rfl, rfl, rfl, h1, r1⟩ := trodAll_cons r0
  obtain ⟨v2, vs2, d2, ds2, p2, q2, rfl, rfl, rfl, h2, r2⟩ := trodAll_cons r1
  obtain ⟨v3, vs3, d3, ds3, p3, q3, rfl, rfl, rfl, h3, r3⟩ := trodAll_cons r2
  obtain ⟨v4, vs4, d4, ds4, p4, q4, rfl, rfl, rfl, h4, r4⟩ := trodAll_cons r3
  obtain ⟨rfl, rfl, rfl⟩ := trodAll_nil r4
  obtain rfl : args = #[v0, v1, v2, v3, v4] := by cases args; simp_all
  obtain ⟨rfl, rfl⟩ := trodVars_none hV
  obtain ⟨a0, rfl, rfl, rfl, w0⟩ := open_int Try.underlying3 (hval 0 3 v0 rfl rfl) h0
  obtain ⟨a1, rfl, rfl, rfl, w1⟩ := open_int Try.underlying3 (hval 1 3 v1 rfl rfl) h1
  obtain ⟨a2, rfl, rfl, rfl, w2⟩ := open_int Try.underlying3 (hval 2 3 v2 rfl rfl) h2
  obtain ⟨a3, rfl, rfl, rfl, w3⟩ := open_int Try.underlying3 (hval 3 3 v3 rfl rfl) h3
  obtain ⟨a4, len4, cap4, rfl⟩ := okWide_slice Try.underlying22 (hval 4 22 v4 rfl rfl)
  have k4 := h4
  have lt4 : ∀ x ∈ p4, x.block < W.heap.size := by obtain ⟨m, hm⟩ := k4; exact DataW.trod_lt m _ _ _ hm
  obtain ⟨z4, rfl, w4⟩ := farIn h4 (fun elems spare e => by
    subst e
    have := sized_slice hsz (j := 4) (t := 22) (e := 3) rfl rfl Try.underlying22
    rw [Try.bytes3] at this
    exact this)
  clear hA0 hval0 hsz0 hsz
  refine (queueMore_walk a0 a1 a2 a3 a4 cap4 z4 W (fits w0) (fits w1) (fits w2) (fits w3) w4).mono fun e W' ⟨he, bel⟩ => ?_
  subst he
  exact ⟨_, rfl, _, _, _, [], _, [], hW', trodAll_mk1 (shut_bool Try.underlying4 _), (trodAll_cons_mk (shut_int Try.underlying3 w0) (trodAll_cons_mk (shut_int Try.underlying3 w1) (trodAll_cons_mk (shut_int Try.underlying3 w2) (trodAll_cons_mk (shut_int Try.underlying3 w3) (trodAll_cons_mk (Below.trod laidOut (by kernel_rfl) (of_decide_eq_true (by kernel_rfl)) k4 bel lt4) trodAll_mk0))))), rfl, bel.frame _, fun h => by cases h⟩

theorem proved : Rows.QueueMoreSaid :=
  OpenClaim.holds_of_wide 8 Try.f8 rfl rfl rfl rfl rfl rfl rfl ⟨rfl, rfl, rfl, rfl, rfl⟩ rfl rfl rfl rfl rfl (by kernel_rfl) Try.func8 (by kernel_rfl)
    (of_decide_eq_true (by kernel_rfl)) (by unfold Func.isWrapper; first | (rw [if_pos (by decide +kernel)]; kernel_rfl) | (rw [if_neg (by decide +kernel)]; exact ⟨rfl, rfl⟩))
    (fun os started H enc _ => lifted os started H enc)

end Go.Proofs.Ytmhdodlgbbaonaa.queueMore
namespace Go.Proofs.Ytmhdodlgbbaonaa
theorem queueMore_holds : Rows.QueueMoreSaid := queueMore.proved
#print axioms queueMore_holds
end Go.Proofs.Ytmhdodlgbbaonaa
