/- PROVED: WHAT COMES GOES, IS LOST, OR WAITS, at every number and every row of steps. CONDITIONS: none. -/
import Derived.Test.YtmhdodlgbbaonaaGets
namespace Go.Proofs.Ytmhdodlgbbaonaa
open Go.RowKit
set_option linter.unusedVariables false

/-- six rows at once -/
structure Six (w : World) (a1 a2 a3 a4 a5 a6 : Option Addr) (z1 z2 z3 z4 z5 z6 : List Int) : Prop where
  r1 : Row w a1 z1
  r2 : Row w a2 z2
  r3 : Row w a3 z3
  r4 : Row w a4 z4
  r5 : Row w a5 z5
  r6 : Row w a6 z6
theorem Six.drewN {w : World} {a1 a2 a3 a4 a5 a6 : Option Addr} {z1 z2 z3 z4 z5 z6 : List Int} (h : Six w a1 a2 a3 a4 a5 a6 z1 z2 z3 z4 z5 z6) (q : Nat) : Six (w.drewN q) a1 a2 a3 a4 a5 a6 z1 z2 z3 z4 z5 z6 :=
  ⟨h.r1.drewN q, h.r2.drewN q, h.r3.drewN q, h.r4.drewN q, h.r5.drewN q, h.r6.drewN q⟩

set_option maxHeartbeats 3200000 in
set_option maxRecDepth 100000 in
theorem sums_go (R M : Int) (a : Option Addr) (cap n : Nat) (z P L Q OZ OP OL : List Int) (A G E : Nat → Int) (w : World) (r : Row w a z) (en : Hid (z.length = n)) (hn : n < 300) (hR : 0 ≤ R ∧ R ≤ 1099511627776) (hM : 0 ≤ M ∧ M ≤ 1099511627776) (hb : Hid (bright R M z))
    (hP : Hid (pw R M z = P)) (hL : Hid (pl R M z = L)) (hQ : Hid (pq R M z = Q)) (lP : Hid (P.length = n)) (lL : Hid (L.length = n)) (lQ : Hid (Q.length = n))
    (o1 : Hid (of z = OZ)) (o2 : Hid (of P = OP)) (o3 : Hid (of L = OL)) (m1 : Hid (OZ.length = n + 1)) (m2 : Hid (OP.length = n + 1)) (m3 : Hid (OL.length = n + 1))
    (g1 : Hid (∀ j, j ≤ n → OZ.getD j 0 = A j)) (g2 : Hid (∀ j, j ≤ n → OP.getD j 0 = G j)) (g3 : Hid (∀ j, j ≤ n → OL.getD j 0 = E j))
    (i1 : Hid (∀ j, j ≤ n → 0 ≤ G j ∧ G j ≤ 329853488332800)) (i2 : Hid (∀ j, j ≤ n → 0 ≤ E j ∧ E j ≤ 329853488332800))
    (k1 : Hid (∀ j, j < n → A (j + 1) = G (j + 1) + E (j + 1) + Q.getD j 0)) (k2 : Hid (∀ j, j < n → 0 ≤ Q.getD j 0 ∧ Q.getD j 0 ≤ M)) (k3 : Hid (∀ j, j < n → inr (L.getD j 0))) (k4 : Hid (∀ j, j < n → 0 < L.getD j 0 → Q.getD j 0 = M)) (k5 : Hid (∀ j, j < n → 0 < Q.getD j 0 + L.getD j 0 → P.getD j 0 = R)) (k6 : Hid (∀ j, j < n → P.getD j 0 ≤ R)) :
    Calls Try.prog 4 #[.int .i64 R, .int .i64 M, .slice a n cap] w fun e w' => e = .returned (.bool true) ∧ Below w.heap.size w w' := by
  have B : Below w.heap.size w w := Below.refl _ _
  have T1 := tok
  have T2 := tok
  have T3 := tok
  have T4 := tok
  have T5 := tok
  go_enter Try.func4, Try.ntmps4
  go_wp2_with (first
    | (clear T1; go_at_call 16; refine (alive_any _).mono ?_; rintro e v1 ⟨rfl, b1⟩; replace B := bthen B b1; replace r := r.kept b1; clear b1)
    | (clear T2; go_at_call 9; refine (play_r R M a _ n z P L Q _ r en.out hb.out hP.out hL.out hQ.out).mono ?_; rintro e v2 ⟨a1, c1, a2, c2, a3, c3, rfl, _, r1, r2, r3, b2⟩; replace B := bthen B b2; replace r := r.kept b2; clear b2)
    | (clear T3; go_at_call 17; refine (of_r a _ n z OZ o1.out _ r en.out (by omega)).mono ?_; rintro e v3 ⟨a4, c4, rfl, _, r4, b3⟩; replace B := bthen B b3; replace r1 := r1.kept b3; replace r2 := r2.kept b3; replace r3 := r3.kept b3; clear b3 r)
    | (clear T4; go_at_call 17; refine (of_r a1 _ n P OP o2.out _ r1 lP.out (by omega)).mono ?_; rintro e v4 ⟨a5, c5, rfl, _, r5, b4⟩; replace B := bthen B b4; replace r1 := r1.kept b4; replace r2 := r2.kept b4; replace r3 := r3.kept b4; replace r4 := r4.kept b4; clear b4)
    | (clear T5; go_at_call 17; refine (of_r a2 _ n L OL o3.out _ r2 lL.out (by omega)).mono ?_; rintro e v5 ⟨a6, c6, rfl, _, r6, b5⟩; replace B := bthen B b5; replace r1 := r1.kept b5; replace r2 := r2.kept b5; replace r3 := r3.kept b5; replace r4 := r4.kept b5; replace r5 := r5.kept b5; clear b5))
  generalize hN1 : n + 1 = N1 at *
  replace hN1 : Hid (n + 1 = N1) := hN1
  go_loopw [45] (fun i wr => ∃ k : Nat, k ≤ n ∧ i = .int .i64 k ∧ Six wr a1 a2 a3 a4 a5 a6 P L Q OZ OP OL ∧ Below w.heap.size w wr) (fun i _ => n - (intOf i).toNat)
  case atStart => exact ⟨0, Nat.zero_le _, rfl, ⟨r1, r2, r3, r4, r5, r6⟩, B⟩
  case round =>
    clear r1 r2 r3 r4 r5 r6 B
    obtain ⟨k, hk, rfl, ⟨r1, r2, r3, r4, r5, r6⟩, B⟩ := hrel
    by_cases hlt : k < n
    · have hN2 := hN1.out
      obtain ⟨b1, s1, rfl, e1⟩ := r1.at (by rw [lP.out]; omega)
      obtain ⟨b2, s2, rfl, e2⟩ := r2.at (by rw [lL.out]; omega)
      obtain ⟨b3, s3, rfl, e3⟩ := r3.at (by rw [lQ.out]; omega)
      obtain ⟨b4, s4, rfl, e4⟩ := r4.at (by rw [m1.out]; omega)
      obtain ⟨b5, s5, rfl, e5⟩ := r5.at (by rw [m2.out]; omega)
      obtain ⟨b6, s6, rfl, e6⟩ := r6.at (by rw [m3.out]; omega)
      have d1 := e1 k (by rw [lP.out]; omega)
      have d2 := e2 k (by rw [lL.out]; omega)
      have d3 := e3 k (by rw [lQ.out]; omega)
      obtain ⟨kk, hkk⟩ : ∃ kk, k + 1 = kk := ⟨_, rfl⟩
      have d4 := e4 kk (by rw [m1.out]; omega)
      have d5 := e5 kk (by rw [m2.out]; omega)
      have d6 := e6 kk (by rw [m3.out]; omega)
      rw [g1.out _ (by omega)] at d4
      rw [g2.out _ (by omega)] at d5
      rw [g3.out _ (by omega)] at d6
      have S : Hid (Six wr (some ⟨b1, s1, none⟩) (some ⟨b2, s2, none⟩) (some ⟨b3, s3, none⟩) (some ⟨b4, s4, none⟩) (some ⟨b5, s5, none⟩) (some ⟨b6, s6, none⟩) P L Q OZ OP OL) := ⟨r1, r2, r3, r4, r5, r6⟩
      clear e1 e2 e3 e4 e5 e6 r1 r2 r3 r4 r5 r6
      have j1 := i1.out kk (by omega)
      have j2 := i2.out kk (by omega)
      have q1 := k1.out k hlt
      rw [hkk] at q1
      have q2 := k2.out k hlt
      have q3 := k3.out k hlt
      have q4 := k4.out k hlt
      have q5 := k5.out k hlt
      have q6 := k6.out k hlt
      unfold inr at q3
      rw [q1] at d4
      clear q1
      have hlI : (k : Int) < n := by omega
      generalize G kk = g at *
      generalize E kk = e at *
      generalize P.getD k 0 = p at *
      generalize L.getD k 0 = l at *
      generalize Q.getD k 0 = x at *
      have t1 : decide (x < 0) = false := decide_eq_false (by omega)
      have t2 : decide (M < x) = false := decide_eq_false (by omega)
      have t6 : decide (R < p) = false := decide_eq_false (by omega)
      have hw1 : IntKind.i64.wrap (kk : Int) = (kk : Int) := wrapIn (by omega)
      have hkI : (k : Int) + 1 = (kk : Int) := by omega
      have hw2 : IntKind.i64.wrap (g + e) = g + e := wrapIn (by omega)
      have hw3 : IntKind.i64.wrap (g + e + x) = g + e + x := wrapIn (by omega)
      have hw4 : IntKind.i64.wrap (x + l) = x + l := wrapIn (by omega)
      have hlI2 : (kk : Int) < (N1 : Int) := by omega
      have hkk2 : Hid (k + 1 = kk) := hkk
      clear hkk hN2
      by_cases c1 : 0 < l
      · obtain rfl := q4 c1
        have c2 : 0 < x + l := by omega
        obtain rfl := q5 c2
        clear q4 q5 q6
        go_wp2
        go_quiet (fail)
        go_wp2
        go_roundw
        case rel => exact ⟨kk, by have := hkk2.out; omega, rfl, S.out.drewN _, below_drewN B _⟩
        case measure => have := hkk2.out; simp [intOf]; omega
      · obtain rfl : l = 0 := by omega
        have c3 : decide ((0 : Int) < 0) = false := rfl
        clear q4
        by_cases c2 : 0 < x
        · obtain rfl := q5 (by omega)
          clear q5 q6
          go_wp2
          go_quiet (fail)
          go_wp2
          go_roundw
          case rel => exact ⟨kk, by have := hkk2.out; omega, rfl, S.out.drewN _, below_drewN B _⟩
          case measure => have := hkk2.out; simp [intOf]; omega
        · obtain rfl : x = 0 := by omega
          clear q5 q6
          go_wp2
          go_quiet (fail)
          go_wp2
          go_roundw
          case rel => exact ⟨kk, by have := hkk2.out; omega, rfl, S.out.drewN _, below_drewN B _⟩
          case measure => have := hkk2.out; simp [intOf]; omega
    · obtain rfl : k = n := by omega
      go_wp2
      go_ret
      exact ⟨rfl, B⟩

set_option maxHeartbeats 1600000 in
theorem sums_none (R M : Int) (a : Option Addr) (cap n : Nat) (z OZ : List Int) (w : World) (r : Row w a z) (en : Hid (z.length = n)) (hn : n ≤ 17592186044415) (hb : Hid (¬ bright R M z)) (o1 : Hid (of z = OZ)) :
    Calls Try.prog 4 #[.int .i64 R, .int .i64 M, .slice a n cap] w fun e w' => e = .returned (.bool true) ∧ Below w.heap.size w w' := by
  have B : Below w.heap.size w w := Below.refl _ _
  have T1 := tok
  have T2 := tok
  have T3 := tok
  have T4 := tok
  have T5 := tok
  go_enter Try.func4, Try.ntmps4
  go_wp2_with (first
    | (clear T1; go_at_call 16; refine (alive_any _).mono ?_; rintro e v1 ⟨rfl, b1⟩; replace B := bthen B b1; replace r := r.kept b1; clear b1)
    | (clear T2; go_at_call 9; refine (play_none R M a _ n z _ r en.out hb.out).mono ?_; rintro e v2 ⟨a1, c1, a2, c2, a3, c3, rfl, _, r1, r2, r3, b2⟩; replace B := bthen B b2; replace r := r.kept b2; clear b2)
    | (clear T3; go_at_call 17; refine (of_r a _ n z OZ o1.out _ r en.out hn).mono ?_; rintro e v3 ⟨a4, c4, rfl, _, r4, b3⟩; replace B := bthen B b3; replace r1 := r1.kept b3; replace r2 := r2.kept b3; clear b3 r r4)
    | (clear T4; go_at_call 17; refine (of_r a1 _ 0 [] _ rfl _ r1 rfl (by omega)).mono ?_; rintro e v4 ⟨a5, c5, rfl, _, r5, b4⟩; replace B := bthen B b4; replace r2 := r2.kept b4; clear b4 r1 r5)
    | (clear T5; go_at_call 17; refine (of_r a2 _ 0 [] _ rfl _ r2 rfl (by omega)).mono ?_; rintro e v5 ⟨a6, c6, rfl, _, r6, b5⟩; replace B := bthen B b5; clear b5 r2 r6))
  go_loopw [45] (fun i wr => i = .int .i64 0 ∧ v5 = wr) (fun i _ => 0)
  case atStart => exact ⟨rfl, rfl⟩
  case round =>
    obtain ⟨rfl, rfl⟩ := hrel
    go_wp2
    go_ret
    exact ⟨rfl, B⟩

theorem queueSums_walk (a0 a1 : Int) (a2 : Option Addr) (cap2 : Nat) (z2 : List Int) (w : World) (w0 : -9223372036854775808 ≤ a0 ∧ a0 ≤ 9223372036854775807) (w1 : -9223372036854775808 ≤ a1 ∧ a1 ≤ 9223372036854775807) (h2 : FarIn w a2 cap2 z2) :
    Calls Try.prog 4 #[.int .i64 a0, .int .i64 a1, .slice a2 z2.length cap2] w fun e w' => e = .returned (.bool true) ∧ Below w.heap.size w w' := by
  by_cases h : bright a0 a1 z2
  · have hA := fun t ht => acc_lo (qg_in h.1 h.2.1 h.2.2.2) t ht
    have hE := fun t ht => acc_lo (ql_in h.1 h.2.1 h.2.2.2) t ht
    have hn := h.2.2.1
    exact sums_go a0 a1 a2 cap2 z2.length z2 _ _ _ _ _ _ (acc fun j => z2.getD j 0) (acc (qg a0 a1 fun j => z2.getD j 0)) (acc (ql a0 a1 fun j => z2.getD j 0)) w h2.1 rfl h.2.2.1 h.1 h.2.1 h rfl rfl rfl (pw_len h) (pl_len h) (pq_len h) rfl rfl rfl
      (of_len _) (by show _ = _; rw [of_len, pw_len h]) (by show _ = _; rw [of_len, pl_len h]) (fun j hj => of_getD h j hj) (fun j hj => of_pw h j hj) (fun j hj => of_pl h j hj)
      (fun j hj => ⟨(hA j hj).1, by have := (hA j hj).2; omega⟩) (fun j hj => ⟨(hE j hj).1, by have := (hE j hj).2; omega⟩)
      (fun j hj => by rw [pq_getD h j hj]; exact qu_sum h.1 h.2.1 h.2.2.2 (j + 1) hj)
      (fun j hj => by rw [pq_getD h j hj]; exact qu_in h.1 h.2.1 h.2.2.2 (j + 1) hj)
      (fun j hj => by rw [pl_getD h j hj]; exact ql_in h.1 h.2.1 h.2.2.2 j hj)
      (fun j hj k => by rw [pl_getD h j hj] at k; rw [pq_getD h j hj]; exact lost_full h.1 h.2.1 h.2.2.2 j hj k)
      (fun j hj k => by rw [pl_getD h j hj, pq_getD h j hj] at k; rw [pw_getD h j hj]; exact waits_rate h.1 h.2.1 h.2.2.2 j hj k)
      (fun j hj => by rw [pw_getD h j hj]; unfold qg; omega)
  · exact sums_none a0 a1 a2 cap2 z2.length z2 _ w h2.1 rfl (by have := h2.2; omega) h rfl

end Go.Proofs.Ytmhdodlgbbaonaa
namespace Go.Proofs.Ytmhdodlgbbaonaa.queueSums
open Go.ChangeShapes Go.WideShapes Go.ChangeAt Go.RowKit
set_option linter.unusedVariables false

set_option maxRecDepth 100000 in
theorem lifted (os : Os) (started : os.Started) (H : Type) (enc : TypeId × Value → H) :
    ReturnsInHanded {} Try.checked os 4 .any (Rows.queueSumsSpec.pre6 enc Try.prog Try.f4 Rows.queueSumsRow.domain false) (Rows.queueSumsSpec.post enc Try.prog Try.f4 false true false false) := by
  refine returnsInHanded_of_change_sized (C := Try.checked) own started (by kernel_rfl) Try.func4
    (ChangeSpec.witness6 (enc := enc) (C := Try.checked) false ⟨#[], #[.int .i64 0, .int .i64 0, .slice none 0 0], []⟩ 8 (by kernel_rfl) (by kernel_rfl) (by kernel_rfl) (by kernel_rfl)) ?_
  intro W base args ds gs before hval0 hW _ hsz0 _
  have hsz : (DataW.weightsEach Try.prog (Try.f4.params.toList ++ Rows.queueSumsSpec.plain.varTypes Try.prog) (ds ++ gs)).all (· ≤ reachBytes) = true := hsz0
  have hval : ∀ (j : Nat) t v, Try.f4.params[j]? = some t → args[j]? = some v → Value.okWide Try.prog W .any base t v := hval0
  have hW' := hW
  obtain ⟨p, q, hA0, hV, rfl, hfz, hnd⟩ := hW
  have hA : DataW.TrodAll enc Try.prog W 0 (fun _ => true) true Try.f4.params.toList args.toList ds p := hA0
  rw [Try.params4] at hA hval hsz
  obtain ⟨v0, vs0, d0, ds0, p0, q0, hargs, rfl, rfl, h0, r0⟩ := trodAll_cons hA
  obtain ⟨v1, vs1, d1, ds1, p1, q1, rfl, rfl, rfl, h1, r1⟩ := trodAll_cons r0
  obtain ⟨v2, vs2, d2, ds2, p2, q2, rfl, rfl, rfl, h2, r2⟩ := trodAll_cons r1
  obtain ⟨rfl, rfl, rfl⟩ := trodAll_nil r2
  obtain rfl : args = #[v0, v1, v2] := by cases args; simp_all
  obtain ⟨rfl, rfl⟩ := trodVars_none hV
  obtain ⟨a0, rfl, rfl, rfl, w0⟩ := open_int Try.underlying3 (hval 0 3 v0 rfl rfl) h0
  obtain ⟨a1, rfl, rfl, rfl, w1⟩ := open_int Try.underlying3 (hval 1 3 v1 rfl rfl) h1
  obtain ⟨a2, len2, cap2, rfl⟩ := okWide_slice Try.underlying22 (hval 2 22 v2 rfl rfl)
  have k2 := h2
  have lt2 : ∀ x ∈ p2, x.block < W.heap.size := by obtain ⟨m, hm⟩ := k2; exact DataW.trod_lt m _ _ _ hm
  obtain ⟨z2, rfl, w2⟩ := farIn h2 (fun elems spare e => by
    subst e
    have := sized_slice hsz (j := 2) (t := 22) (e := 3) rfl rfl Try.underlying22
    rw [Try.bytes3] at this
    exact this)
  clear hA0 hval0 hsz0 hsz
  refine (queueSums_walk a0 a1 a2 cap2 z2 W (fits w0) (fits w1) w2).mono fun e W' ⟨he, bel⟩ => ?_
  subst he
  exact ⟨_, rfl, _, _, _, [], _, [], hW', trodAll_mk1 (shut_bool Try.underlying4 _), (trodAll_cons_mk (shut_int Try.underlying3 w0) (trodAll_cons_mk (shut_int Try.underlying3 w1) (trodAll_cons_mk (Below.trod laidOut (by kernel_rfl) (of_decide_eq_true (by kernel_rfl)) k2 bel lt2) trodAll_mk0))), rfl, bel.frame _, fun h => by cases h⟩

theorem proved : Rows.QueueSumsSaid :=
  OpenClaim.holds_of_wide 4 Try.f4 rfl rfl rfl rfl rfl rfl rfl ⟨rfl, rfl, rfl, rfl, rfl⟩ rfl rfl rfl rfl rfl (by kernel_rfl) Try.func4 (by kernel_rfl)
    (of_decide_eq_true (by kernel_rfl)) (by unfold Func.isWrapper; first | (rw [if_pos (by decide +kernel)]; kernel_rfl) | (rw [if_neg (by decide +kernel)]; exact ⟨rfl, rfl⟩))
    (fun os started H enc _ => lifted os started H enc)

end Go.Proofs.Ytmhdodlgbbaonaa.queueSums
namespace Go.Proofs.Ytmhdodlgbbaonaa
theorem queueSums_holds : Rows.QueueSumsSaid := queueSums.proved
#print axioms queueSums_holds
end Go.Proofs.Ytmhdodlgbbaonaa
