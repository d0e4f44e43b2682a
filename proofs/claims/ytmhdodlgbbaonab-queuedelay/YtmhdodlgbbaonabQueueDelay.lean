/- PROVED: NOBODY WAITS LONGER THAN ALL AHEAD TAKES, at every rate and every row of steps. CONDITIONS: none. -/
import Derived.Test.YtmhdodlgbbaonabGets
namespace Go.Proofs.Ytmhdodlgbbaonab
open Go.RowKit
set_option linter.unusedVariables false

theorem dels_is {R : Int} {s : List Int} (h : bright R 1099511627776 s) : dels R s = outs (delay (acc fun j => s.getD j 0) (acc (qg R 1099511627776 fun j => s.getD j 0)) s.length) s.length := by unfold dels; rw [if_pos h]

set_option maxHeartbeats 3200000 in
theorem delay_go (R : Int) (a : Option Addr) (cap n : Nat) (z P L Q D : List Int) (w : World) (r : Row w a z) (en : Hid (z.length = n)) (hp : 0 < n) (hn : n < 300) (hR : 0 ≤ R ∧ R ≤ 1099511627776) (hb : Hid (bright R 1099511627776 z))
    (hP : Hid (pw R 1099511627776 z = P)) (hL : Hid (pl R 1099511627776 z = L)) (hQ : Hid (pq R 1099511627776 z = Q)) (hD : Hid (dels R z = D)) (lL : Hid (L.length = n)) (lQ : Hid (Q.length = n)) (lD : Hid (D.length = n)) (iL : Hid (allIn L)) (h0 : Hid (∀ j, j < n → L.getD j 0 = 0))
    (iQ : Hid (∀ k, k < n → inr (Q.getD k 0))) (k1 : Hid (∀ k, k < n → Q.getD k 0 = 0 → D.getD k 0 = 0)) (k2 : Hid (∀ k, k < n → 0 < Q.getD k 0 → R = 0 → D.getD k 0 = -1))
    (k3 : Hid (∀ k, k < n → 0 < Q.getD k 0 → 0 < R → ∀ c : Nat, Q.getD k 0 ≤ (c : Int) * R → ((c : Int) - 1) * R < Q.getD k 0 → D.getD k 0 = if n ≤ k + c then -1 else (c : Int))) :
    Calls Try.prog 3 #[.int .i64 R, .slice a n cap] w fun e w' => e = .returned (.bool true) ∧ Below w.heap.size w w' := by
  have B : Below w.heap.size w w := Below.refl _ _
  have hn0 : ((n : Int) == 0) = false := by simp; omega
  have T1 := tok
  have T2 := tok
  have T3 := tok
  have T4 := tok
  go_enter Try.func3, Try.ntmps3
  go_wp2_with (first
    | (clear T1; go_at_call 4; refine (alive_any _).mono ?_; rintro e v1 ⟨rfl, b1⟩; replace B := bthen B b1; replace r := r.kept b1; clear b1)
    | (clear T2; go_at_call 5; refine (play_r R 1099511627776 a _ n z P L Q _ r en.out hb.out hP.out hL.out hQ.out).mono ?_; rintro e v2 ⟨a1, c1, a2, c2, a3, c3, rfl, _, r1, r2, r3, b2⟩; replace B := bthen B b2; replace r := r.kept b2; clear b2 r1)
    | (clear T3; go_at_call 6; refine (delays_any R a _ n z _ r en.out hb.out D hD.out).mono ?_; rintro e v3 ⟨a4, c4, rfl, _, r4, b3⟩; replace B := bthen B b3; replace r2 := r2.kept b3; replace r3 := r3.kept b3; clear b3 r; obtain ⟨m, im, hm, cm⟩ := max_n a2 c2 n L v3 r2 lL.out hp (by omega) iL.out; obtain rfl : m = 0 := hm.2 h0.out; have cm2 := cm v3 r2; clear cm hm im r2)
    | (clear T4; go_at_call 7; refine cm2.mono ?_; rintro e w'' ⟨rfl, hw⟩; obtain rfl : v3 = w'' := hw.symm; clear cm2 hw))
  go_loopw [46] (fun i wr => ∃ k : Nat, k ≤ n ∧ i = .int .i64 k ∧ v3 = wr) (fun i _ => n - (intOf i).toNat)
  case atStart => exact ⟨0, Nat.zero_le _, rfl, rfl⟩
  case round =>
    obtain ⟨k, hk, rfl, rfl⟩ := hrel
    by_cases hlt : k < n
    · obtain ⟨b3, o3, rfl, e3⟩ := r3.at (by rw [lQ.out]; omega)
      obtain ⟨b4, o4, rfl, e4⟩ := r4.at (by rw [lD.out]; omega)
      have cq := e3 k (by rw [lQ.out]; omega)
      have cd := e4 k (by rw [lD.out]; omega)
      have hlI : (k : Int) < n := by omega
      have iq := iQ.out k hlt
      have q1 := k1.out k hlt
      have q2 := k2.out k hlt
      have q3 := k3.out k hlt
      unfold inr at iq
      clear e3 e4
      generalize Q.getD k 0 = W at *
      generalize D.getD k 0 = x at *
      by_cases hW : W = 0
      · have hx := q1 hW
        subst hW hx
        clear q1 q2 q3
        go_wp2
        go_roundw
        case rel => exact ⟨k + 1, by omega, by go_num, by first | rfl | trivial⟩
        case measure => simp [intOf]; omega
      · have hW1 : 0 < W := by omega
        by_cases hR0 : R = 0
        · have hx := q2 hW1 hR0
          subst hR0 hx
          clear q1 q2 q3
          go_wp2
          go_roundw
          case rel => exact ⟨k + 1, by omega, by go_num, by first | rfl | trivial⟩
          case measure => simp [intOf]; omega
        · have hR1 : 0 < R := by omega
          have hRe : (R == 0) = false := by simp; omega
          obtain ⟨c, hc, p1, p2, p3⟩ := ceil_is W R hW1 hR1
          have hx := q3 hW1 hR1 c p1 p2
          have hc2 : (W + R - 1).tdiv R = (c : Int) := by rw [Int.tdiv_eq_ediv_of_nonneg (by omega)]; exact hc
          clear q1 q2 q3 p1 p2
          by_cases hkc : n ≤ k + c
          · rw [if_pos hkc] at hx
            subst hx
            have hkI : (n : Int) ≤ (k : Int) + c := by omega
            go_wp2
            go_roundw
            case rel => exact ⟨k + 1, by omega, by go_num, by first | rfl | trivial⟩
            case measure => simp [intOf]; omega
          · rw [if_neg hkc] at hx
            subst hx
            have hkI : (k : Int) + c < (n : Int) := by omega
            go_wp2
            go_roundw
            case rel => exact ⟨k + 1, by omega, by go_num, by first | rfl | trivial⟩
            case measure => simp [intOf]; omega
    · obtain rfl : k = n := by omega
      go_wp2
      go_ret
      exact ⟨rfl, B⟩

set_option maxHeartbeats 1600000 in
theorem delay_more (R : Int) (a : Option Addr) (cap n : Nat) (z P L Q D : List Int) (w : World) (r : Row w a z) (en : Hid (z.length = n)) (hp : 0 < n) (hn : n < 300) (hb : Hid (bright R 1099511627776 z))
    (hP : Hid (pw R 1099511627776 z = P)) (hL : Hid (pl R 1099511627776 z = L)) (hQ : Hid (pq R 1099511627776 z = Q)) (hD : Hid (dels R z = D)) (lL : Hid (L.length = n)) (iL : Hid (allIn L)) (h0 : Hid (¬ ∀ j, j < n → L.getD j 0 = 0)) :
    Calls Try.prog 3 #[.int .i64 R, .slice a n cap] w fun e w' => e = .returned (.bool true) ∧ Below w.heap.size w w' := by
  have B : Below w.heap.size w w := Below.refl _ _
  have hn0 : decide ((n : Int) = 0) = false := decide_eq_false (by omega)
  have T1 := tok
  have T2 := tok
  have T3 := tok
  have T4 := tok
  go_enter Try.func3, Try.ntmps3
  go_wp2_with (first
    | (clear T1; go_at_call 4; refine (alive_any _).mono ?_; rintro e v1 ⟨rfl, b1⟩; replace B := bthen B b1; replace r := r.kept b1; clear b1)
    | (clear T2; go_at_call 5; refine (play_r R 1099511627776 a _ n z P L Q _ r en.out hb.out hP.out hL.out hQ.out).mono ?_; rintro e v2 ⟨a1, c1, a2, c2, a3, c3, rfl, _, r1, r2, r3, b2⟩; replace B := bthen B b2; replace r := r.kept b2; clear b2 r1 r3)
    | (clear T3; go_at_call 6; refine (delays_any R a _ n z _ r en.out hb.out D hD.out).mono ?_; rintro e v3 ⟨a4, c4, rfl, _, r4, b3⟩; replace B := bthen B b3; replace r2 := r2.kept b3; clear b3 r r4; obtain ⟨m, im, hm, cm⟩ := max_n a2 c2 n L v3 r2 lL.out hp (by omega) iL.out; have hme : 0 < m := by (have q1 : m ≠ 0 := fun q => h0.out (hm.1 q)); unfold inr at im; omega
       have cm2 := cm v3 r2; clear cm hm im)
    | (clear T4; go_at_call 7; refine cm2.mono ?_; rintro e w'' ⟨rfl, hw⟩; obtain rfl : v3 = w'' := hw.symm; clear cm2 hw))
  go_ret
  exact ⟨rfl, B⟩
set_option maxHeartbeats 1600000 in
theorem delay_none0 (R : Int) (a : Option Addr) (cap n : Nat) (z : List Int) (w : World) (r : Row w a z) (h : ∀ v, Row v a z → ∃ X Y Z, Calls Try.prog 5 #[.int .i64 R, .int .i64 1099511627776, .slice a n cap] v (Ans3 v 0 X Y Z)) (h2 : ∀ v, Row v a z → ∃ X, Calls Try.prog 6 #[.int .i64 R, .slice a n cap] v (AnsN v 0 X)) :
    Calls Try.prog 3 #[.int .i64 R, .slice a n cap] w fun e w' => e = .returned (.bool true) ∧ Below w.heap.size w w' := by
  have B : Below w.heap.size w w := Below.refl _ _
  have T1 := tok
  have T2 := tok
  have T3 := tok
  go_enter Try.func3, Try.ntmps3
  go_wp2_with (first
    | (clear T1; go_at_call 4; refine (alive_any _).mono ?_; rintro e v1 ⟨rfl, b1⟩; replace B := bthen B b1; replace r := r.kept b1; clear b1; obtain ⟨X, Y, Z, hc⟩ := h v1 r; clear h)
    | (clear T2; go_at_call 5; refine hc.mono ?_; rintro e v2 ⟨a1, c1, a2, c2, a3, c3, rfl, _, r1, r2, _, b2⟩; replace B := bthen B b2; replace r := r.kept b2; clear b2 hc; obtain ⟨V, hc⟩ := h2 v2 r; clear h2)
    | (clear T3; go_at_call 6; refine hc.mono ?_; rintro e v3 ⟨a4, c4, rfl, _, r4, b3⟩; replace B := bthen B b3; clear b3 hc))
  go_ret
  exact ⟨rfl, B⟩

theorem queueDelay_walk (a0 : Int) (a1 : Option Addr) (cap1 : Nat) (z1 : List Int) (w : World) (w0 : -9223372036854775808 ≤ a0 ∧ a0 ≤ 9223372036854775807) (h1 : FarIn w a1 cap1 z1) :
    Calls Try.prog 3 #[.int .i64 a0, .slice a1 z1.length cap1] w fun e w' => e = .returned (.bool true) ∧ Below w.heap.size w w' := by
  by_cases h : bright a0 1099511627776 z1
  · by_cases hp : 0 < z1.length
    · by_cases h0 : ∀ j, j < z1.length → (pl a0 1099511627776 z1).getD j 0 = 0
      · have n0 := none_lost h h0
        have lD : (dels a0 z1).length = z1.length := by rw [dels_is h, outs_len]
        have gD : ∀ k, k < z1.length → (dels a0 z1).getD k 0 = delay (acc fun j => z1.getD j 0) (acc (qg a0 1099511627776 fun j => z1.getD j 0)) z1.length k := fun k hk => by rw [dels_is h, outs_getD _ _ _ hk]
        refine delay_go a0 a1 cap1 z1.length z1 _ _ _ _ w h1.1 rfl hp h.2.2.1 h.1 h rfl rfl rfl rfl (pl_len h) (pq_len h) lD (pl_in h) h0 (fun k hk => ?_) (fun k hk hq => ?_) (fun k hk hq hr => ?_) (fun k hk hq hr c p1 p2 => ?_)
        · rw [pq_getD h k hk]; exact qw_in h.1 h.2.1 h.2.2.2 k hk
        · rw [pq_getD h k hk] at hq; rw [gD k hk]; exact delay_none h.1 h.2.1 h.2.2.2 n0 k hk hq
        · rw [pq_getD h k hk] at hq; rw [gD k hk]; exact delay_never h.1 h.2.1 h.2.2.2 n0 k hk hq hr
        · rw [pq_getD h k hk] at hq p1 p2; rw [gD k hk]; exact delay_ceil h.1 h.2.1 h.2.2.2 n0 k hk hq hr c p1 p2
      · exact delay_more a0 a1 cap1 z1.length z1 _ _ _ _ w h1.1 rfl hp h.2.2.1 h rfl rfl rfl rfl (pl_len h) (pl_in h) h0
    · have e : z1.length = 0 := by omega
      refine delay_none0 a0 a1 cap1 z1.length z1 w h1.1 (fun v kv => ?_) (fun v kv => ?_)
      · have := play_any a0 1099511627776 a1 cap1 z1 v kv h
        rw [e] at this ⊢
        exact ⟨_, _, _, this⟩
      · exact ⟨_, delays_any a0 a1 cap1 0 z1 v kv e h _ rfl |> fun t => by rw [e]; exact t⟩
  · exact delay_none0 a0 a1 cap1 z1.length z1 w h1.1 (fun v kv => ⟨_, _, _, play_none a0 1099511627776 a1 cap1 z1.length z1 v kv rfl h⟩) (fun v kv => ⟨_, delays_none a0 a1 cap1 z1.length z1 v kv rfl h⟩)

end Go.Proofs.Ytmhdodlgbbaonab
namespace Go.Proofs.Ytmhdodlgbbaonab.queueDelay
open Go.ChangeShapes Go.WideShapes Go.ChangeAt Go.RowKit
set_option linter.unusedVariables false

set_option maxRecDepth 100000 in
theorem lifted (os : Os) (started : os.Started) (H : Type) (enc : TypeId × Value → H) :
    ReturnsInHanded {} Try.checked os 3 .any (Rows.queueDelaySpec.pre6 enc Try.prog Try.f3 Rows.queueDelayRow.domain false) (Rows.queueDelaySpec.post enc Try.prog Try.f3 false true false false) := by
  refine returnsInHanded_of_change_sized (C := Try.checked) own started (by kernel_rfl) Try.func3
    (ChangeSpec.witness6 (enc := enc) (C := Try.checked) false ⟨#[], #[.int .i64 0, .slice none 0 0], []⟩ 8 (by kernel_rfl) (by kernel_rfl) (by kernel_rfl) (by kernel_rfl)) ?_
  intro W base args ds gs before hval0 hW _ hsz0 _
  have hsz : (DataW.weightsEach Try.prog (Try.f3.params.toList ++ Rows.queueDelaySpec.plain.varTypes Try.prog) (ds ++ gs)).all (· ≤ reachBytes) = true := hsz0
  have hval : ∀ (j : Nat) t v, Try.f3.params[j]? = some t → args[j]? = some v → Value.okWide Try.prog W .any base t v := hval0
  have hW' := hW
  obtain ⟨p, q, hA0, hV, rfl, hfz, hnd⟩ := hW
  have hA : DataW.TrodAll enc Try.prog W 0 (fun _ => true) true Try.f3.params.toList args.toList ds p := hA0
  rw [Try.params3] at hA hval hsz
  obtain ⟨v0, vs0, d0, ds0, p0, q0, hargs, rfl, rfl, h0, r0⟩ := trodAll_cons hA
  obtain ⟨v1, vs1, d1, ds1, p1, q1, rfl, rfl, rfl, h1, r1⟩ := trodAll_cons r0
  obtain ⟨rfl, rfl, rfl⟩ := trodAll_nil r1
  obtain rfl : args = #[v0, v1] := by cases args; simp_all
  obtain ⟨rfl, rfl⟩ := trodVars_none hV
  obtain ⟨a0, rfl, rfl, rfl, w0⟩ := open_int Try.underlying3 (hval 0 3 v0 rfl rfl) h0
  obtain ⟨a1, len1, cap1, rfl⟩ := okWide_slice Try.underlying22 (hval 1 22 v1 rfl rfl)
  have k1 := h1
  have lt1 : ∀ x ∈ p1, x.block < W.heap.size := by obtain ⟨m, hm⟩ := k1; exact DataW.trod_lt m _ _ _ hm
  obtain ⟨z1, rfl, w1⟩ := farIn h1 (fun elems spare e => by
    subst e
    have := sized_slice hsz (j := 1) (t := 22) (e := 3) rfl rfl Try.underlying22
    rw [Try.bytes3] at this
    exact this)
  clear hA0 hval0 hsz0 hsz
  refine (queueDelay_walk a0 a1 cap1 z1 W (fits w0) w1).mono fun e W' ⟨he, bel⟩ => ?_
  subst he
  exact ⟨_, rfl, _, _, _, [], _, [], hW', trodAll_mk1 (shut_bool Try.underlying4 _), (trodAll_cons_mk (shut_int Try.underlying3 w0) (trodAll_cons_mk (Below.trod laidOut (by kernel_rfl) (of_decide_eq_true (by kernel_rfl)) k1 bel lt1) trodAll_mk0)), rfl, bel.frame _, fun h => by cases h⟩

theorem proved : Rows.QueueDelaySaid :=
  OpenClaim.holds_of_wide 3 Try.f3 rfl rfl rfl rfl rfl rfl rfl ⟨rfl, rfl, rfl, rfl, rfl⟩ rfl rfl rfl rfl rfl (by kernel_rfl) Try.func3 (by kernel_rfl)
    (of_decide_eq_true (by kernel_rfl)) (by unfold Func.isWrapper; first | (rw [if_pos (by decide +kernel)]; kernel_rfl) | (rw [if_neg (by decide +kernel)]; exact ⟨rfl, rfl⟩))
    (fun os started H enc _ => lifted os started H enc)

end Go.Proofs.Ytmhdodlgbbaonab.queueDelay
namespace Go.Proofs.Ytmhdodlgbbaonab
theorem queueDelay_holds : Rows.QueueDelaySaid := queueDelay.proved
#print axioms queueDelay_holds
end Go.Proofs.Ytmhdodlgbbaonab
