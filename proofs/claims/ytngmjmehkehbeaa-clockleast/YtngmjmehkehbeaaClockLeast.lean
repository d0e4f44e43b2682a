/- PROVED: ClockLeast: somebody does not wait, at every size. CONDITIONS: none. -/
import Derived.Test.YtngmjmehkehbeaaTold
namespace Go.Proofs.Ytngmjmehkehbeaa
open Go.RowKit
set_option linter.unusedVariables false

set_option maxHeartbeats 3200000 in
theorem least_any (x0 : Option Addr) (c0 n : Nat) (ps : Rs) (u v : Int) (W Y : List Int) (r q : Nat) (w : World) (r0 : PRow w x0 ps) (l0 : Hid (ps.length = n)) (hn : n ≤ 8796093021952) (hu : u ≤ 9223372036854775807) (hv : v ≤ 9223372036854775807)
    (hW : Hid (waits ps u v = W)) (lW : Hid (W.length = r)) (hY : Hid (ways ps = Y)) (lY : Hid (Y.length = q)) (hr : r ≤ q) (hq : q ≤ n)
    (hyes : Hid (∀ k, k < r → 0 ≤ W.getD k 0 ∧ (k = 0 → W.getD k 0 = 0) ∧ (Lib.minOf (Y.take (k + 1)) = Y.getD k 0 → W.getD k 0 = 0))) (hend : Hid (r = q ∨ u < 1 ∨ v < 1)) :
    Calls Try.prog 5 #[.slice x0 n c0, .int .i64 u, .int .i64 v] w fun e w' => e = .returned (.bool true) ∧ Below w.heap.size w w' := by
  go_enter Try.func5, Try.ntmps5
  go_wp2_with (first
    | (go_at_call 13; refine (alive_any _).mono ?_; rintro e v1 ⟨rfl, b1⟩; replace r0 := r0.kept b1)
    | (go_at_call 11; refine (waits_n x0 _ n ps u v W r _ r0 l0.out (by omega) hu hv hW.out lW.out).mono ?_; rintro e v2 ⟨a2, d2, rfl, _, p, b2⟩; replace r0 := r0.kept b2; replace b1 := bthen b1 b2; clear b2)
    | (go_at_call 10; refine (ways_n x0 _ n ps Y q _ r0 l0.out (by omega) hY.out lY.out).mono ?_; rintro e v3 ⟨a3, d3, rfl, hd3, y, b3⟩; replace p := p.kept b3; replace b1 := bthen b1 b3; clear b3 r0))
  clear hW hY l0 hu hv
  go_loopw [21] (fun i wr => ∃ k j : Nat, k ≤ r ∧ i = .int .i64 k ∧ wr = v3.drewN j) (fun i _ => r - (intOf i).toNat)
  case atStart => exact ⟨0, 0, Nat.zero_le _, rfl, rfl⟩
  case round =>
    obtain ⟨k, j, hk, rfl, rfl⟩ := hrel
    by_cases hlt : k < r
    · obtain ⟨g1, o1, rfl, k1⟩ := p.at (by rw [lW.out]; omega)
      obtain ⟨g2, o2, rfl, k2⟩ := y.at (by rw [lY.out]; omega)
      have cx := k1 k (by rw [lW.out]; exact hlt)
      have cy := k2 k (by rw [lY.out]; omega)
      obtain ⟨f1, f2, f3⟩ := hyes.out k hlt
      have hmin := fun cp (w1 : World) (hw : ∀ j, j < Y.length → w1.cell? ⟨g2, o2 + j, none⟩ = some (.int .i64 (Y.getD j 0))) => min_n g2 o2 cp Y (k + 1) w1 hw (by omega) (by rw [lY.out]; omega) (by rw [lY.out]; omega) _ rfl
      generalize Lib.minOf (Y.take (k + 1)) = M at f3 hmin
      generalize W.getD k 0 = x at cx f1 f2 f3
      generalize Y.getD k 0 = z at cy f3
      replace hmin := fun cp q => hmin cp (v3.drewN q) k2
      replace hmin : Hid _ := hmin
      have hI : (k : Int) < r := by omega
      have hIq : (k : Int) < q := by omega
      have hcap : k + 1 ≤ d3 := by omega
      have e1 : decide (x < 0) = false := decide_eq_false (by omega)
      have hno : Hid (x = 0 ∨ (¬ k = 0 ∧ ¬ M = z)) := by
        by_cases h : x = 0
        · exact .inl h
        · exact .inr ⟨fun h2 => h (f2 h2), fun h2 => h (f3 h2)⟩
      clear k1 k2 hyes f1 f2 f3 p y
      by_cases h0 : k = 0
      · obtain rfl : x = 0 := by
          rcases hno.out with h | h
          · exact h
          · exact absurd h0 h.1
        have e2 : ((k : Int) == 0) = true := by rw [h0]; rfl
        clear hno
        by_cases hM : M = z
        · have e3 : (M == z) = true := by simpa using hM
          clear hM h0
          go_wp2
          go_quiet ((go_at_call 14; refine (hmin.out _ _).mono ?_; rintro e w'' ⟨rfl, rfl⟩; exact ⟨rfl, _, rfl⟩))
          go_wp2
          go_roundw
          case rel => exact ⟨k + 1, j + nq, by omega, by go_num, rfl⟩
          case measure => simp [intOf]; omega
        · have e3 : (M == z) = false := by simpa using hM
          clear hM h0
          go_wp2
          go_quiet ((go_at_call 14; refine (hmin.out _ _).mono ?_; rintro e w'' ⟨rfl, rfl⟩; exact ⟨rfl, _, rfl⟩))
          go_wp2
          go_roundw
          case rel => exact ⟨k + 1, j + nq, by omega, by go_num, rfl⟩
          case measure => simp [intOf]; omega
      · have e2 : ((k : Int) == 0) = false := beq_eq_false_iff_ne.2 (by omega)
        by_cases hM : M = z
        · have e3 : (M == z) = true := by simpa using hM
          obtain rfl : x = 0 := by
            rcases hno.out with h | h
            · exact h
            · exact absurd hM h.2
          clear hM h0 hno
          go_wp2
          go_quiet ((go_at_call 14; refine (hmin.out _ _).mono ?_; rintro e w'' ⟨rfl, rfl⟩; exact ⟨rfl, _, rfl⟩))
          go_wp2
          go_roundw
          case rel => exact ⟨k + 1, j + nq, by omega, by go_num, rfl⟩
          case measure => simp [intOf]; omega
        · have e3 : (M == z) = false := by simpa using hM
          clear hM h0 hno
          go_wp2
          go_quiet ((go_at_call 14; refine (hmin.out _ _).mono ?_; rintro e w'' ⟨rfl, rfl⟩; exact ⟨rfl, _, rfl⟩))
          go_wp2
          go_roundw
          case rel => exact ⟨k + 1, j + nq, by omega, by go_num, rfl⟩
          case measure => simp [intOf]; omega
    · obtain rfl : r = k := by omega
      have B := below_drewN b1 j
      clear hyes p y lW lY
      by_cases h1 : r = q
      · have e1 : ((r : Int) == (q : Int)) = true := by subst h1; simp
        clear h1
        go_wp2
        go_ret
        exact ⟨rfl, B⟩
      · have e1 : ((r : Int) == (q : Int)) = false := beq_eq_false_iff_ne.2 (by omega)
        by_cases h2 : u < 1
        · have e2 : decide (u < 1) = true := decide_eq_true h2
          clear h1 h2
          go_wp2
          go_ret
          exact ⟨rfl, B⟩
        · have e2 : decide (u < 1) = false := decide_eq_false h2
          have e3 : decide (v < 1) = true := decide_eq_true (by rcases hend.out with h | h | h <;> omega)
          clear h1 h2
          go_wp2
          go_ret
          exact ⟨rfl, B⟩

theorem clockLeast_walk (a0 : Option Addr) (cap0 : Nat) (z0 : Rs) (a1 a2 : Int) (w : World) (h0 : FarP w a0 cap0 z0) (w1 : -9223372036854775808 ≤ a1 ∧ a1 ≤ 9223372036854775807) (w2 : -9223372036854775808 ≤ a2 ∧ a2 ≤ 9223372036854775807) :
    Calls Try.prog 5 #[.slice a0 z0.length cap0, .int .i64 a1, .int .i64 a2] w fun e w' => e = .returned (.bool true) ∧ Below w.heap.size w w' := by
  refine least_any a0 cap0 z0.length z0 a1 a2 _ _ _ _ w h0.1 rfl h0.2.1 w1.2 w2.2 rfl rfl rfl rfl ?_ (ways_le z0) (fun k hk => ?_) ?_
  · rw [waits_len]; exact base_le _ _ _
  · obtain ⟨h1, h2, h3, h4⟩ := wait_lo k hk
    refine ⟨h2, h3, fun e => h4 fun j hj => ?_⟩
    have := (minOf_is (ways z0) (k + 1) (by omega) (by omega)).1 j (by omega)
    rw [e] at this; exact this
  · by_cases h : 1 ≤ a1 ∧ 1 ≤ a2
    · exact .inl (waits_all h.1 h.2)
    · exact .inr (by omega)

end Go.Proofs.Ytngmjmehkehbeaa
namespace Go.Proofs.Ytngmjmehkehbeaa.clockLeast
open Go.ChangeShapes Go.WideShapes Go.ChangeAt Go.RowKit
set_option linter.unusedVariables false

set_option maxRecDepth 100000 in
theorem lifted (os : Os) (started : os.Started) (H : Type) (enc : TypeId × Value → H) :
    ReturnsInHanded {} Try.checked os 5 .any (Rows.clockLeastSpec.pre6 enc Try.prog Try.f5 Rows.clockLeastRow.domain false) (Rows.clockLeastSpec.post enc Try.prog Try.f5 false true false false) := by
  refine returnsInHanded_of_change_sized (C := Try.checked) own started (by kernel_rfl) Try.func5
    (ChangeSpec.witness6 (enc := enc) (C := Try.checked) false ⟨#[], #[.slice none 0 0, .int .i64 0, .int .i64 0], []⟩ 8 (by kernel_rfl) (by kernel_rfl) (by kernel_rfl) (by kernel_rfl)) ?_
  intro W base args ds gs before hval0 hW _ hsz0 _
  have hsz : (DataW.weightsEach Try.prog (Try.f5.params.toList ++ Rows.clockLeastSpec.plain.varTypes Try.prog) (ds ++ gs)).all (· ≤ reachBytes) = true := hsz0
  have hval : ∀ (j : Nat) t v, Try.f5.params[j]? = some t → args[j]? = some v → Value.okWide Try.prog W .any base t v := hval0
  have hW' := hW
  obtain ⟨p, q, hA0, hV, rfl, hfz, hnd⟩ := hW
  have hA : DataW.TrodAll enc Try.prog W 0 (fun _ => true) true Try.f5.params.toList args.toList ds p := hA0
  rw [Try.params5] at hA hval hsz
  obtain ⟨v0, vs0, d0, ds0, p0, q0, hargs, rfl, rfl, h0, r0⟩ := trodAll_cons hA
  obtain ⟨v1, vs1, d1, ds1, p1, q1, rfl, rfl, rfl, h1, r1⟩ := trodAll_cons r0
  obtain ⟨v2, vs2, d2, ds2, p2, q2, rfl, rfl, rfl, h2, r2⟩ := trodAll_cons r1
  obtain ⟨rfl, rfl, rfl⟩ := trodAll_nil r2
  obtain rfl : args = #[v0, v1, v2] := by cases args; simp_all
  obtain ⟨rfl, rfl⟩ := trodVars_none hV
  obtain ⟨a0, len0, cap0, rfl⟩ := okWide_slice Try.underlying22 (hval 0 22 v0 rfl rfl)
  have k0 := h0
  have lt0 : ∀ x ∈ p0, x.block < W.heap.size := by obtain ⟨m, hm⟩ := k0; exact DataW.trod_lt m _ _ _ hm
  obtain ⟨z0, rfl, w0⟩ := farP h0 (fun elems spare e => by
    subst e
    have := sized_slice hsz (j := 0) (t := 22) (e := 31) rfl rfl Try.underlying22
    rw [Try.bytes31] at this
    exact this)
  obtain ⟨a1, rfl, rfl, rfl, w1⟩ := open_int Try.underlying3 (hval 1 3 v1 rfl rfl) h1
  obtain ⟨a2, rfl, rfl, rfl, w2⟩ := open_int Try.underlying3 (hval 2 3 v2 rfl rfl) h2
  clear hA0 hval0 hsz0 hsz
  refine (clockLeast_walk a0 cap0 z0 a1 a2 W w0 (fits w1) (fits w2)).mono fun e W' ⟨he, bel⟩ => ?_
  subst he
  exact ⟨_, rfl, _, _, _, [], _, [], hW', trodAll_mk1 (shut_bool Try.underlying4 _), (trodAll_cons_mk (Below.trod laidOut (by kernel_rfl) (of_decide_eq_true (by kernel_rfl)) k0 bel lt0) (trodAll_cons_mk (shut_int Try.underlying3 w1) (trodAll_cons_mk (shut_int Try.underlying3 w2) trodAll_mk0))), rfl, bel.frame _, fun h => by cases h⟩

theorem proved : Rows.ClockLeastSaid :=
  OpenClaim.holds_of_wide 5 Try.f5 rfl rfl rfl rfl rfl rfl rfl ⟨rfl, rfl, rfl, rfl, rfl⟩ rfl rfl rfl rfl rfl (by kernel_rfl) Try.func5 (by kernel_rfl)
    (of_decide_eq_true (by kernel_rfl)) (by unfold Func.isWrapper; first | (rw [if_pos (by decide +kernel)]; kernel_rfl) | (rw [if_neg (by decide +kernel)]; exact ⟨rfl, rfl⟩))
    (fun os started H enc _ => lifted os started H enc)

end Go.Proofs.Ytngmjmehkehbeaa.clockLeast
namespace Go.Proofs.Ytngmjmehkehbeaa
theorem clockLeast_holds : Rows.ClockLeastSaid := clockLeast.proved
#print axioms clockLeast_holds
end Go.Proofs.Ytngmjmehkehbeaa
