/- PROVED: the statement ShareFair, at every input: nobody gets more than they want; all is given out, or all have what they want; and who has not has no less, but for one, than anybody else. CONDITIONS: none. -/
import Derived.Test.YtggnhgbimkfdaaaSum
namespace Go.Proofs.Ytggnhgbimkfdaaa
open Go.RowKit
set_option linter.unusedVariables false

set_option maxHeartbeats 6400000 in
theorem fair_any (x1 : Option Addr) (c1 n : Nat) (z T : List Int) (R : Nat) (all a s m : Int) (w : World) (r1 : Row w x1 z) (l1 : Hid (z.length = n)) (hn : n ≤ 300) (hr : Hid (sright z)) (hR : Hid (Rounds z (fit all) R)) (hT : Hid (outs (got z (fit all) R) n = T)) (lT : Hid (T.length = n)) (hrT : Hid (sright T)) (ha : Hid (fit all = a))
    (hsm : Hid (sm z n = s)) (hsT : Hid (sm T n = m)) (hm : min a s = m)
    (hb : Hid (∀ i, i < n → 0 ≤ T.getD i 0 ∧ T.getD i 0 ≤ z.getD i 0 ∧ T.getD i 0 ≤ 1048576)) (hf : Hid (∀ i j, i < n → j < n → T.getD i 0 < z.getD i 0 → T.getD j 0 ≤ T.getD i 0 + 1 ∧ (i < j → T.getD j 0 ≤ T.getD i 0))) :
    Calls Try.prog 4 #[.int .i64 all, .slice x1 n c1] w fun e w' => e = .returned (.bool true) ∧ Below w.heap.size w w' := by
  have hmm : (m == m) = true := beq_iff_eq.2 rfl
  have hR1 : Hid (decide (sright z) = true) := decide_eq_true hr.out
  have T1 := tok
  have T2 := tok
  have T3 := tok
  have T4 := tok
  have T5 := tok
  have T6 := tok
  go_enter Try.func4, Try.ntmps4
  go_wp2_with (first
    | (clear T1; go_at_call 14; refine (alive_any _).mono ?_; rintro e v1 ⟨rfl, b1⟩; have s1 := r1.kept b1; clear r1; have B := b1; clear b1)
    | (clear T2; go_at_call 12; refine (share_n all x1 _ n z T R _ s1 l1.out hr.out hR.out hT.out).mono ?_; rintro e v2 ⟨a2, c2, rfl, _, p, b2⟩; replace s1 := s1.kept b2; replace B := bthen B b2; clear b2)
    | (clear T3; go_at_call 9; refine (right_n x1 _ n z _ s1 l1.out (by omega) true hR1.out).mono ?_; rintro e v3 ⟨rfl, rfl⟩)
    | (clear T4; go_at_call 15; refine (sum_n a2 _ n T _ p lT.out hrT.out m hsT.out).mono ?_; rintro e v4 ⟨rfl, rfl⟩)
    | (clear T5; go_at_call 16; refine (fit_any all _).mono ?_; rintro e v5 ⟨rfl, rfl⟩; rw [ha.out])
    | (clear T6; go_at_call 15; refine (sum_n x1 _ n z _ s1 l1.out hr.out s hsm.out).mono ?_; rintro e v6 ⟨rfl, rfl⟩))
  clear hr hR hT hrT ha hsm hsT hR1 hmm
  go_loopw [36] (fun i wr => ∃ k q : Nat, k ≤ n ∧ i = .int .i64 k ∧ wr = v6.drewN q) (fun i _ => n - (intOf i).toNat)
  case atStart => exact ⟨0, 0, Nat.zero_le _, rfl, rfl⟩
  case round =>
    obtain ⟨k, q, hk, rfl, rfl⟩ := hrel
    by_cases hlt : k < n
    · have q1 := l1.out
      have q2 := lT.out
      obtain ⟨g0, o0, rfl, k0⟩ := p.at (by omega)
      obtain ⟨g1, o1, rfl, k1⟩ := s1.at (by omega)
      have cx := k0 k (by omega)
      have cy := k1 k (by omega)
      obtain ⟨t0, t1, t2⟩ := hb.out k hlt
      have hf2 : Hid (∀ j, j < n → T.getD k 0 < z.getD k 0 → T.getD j 0 ≤ T.getD k 0 + 1 ∧ (k < j → T.getD j 0 ≤ T.getD k 0)) := fun j hj h => hf.out k j hlt hj h
      generalize T.getD k 0 = x at cx t0 t1 t2 hf2
      generalize z.getD k 0 = y at cy t1 hf2
      have d1 : decide (x < 0) = false := decide_eq_false (by omega)
      have d2 : decide (y < x) = false := decide_eq_false (by omega)
      have hltI : (k : Int) < n := by omega
      have k0' : Hid (∀ j, j < n → v6.cell? ⟨g0, o0 + j, none⟩ = some (.int .i64 (T.getD j 0))) := fun j hj => k0 j (by omega)
      clear k0 k1 p s1 q1 q2 hb hf
      go_wp2
      go_quiet (fail)
      go_wp2
      go_loopw [57] (fun i wr => ∃ m q : Nat, m ≤ n ∧ i = .int .i64 m ∧ wr = v6.drewN q) (fun i _ => n - (intOf i).toNat)
      case atStart => exact ⟨0, q + nq, Nat.zero_le _, rfl, by first | rfl | exact World.drewN_drewN _ _ _⟩
      case round =>
        obtain ⟨j, q, hj, rfl, rfl⟩ := hrel
        by_cases hjt : j < n
        · have cz := k0'.out j hjt
          have hff := hf2.out j hjt
          generalize T.getD j 0 = u at cz hff
          have hjI : (j : Int) < n := by omega
          obtain ⟨x1', hx1⟩ : ∃ y, x + 1 = y := ⟨_, rfl⟩
          have hw : IntKind.i64.wrap x1' = x1' := wrap_in (by omega)
          clear k0' hf2
          by_cases e1 : x < y
          · obtain ⟨f1, f2⟩ := hff e1
            clear hff
            have g1 : decide (x < y) = true := decide_eq_true e1
            have g2 : decide (x1' < u) = false := decide_eq_false (by omega)
            by_cases e2 : k < j
            · have g3 : decide ((k : Int) < (j : Int)) = true := decide_eq_true (by omega)
              have g3' : decide (k < j) = true := decide_eq_true e2
              have g4 : decide (x < u) = false := decide_eq_false (by have := f2 e2; omega)
              clear f1 f2 e1 e2
              go_wp2
              go_quiet (fail)
              go_wp2
              go_roundw
              case rel => exact ⟨j + 1, q + nq, by omega, by go_num, rfl⟩
              case measure => simp [intOf]; omega
            · have g3 : decide ((k : Int) < (j : Int)) = false := decide_eq_false (by omega)
              have g3' : decide (k < j) = false := decide_eq_false e2
              clear f1 f2 e1 e2
              go_wp2
              go_quiet (fail)
              go_wp2
              go_roundw
              case rel => exact ⟨j + 1, q + nq, by omega, by go_num, rfl⟩
              case measure => simp [intOf]; omega
          · have g1 : decide (x < y) = false := decide_eq_false e1
            clear hff e1
            go_wp2
            go_quiet (fail)
            go_wp2
            go_roundw
            case rel => exact ⟨j + 1, q + nq, by omega, by go_num, rfl⟩
            case measure => simp [intOf]; omega
        · obtain rfl : n = j := by omega
          go_wp2
          go_roundw
          case rel => exact ⟨k + 1, q, by omega, by go_num, rfl⟩
          case measure => simp [intOf]; omega
    · obtain rfl : n = k := by omega
      go_wp2
      go_ret
      exact ⟨rfl, below_drewN B q⟩

set_option maxHeartbeats 1600000 in
theorem fair_no (x1 : Option Addr) (c1 n : Nat) (z : List Int) (all : Int) (w : World) (r1 : Row w x1 z) (l1 : Hid (z.length = n)) (hn : n ≤ 17592186044414) (hr : Hid (¬ sright z)) :
    Calls Try.prog 4 #[.int .i64 all, .slice x1 n c1] w fun e w' => e = .returned (.bool true) ∧ Below w.heap.size w w' := by
  have hR1 : Hid (decide (sright z) = false) := decide_eq_false hr.out
  have T1 := tok
  have T2 := tok
  have T3 := tok
  go_enter Try.func4, Try.ntmps4
  go_wp2_with (first
    | (clear T1; go_at_call 14; refine (alive_any _).mono ?_; rintro e v1 ⟨rfl, b1⟩; have s1 := r1.kept b1; clear r1; have B := b1; clear b1)
    | (clear T2; go_at_call 12; refine (share_non all x1 _ n z _ s1 l1.out hr.out (by omega)).mono ?_; rintro e v2 ⟨a2, c2, rfl, _, p, b2⟩; replace s1 := s1.kept b2; replace B := bthen B b2; clear b2)
    | (clear T3; go_at_call 9; refine (right_n x1 _ n z _ s1 l1.out (by omega) false hR1.out).mono ?_; rintro e v3 ⟨rfl, rfl⟩))
  go_ret
  exact ⟨rfl, B⟩

theorem shareFair_walk (a0 : Int) (a1 : Option Addr) (cap1 : Nat) (z1 : List Int) (w : World) (h0 : -9223372036854775808 ≤ a0 ∧ a0 ≤ 9223372036854775807) (h1 : FarIn w a1 cap1 z1) :
    Calls Try.prog 4 #[.int .i64 a0, .slice a1 z1.length cap1] w fun e w' => e = .returned (.bool true) ∧ Below w.heap.size w w' := by
  by_cases hr : sright z1
  · obtain ⟨R, hR⟩ := rounds hr (fit_lo a0)
    have S := hR.shares hr
    refine fair_any a1 cap1 z1.length z1 (outs (got z1 (fit a0) R) z1.length) R a0 (fit a0) (sm z1 z1.length) _ w h1.1 rfl hr.1 hr hR rfl (outs_len _ _) (S.right hr) rfl rfl rfl ?_ ?_ ?_
    · rw [sm_outs, hR.sum hr]
    · intro i hi
      rw [outs_getD _ _ _ hi]
      have := S.lo i hi; have := S.hi i hi; have := (hr.2 i hi).2
      unfold wt at *
      omega
    · intro i j hi hj h
      rw [outs_getD _ _ _ hi] at h
      rw [outs_getD _ _ _ hi, outs_getD _ _ _ hj]
      exact S.fair hi hj h
  · exact fair_no a1 cap1 z1.length z1 a0 w h1.1 rfl (by have := h1.2.1; omega) hr

end Go.Proofs.Ytggnhgbimkfdaaa
namespace Go.Proofs.Ytggnhgbimkfdaaa.shareFair
open Go.ChangeShapes Go.WideShapes Go.ChangeAt Go.RowKit
set_option linter.unusedVariables false

set_option maxRecDepth 100000 in
theorem lifted (os : Os) (started : os.Started) (H : Type) (enc : TypeId × Value → H) :
    ReturnsInHanded {} Try.checked os 4 .any (Rows.shareFairSpec.pre6 enc Try.prog Try.f4 Rows.shareFairRow.domain false) (Rows.shareFairSpec.post enc Try.prog Try.f4 false true false false) := by
  refine returnsInHanded_of_change_sized (C := Try.checked) own started (by kernel_rfl) Try.func4
    (ChangeSpec.witness6 (enc := enc) (C := Try.checked) false ⟨#[], #[.int .i64 0, .slice none 0 0], []⟩ 8 (by kernel_rfl) (by kernel_rfl) (by kernel_rfl) (by kernel_rfl)) ?_
  intro W base args ds gs before hval0 hW _ hsz0 _
  have hsz : (DataW.weightsEach Try.prog (Try.f4.params.toList ++ Rows.shareFairSpec.plain.varTypes Try.prog) (ds ++ gs)).all (· ≤ reachBytes) = true := hsz0
  have hval : ∀ (j : Nat) t v, Try.f4.params[j]? = some t → args[j]? = some v → Value.okWide Try.prog W .any base t v := hval0
  have hW' := hW
  obtain ⟨p, q, hA0, hV, rfl, hfz, hnd⟩ := hW
  have hA : DataW.TrodAll enc Try.prog W 0 (fun _ => true) true Try.f4.params.toList args.toList ds p := hA0
  rw [Try.params4] at hA hval hsz
  obtain ⟨v0, vs0, d0, ds0, p0, q0, hargs, rfl, rfl, h0, r0⟩ := trodAll_cons hA
  obtain ⟨v1, vs1, d1, ds1, p1, q1, rfl, rfl, rfl, h1, r1⟩ := trodAll_cons r0
  obtain ⟨rfl, rfl, rfl⟩ := trodAll_nil r1
  obtain rfl : args = #[v0, v1] := by cases args; simp_all
  obtain ⟨rfl, rfl⟩ := trodVars_none hV
  obtain ⟨a0, rfl, rfl, rfl, w0⟩ := open_int Try.underlying3 (hval 0 3 v0 rfl rfl) h0
  obtain ⟨a1, len1, cap1, rfl⟩ := okWide_slice Try.underlying22 (hval 1 22 v1 rfl rfl)
  have k1 := h1
  have lt1 : ∀ x ∈ p1, x.block < W.heap.size := by obtain ⟨m, hm⟩ := k1; exact DataW.trod_lt m _ _ _ hm
  obtain ⟨z1, rfl, w1⟩ := farIn h1 (fun elems spare e => by
    subst e
    have := sized_slice hsz (j := 1) (t := 22) (e := 3) rfl rfl Try.underlying22
    rw [Try.bytes3] at this
    exact this)
  clear hA0 hval0 hsz0 hsz
  refine (shareFair_walk a0 a1 cap1 z1 W (fits w0) w1).mono fun e W' ⟨he, bel⟩ => ?_
  subst he
  exact ⟨_, rfl, _, _, _, [], _, [], hW', trodAll_mk1 (shut_bool Try.underlying4 _), (trodAll_cons_mk (shut_int Try.underlying3 w0) (trodAll_cons_mk (Below.trod laidOut (by kernel_rfl) (of_decide_eq_true (by kernel_rfl)) k1 bel lt1) trodAll_mk0)), rfl, bel.frame _, fun h => by cases h⟩

theorem proved : Rows.ShareFairSaid :=
  OpenClaim.holds_of_wide 4 Try.f4 rfl rfl rfl rfl rfl rfl rfl ⟨rfl, rfl, rfl, rfl, rfl⟩ rfl rfl rfl rfl rfl (by kernel_rfl) Try.func4 (by kernel_rfl)
    (of_decide_eq_true (by kernel_rfl)) (by unfold Func.isWrapper; first | (rw [if_pos (by decide +kernel)]; kernel_rfl) | (rw [if_neg (by decide +kernel)]; exact ⟨rfl, rfl⟩))
    (fun os started H enc _ => lifted os started H enc)

end Go.Proofs.Ytggnhgbimkfdaaa.shareFair
namespace Go.Proofs.Ytggnhgbimkfdaaa
theorem shareFair_holds : Rows.ShareFairSaid := shareFair.proved
#print axioms shareFair_holds
end Go.Proofs.Ytggnhgbimkfdaaa
