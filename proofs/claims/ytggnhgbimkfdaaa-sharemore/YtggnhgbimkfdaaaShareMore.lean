/- PROVED: the statement ShareMore, at every input: more for all is less for nobody; and who wants less takes nothing from anybody. CONDITIONS: none. -/
import Derived.Test.YtggnhgbimkfdaaaSum
namespace Go.Proofs.Ytggnhgbimkfdaaa
open Go.RowKit
set_option linter.unusedVariables false

theorem cellAt {w : World} {b o : Nat} {z : List Int} (h : Row w (some ⟨b, o, none⟩) z) (k : Nat) (hk : k < z.length) : w.cell? ⟨b, o + k, none⟩ = some (.int .i64 (z.getD k 0)) := by
  obtain ⟨b', o', e, hc⟩ := h.at (by omega)
  injection e with e
  injection e with e1 e2
  subst e1; subst e2
  exact hc k hk

theorem rowOf {w : World} {g n : Nat} {M : List Int} (h : Cells w g n (fun j => M.getD j 0)) (hn : M.length = n) : Row w (some ⟨g, 0, none⟩) M :=
  .inr ⟨g, 0, rfl, fun j hj => by rw [Nat.zero_add]; exact h.c j (by omega)⟩

set_option maxHeartbeats 6400000 in
theorem more_any (x2 : Option Addr) (c2 n k : Nat) (z M A P C : List Int) (R1 R2 R3 : Nat) (all more all2 less y v : Int) (w : World) (r2 : Row w x2 z) (l2 : Hid (z.length = n)) (hn : n ≤ 300) (hk : k < n) (hr : Hid (sright z)) (hrM : Hid (sright M)) (lM : Hid (M.length = n))
    (h2 : Hid (plus all more = all2)) (hR1 : Hid (Rounds z (fit all) R1)) (hR2 : Hid (Rounds z (fit all2) R2)) (hR3 : Hid (Rounds M (fit all) R3)) (hA : Hid (outs (got z (fit all) R1) n = A)) (hP : Hid (outs (got z (fit all2) R2) n = P)) (hC : Hid (outs (got M (fit all) R3) n = C))
    (lA : Hid (A.length = n)) (lP : Hid (P.length = n)) (lC : Hid (C.length = n)) (hy : Hid (z.getD k 0 = y)) (hl0 : 0 ≤ less) (hl1 : less ≤ y) (hy1 : y ≤ 1048576) (hv : y - less = v) (hM : Hid (M.getD k 0 = v)) (hMo : Hid (∀ j, j < n → j ≠ k → M.getD j 0 = z.getD j 0))
    (hq : Hid (∀ i, i < n → A.getD i 0 ≤ P.getD i 0 ∧ (i ≠ k → A.getD i 0 ≤ C.getD i 0))) :
    Calls Try.prog 5 #[.int .i64 all, .int .i64 more, .slice x2 n c2, .int .i64 k, .int .i64 less] w fun e w' => e = .returned (.bool true) ∧ Below w.heap.size w w' := by
  have hR : Hid (decide (sright z) = true) := decide_eq_true hr.out
  have e1 : decide (less < 0) = false := decide_eq_false (by omega)
  have e2 : decide (y < less) = false := decide_eq_false (by omega)
  have e3 : decide ((n : Int) ≤ (k : Int)) = false := decide_eq_false (by omega)
  have e3' : decide (n ≤ k) = false := decide_eq_false (by omega)
  have e4 : decide ((k : Int) < 0) = false := decide_eq_false (by omega)
  have hkI : (k : Int) < n := by omega
  have q2 := l2.out
  obtain ⟨b, o, rfl, kc⟩ := r2.at (by omega)
  have T1 := tok
  have T2 := tok
  have T3 := tok
  have T4 := tok
  have T5 := tok
  have T6 := tok
  have T7 := tok
  clear q2
  go_enter Try.func5, Try.ntmps5
  go_wp2_with (first
    | (clear T1; go_at_call 14; refine (alive_any _).mono ?_; rintro e v1 ⟨rfl, b1⟩; have s1 := r2.kept b1; clear r2; have B := b1; clear b1)
    | (clear T2; go_at_call 9; refine (right_n _ _ n z _ s1 l2.out (by omega) true hR.out).mono ?_; rintro e v2 ⟨rfl, hv2⟩; rw [← hv2] at s1 B; clear hv2; have cy := hy.out ▸ (cellAt s1 k (l2.out ▸ hk)))
    | (clear T3; go_at_call 12; refine (share_n all _ _ n z A R1 _ s1 l2.out hr.out hR1.out hA.out).mono ?_; rintro e v3 ⟨a3, c3, rfl, _, pA, b3⟩; replace s1 := s1.kept b3; replace B := bthen B b3; clear b3 cy)
    | (clear T4; go_at_call 17; refine (plus_any all more _).mono ?_; rintro e v4 ⟨rfl, rfl⟩; rw [h2.out])
    | (clear T5; go_at_call 12; refine (share_n all2 _ _ n z P R2 _ s1 l2.out hr.out hR2.out hP.out).mono ?_; rintro e v5 ⟨a5, c5, rfl, _, pP, b5⟩; replace s1 := s1.kept b5; replace pA := pA.kept b5; replace B := bthen B b5; clear b5)
    | (clear T6; go_at_call 18; refine (clone_any b o c2 z n _ l2.out (by omega) (by omega) (fun j hj => cellAt s1 j hj)).mono ?_; rintro e v6 ⟨g, c6, rfl, hg, hC6, b6⟩; have cc := hC6.c k hk; rw [hy.out] at cc; have cf := hC6.fz k hk; have bs := b6.setCell (p := ⟨g, k, none⟩) hg (.int .i64 v); have pM := rowOf (hC6.put (V' := fun j => M.getD j 0) hk hM.out (fun j h1 h2 => hMo.out j h1 h2)) lM.out; replace pA := pA.kept bs; replace pP := pP.kept bs; replace B := bthen B bs; clear bs b6 s1 hC6 hg)
    | (clear T7; go_at_call 12; refine (share_n all _ _ n M C R3 _ pM lM.out hrM.out hR3.out hC.out).mono ?_; rintro e v7 ⟨a7, c7, rfl, _, pC, b7⟩; replace pA := pA.kept b7; replace pP := pP.kept b7; replace B := bthen B b7; clear b7 pM cc cf))
  clear hr hrM hR1 hR2 hR3 hA hP hC hR h2 e1 e2 e3 e3' e4 kc hy hM hMo
  go_loopw [84] (fun i wr => ∃ i' q : Nat, i' ≤ n ∧ i = .int .i64 i' ∧ wr = v7.drewN q) (fun i _ => n - (intOf i).toNat)
  case atStart => exact ⟨0, 0, Nat.zero_le _, rfl, rfl⟩
  case round =>
    obtain ⟨i, q, hi, rfl, rfl⟩ := hrel
    by_cases hlt : i < n
    · have q1 := lA.out
      have q2 := lP.out
      have q3 := lC.out
      obtain ⟨g0, o0, rfl, k0⟩ := pA.at (by omega)
      obtain ⟨g1, o1, rfl, k1⟩ := pP.at (by omega)
      obtain ⟨g2, o2, rfl, k2⟩ := pC.at (by omega)
      have cx := k0 i (by omega)
      have cy := k1 i (by omega)
      have cz := k2 i (by omega)
      obtain ⟨f1, f2⟩ := hq.out i hlt
      generalize A.getD i 0 = x at cx f1 f2
      generalize P.getD i 0 = y' at cy f1
      generalize C.getD i 0 = u at cz f2
      have d1 : decide (y' < x) = false := decide_eq_false (by omega)
      have hltI : (i : Int) < n := by omega
      clear k0 k1 k2 q1 q2 q3 hq pA pP pC
      by_cases e : i = k
      · subst e
        have d2 : ((i : Int) == (i : Int)) = true := beq_iff_eq.2 rfl
        clear f2
        go_wp2
        go_quiet (fail)
        go_wp2
        go_roundw
        case rel => exact ⟨i + 1, q + nq, by omega, by go_num, rfl⟩
        case measure => simp [intOf]; omega
      · have d2 : ((i : Int) == (k : Int)) = false := beq_eq_false_iff_ne.2 (by omega)
        have d7 : ((i : Int) != (k : Int)) = true := bne_iff_ne.2 (by omega)
        have d3 : decide (u < x) = false := decide_eq_false (by have := f2 e; omega)
        clear f1 f2
        go_wp2
        go_quiet (fail)
        go_wp2
        go_roundw
        case rel => exact ⟨i + 1, q + nq, by omega, by go_num, rfl⟩
        case measure => simp [intOf]; omega
    · obtain rfl : n = i := by omega
      go_wp2
      go_ret
      exact ⟨rfl, below_drewN B q⟩

set_option maxHeartbeats 3200000 in
theorem more_no (x2 : Option Addr) (c2 n : Nat) (z : List Int) (all more kk less : Int) (w : World) (r2 : Row w x2 z) (l2 : Hid (z.length = n)) (hn : n ≤ 17592186044414) (t0 : Bool) (hr : Hid (decide (sright z) = t0))
    (h : t0 = false ∨ t0 = true ∧ (decide (kk < 0) = true ∨ decide (kk < 0) = false ∧ (decide ((n : Int) ≤ kk) = true ∨ decide ((n : Int) ≤ kk) = false ∧ decide (less < 0) = true))) :
    Calls Try.prog 5 #[.int .i64 all, .int .i64 more, .slice x2 n c2, .int .i64 kk, .int .i64 less] w fun e w' => e = .returned (.bool true) ∧ Below w.heap.size w w' := by
  have T1 := tok
  have T2 := tok
  rcases h with rfl | ⟨rfl, h1 | ⟨h1, h2 | ⟨h2, h3⟩⟩⟩
  all_goals
    go_enter Try.func5, Try.ntmps5
    go_wp2_with (first
      | (clear T1; go_at_call 14; refine (alive_any _).mono ?_; rintro e v1 ⟨rfl, b1⟩; have s1 := r2.kept b1; clear r2; have B := b1; clear b1)
      | (clear T2; go_at_call 9; refine (right_n _ _ n z _ s1 l2.out (by omega) _ hr.out).mono ?_; rintro e v2 ⟨rfl, rfl⟩))
    go_ret
    exact ⟨rfl, B⟩

set_option maxHeartbeats 3200000 in
theorem more_over (x2 : Option Addr) (c2 n k : Nat) (z : List Int) (all more less y : Int) (w : World) (r2 : Row w x2 z) (l2 : Hid (z.length = n)) (hn : n ≤ 300) (hk : k < n) (hr : Hid (decide (sright z) = true)) (hy : Hid (z.getD k 0 = y)) (h0 : decide (less < 0) = false) (h1 : decide (y < less) = true) :
    Calls Try.prog 5 #[.int .i64 all, .int .i64 more, .slice x2 n c2, .int .i64 k, .int .i64 less] w fun e w' => e = .returned (.bool true) ∧ Below w.heap.size w w' := by
  have e3 : decide ((n : Int) ≤ (k : Int)) = false := decide_eq_false (by omega)
  have e3' : decide (n ≤ k) = false := decide_eq_false (by omega)
  have e4 : decide ((k : Int) < 0) = false := decide_eq_false (by omega)
  have hkI : (k : Int) < n := by omega
  have q2 := l2.out
  obtain ⟨b, o, rfl, kc⟩ := r2.at (by omega)
  have T1 := tok
  have T2 := tok
  clear q2 kc
  go_enter Try.func5, Try.ntmps5
  go_wp2_with (first
    | (clear T1; go_at_call 14; refine (alive_any _).mono ?_; rintro e v1 ⟨rfl, b1⟩; have s1 := r2.kept b1; clear r2; have B := b1; clear b1)
    | (clear T2; go_at_call 9; refine (right_n _ _ n z _ s1 l2.out (by omega) true hr.out).mono ?_; rintro e v2 ⟨rfl, hv2⟩; rw [← hv2] at s1 B; clear hv2; have cy := hy.out ▸ (cellAt s1 k (l2.out ▸ hk))))
  go_ret
  exact ⟨rfl, B⟩

/-- the same wants, but for one who wants less -/
def modest (z : List Int) (k : Nat) (less : Int) : List Int := outs (fun j => if j = k then z.getD k 0 - less else z.getD j 0) z.length
theorem modest_len (z : List Int) (k : Nat) (less : Int) : (modest z k less).length = z.length := outs_len _ _
theorem modest_at (z : List Int) (k : Nat) (less : Int) (j : Nat) (hj : j < z.length) : (modest z k less).getD j 0 = if j = k then z.getD k 0 - less else z.getD j 0 := outs_getD _ _ _ hj
theorem modest_right {z : List Int} (h : sright z) (k : Nat) (less : Int) (h0 : 0 ≤ less) (h1 : less ≤ z.getD k 0) : sright (modest z k less) := by
  refine ⟨by rw [modest_len]; exact h.1, fun j hj => ?_⟩
  rw [modest_len] at hj
  have := h.2 j hj
  rw [modest_at _ _ _ _ hj]
  unfold inr at *
  split
  · rename_i e
    subst e
    omega
  · exact this

theorem shareMore_walk (a0 : Int) (a1 : Int) (a2 : Option Addr) (cap2 : Nat) (z2 : List Int) (a3 : Int) (a4 : Int) (w : World) (h0 : -9223372036854775808 ≤ a0 ∧ a0 ≤ 9223372036854775807) (h1 : -9223372036854775808 ≤ a1 ∧ a1 ≤ 9223372036854775807) (h2 : FarIn w a2 cap2 z2) (h3 : -9223372036854775808 ≤ a3 ∧ a3 ≤ 9223372036854775807) (h4 : -9223372036854775808 ≤ a4 ∧ a4 ≤ 9223372036854775807) :
    Calls Try.prog 5 #[.int .i64 a0, .int .i64 a1, .slice a2 z2.length cap2, .int .i64 a3, .int .i64 a4] w fun e w' => e = .returned (.bool true) ∧ Below w.heap.size w w' := by
  have hl := h2.2.1
  by_cases hr : sright z2
  · by_cases c1 : a3 < 0
    · exact more_no a2 cap2 z2.length z2 a0 a1 a3 a4 w h2.1 rfl (by omega) true (decide_eq_true hr) (.inr ⟨rfl, .inl (decide_eq_true c1)⟩)
    · by_cases c2 : (z2.length : Int) ≤ a3
      · exact more_no a2 cap2 z2.length z2 a0 a1 a3 a4 w h2.1 rfl (by omega) true (decide_eq_true hr) (.inr ⟨rfl, .inr ⟨decide_eq_false c1, .inl (decide_eq_true c2)⟩⟩)
      · by_cases c3 : a4 < 0
        · exact more_no a2 cap2 z2.length z2 a0 a1 a3 a4 w h2.1 rfl (by omega) true (decide_eq_true hr) (.inr ⟨rfl, .inr ⟨decide_eq_false c1, .inr ⟨decide_eq_false c2, decide_eq_true c3⟩⟩⟩)
        · obtain ⟨k, rfl⟩ : ∃ k : Nat, a3 = k := ⟨a3.toNat, by omega⟩
          have hk : k < z2.length := by omega
          have hz := hr.2 k hk
          unfold inr at hz
          by_cases c4 : z2.getD k 0 < a4
          · exact more_over a2 cap2 z2.length k z2 a0 a1 a4 (z2.getD k 0) w h2.1 rfl hr.1 hk (decide_eq_true hr) rfl (decide_eq_false c3) (decide_eq_true c4)
          · have hM := modest_right hr k a4 (by omega) (by omega)
            obtain ⟨R1, hR1⟩ := rounds hr (fit_lo a0)
            obtain ⟨R2, hR2⟩ := rounds hr (fit_lo (plus a0 a1))
            obtain ⟨R3, hR3⟩ := rounds hM (fit_lo a0)
            have S1 := hR1.shares hr
            have S2 := hR2.shares hr
            have S3 := hR3.shares hM
            rw [modest_len] at S3
            have hle : fit a0 ≤ fit (plus a0 a1) := by
              have e : plus a0 a1 = plus (fit a0) (fit a1) := (plus_fit _ _).symm
              have := plus_ge (a := fit a0) (fit a1) (fit_lo _) (fit_hi _)
              rw [e, fit_of _ (plus_lo _ _) (plus_hi _ _)]
              exact this
            refine more_any a2 cap2 z2.length k z2 (modest z2 k a4) _ _ _ R1 R2 R3 a0 a1 (plus a0 a1) a4 (z2.getD k 0) (z2.getD k 0 - a4) w h2.1 rfl hr.1 hk hr hM (modest_len _ _ _) rfl hR1 hR2 hR3 rfl rfl rfl (outs_len _ _) (outs_len _ _) (outs_len _ _) rfl (by omega) (by omega) (by omega) rfl ?_ ?_ ?_
            · show (modest z2 k a4).getD k 0 = _
              rw [modest_at _ _ _ _ hk, if_pos rfl]
            · intro j hj hne
              rw [modest_at _ _ _ _ hj, if_neg hne]
            · intro i hi
              rw [outs_getD _ _ _ hi, outs_getD _ _ _ hi, outs_getD _ _ _ hi]
              refine ⟨S1.more S2 hle (fun j _ => Int.le_refl _) hi rfl, fun hne => S1.more S3 (Int.le_refl _) (fun j hj => ?_) hi ?_⟩
              · show (modest z2 k a4).getD j 0 ≤ z2.getD j 0
                rw [modest_at _ _ _ _ hj]
                split
                · rename_i e
                  subst e
                  omega
                · exact Int.le_refl _
              · show (modest z2 k a4).getD i 0 = z2.getD i 0
                rw [modest_at _ _ _ _ hi, if_neg hne]
  · exact more_no a2 cap2 z2.length z2 a0 a1 a3 a4 w h2.1 rfl (by omega) false (decide_eq_false hr) (.inl rfl)

end Go.Proofs.Ytggnhgbimkfdaaa
namespace Go.Proofs.Ytggnhgbimkfdaaa.shareMore
open Go.ChangeShapes Go.WideShapes Go.ChangeAt Go.RowKit
set_option linter.unusedVariables false

set_option maxRecDepth 100000 in
theorem lifted (os : Os) (started : os.Started) (H : Type) (enc : TypeId × Value → H) :
    ReturnsInHanded {} Try.checked os 5 .any (Rows.shareMoreSpec.pre6 enc Try.prog Try.f5 Rows.shareMoreRow.domain false) (Rows.shareMoreSpec.post enc Try.prog Try.f5 false true false false) := by
  refine returnsInHanded_of_change_sized (C := Try.checked) own started (by kernel_rfl) Try.func5
    (ChangeSpec.witness6 (enc := enc) (C := Try.checked) false ⟨#[], #[.int .i64 0, .int .i64 0, .slice none 0 0, .int .i64 0, .int .i64 0], []⟩ 8 (by kernel_rfl) (by kernel_rfl) (by kernel_rfl) (by kernel_rfl)) ?_
  intro W base args ds gs before hval0 hW _ hsz0 _
  have hsz : (DataW.weightsEach Try.prog (Try.f5.params.toList ++ Rows.shareMoreSpec.plain.varTypes Try.prog) (ds ++ gs)).all (· ≤ reachBytes) = true := hsz0
  have hval : ∀ (j : Nat) t v, Try.f5.params[j]? = some t → args[j]? = some v → Value.okWide Try.prog W .any base t v := hval0
  have hW' := hW
  obtain ⟨p, q, hA0, hV, rfl, hfz, hnd⟩ := hW
  have hA : DataW.TrodAll enc Try.prog W 0 (fun _ => true) true Try.f5.params.toList args.toList ds p := hA0
  rw [Try.params5] at hA hval hsz
  obtain ⟨v0, vs0, d0, ds0, p0, q0, hargs, rfl, rfl, h0, r0⟩ := trodAll_cons hA
  obtain ⟨v1, vs1, d1, ds1, p1, q1, rfl, rfl, rfl, h1, r1⟩ := trodAll_cons r0
  obtain ⟨v2, vs2, d2, ds2, p2, q2, rfl, rfl, rfl, h2, r2⟩ := trodAll_cons r1
  obtain ⟨v3, vs3, d3, ds3, p3, q3, rfl, rfl, rfl, h3, r3⟩ := trodAll_cons r2
  obtain ⟨v4, vs4, d4, ds4, p4, q4, rfl, rfl, rfl, h4, r4⟩ := trodAll_cons r3
  obtain ⟨rfl, rfl, rfl⟩ := trodAll_nil r4
  obtain rfl : args = #[v0, v1, v2, v3, v4] := by cases args; simp_all
  obtain ⟨rfl, rfl⟩ := trodVars_none hV
  obtain ⟨a0, rfl, rfl, rfl, w0⟩ := open_int Try.underlying3 (hval 0 3 v0 rfl rfl) h0
  obtain ⟨a1, rfl, rfl, rfl, w1⟩ := open_int Try.underlying3 (hval 1 3 v1 rfl rfl) h1
  obtain ⟨a2, len2, cap2, rfl⟩ := okWide_slice Try.underlying22 (hval 2 22 v2 rfl rfl)
  have k2 := h2
  have lt2 : ∀ x ∈ p2, x.block < W.heap.size := by obtain ⟨m, hm⟩ := k2; exact DataW.trod_lt m _ _ _ hm
  obtain ⟨z2, rfl, w2⟩ := farIn h2 (fun elems spare e => by
    subst e
    have := sized_slice hsz (j := 2) (t := 22) (e := 3) rfl rfl Try.underlying22
    rw [Try.bytes3] at this
    exact this)
  obtain ⟨a3, rfl, rfl, rfl, w3⟩ := open_int Try.underlying3 (hval 3 3 v3 rfl rfl) h3
  obtain ⟨a4, rfl, rfl, rfl, w4⟩ := open_int Try.underlying3 (hval 4 3 v4 rfl rfl) h4
  clear hA0 hval0 hsz0 hsz
  refine (shareMore_walk a0 a1 a2 cap2 z2 a3 a4 W (fits w0) (fits w1) w2 (fits w3) (fits w4)).mono fun e W' ⟨he, bel⟩ => ?_
  subst he
  exact ⟨_, rfl, _, _, _, [], _, [], hW', trodAll_mk1 (shut_bool Try.underlying4 _), (trodAll_cons_mk (shut_int Try.underlying3 w0) (trodAll_cons_mk (shut_int Try.underlying3 w1) (trodAll_cons_mk (Below.trod laidOut (by kernel_rfl) (of_decide_eq_true (by kernel_rfl)) k2 bel lt2) (trodAll_cons_mk (shut_int Try.underlying3 w3) (trodAll_cons_mk (shut_int Try.underlying3 w4) trodAll_mk0))))), rfl, bel.frame _, fun h => by cases h⟩

theorem proved : Rows.ShareMoreSaid :=
  OpenClaim.holds_of_wide 5 Try.f5 rfl rfl rfl rfl rfl rfl rfl ⟨rfl, rfl, rfl, rfl, rfl⟩ rfl rfl rfl rfl rfl (by kernel_rfl) Try.func5 (by kernel_rfl)
    (of_decide_eq_true (by kernel_rfl)) (by unfold Func.isWrapper; first | (rw [if_pos (by decide +kernel)]; kernel_rfl) | (rw [if_neg (by decide +kernel)]; exact ⟨rfl, rfl⟩))
    (fun os started H enc _ => lifted os started H enc)

end Go.Proofs.Ytggnhgbimkfdaaa.shareMore
namespace Go.Proofs.Ytggnhgbimkfdaaa
theorem shareMore_holds : Rows.ShareMoreSaid := shareMore.proved
#print axioms shareMore_holds
end Go.Proofs.Ytggnhgbimkfdaaa
