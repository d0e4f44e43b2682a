/- PROVED: with each delay so much longer the window is the same, at every argument. CONDITIONS: none. -/
import Derived.Test.YtniecidkkhneeaaAlive
import Derived.Test.YtniecidkkhneeaaAgg
namespace Go.Proofs.Ytniecidkkhneeaa
open Go.RowKit
set_option linter.unusedVariables false

set_option maxHeartbeats 8000000 in
theorem ledbatOff_walk (a0 : Int) (a1 : Option Addr) (cap1 : Nat) (z1 : List Int) (a2 : Int) (w : World) (w0 : -9223372036854775808 ≤ a0 ∧ a0 ≤ 9223372036854775807) (h1 : FarIn w a1 cap1 z1) (w2 : -9223372036854775808 ≤ a2 ∧ a2 ≤ 9223372036854775807) :
    Calls Try.prog 6 #[.int .i64 a0, .slice a1 z1.length cap1, .int .i64 a2] w fun e w' => e = .returned (.bool true) ∧ Below w.heap.size w w' := by
  obtain ⟨hr, hl, _, hin⟩ := h1
  have hm := clip_in a0
  have nw0 := fun v => new_is a0 _ rfl v
  generalize clip a0 = m at hm nw0
  obtain ⟨N, hN⟩ : ∃ N, z1.length = N := ⟨_, rfl⟩
  rw [hN] at hl ⊢
  clear w0 hin
  have T1 := tok
  go_enter Try.func6, Try.ntmps6
  go_wp2_with (first
    | (go_at_call 13; refine (alive_any _).mono ?_; rintro e v1 ⟨rfl, b1⟩)
    | (clear T1; go_at_call 10; refine (nw0 _).mono ?_; rintro e v2 ⟨rfl, b2⟩; replace b1 := bthen b1 b2; clear b2)
    | (go_at_call 10; refine (nw0 _).mono ?_; rintro e v3 ⟨rfl, b2⟩; clear nw0; replace b1 := bthen b1 b2; clear b2))
  have hz : w.heap.size ≤ v3.heap.size := b1.size
  have hst := balloc (balloc b1 (.cells #[.int .i64 3, .int .i64 m, .int .i64 (-1), .int .i64 0, .int .i64 0, .int .i64 0] 23)) (.cells #[.int .i64 3, .int .i64 m, .int .i64 (-1), .int .i64 0, .int .i64 0, .int .i64 0] 23)
  have X := (Ctl.new v3 _ rfl 3 m (-1) 0 0 0).alloc (.cells #[.int .i64 3, .int .i64 m, .int .i64 (-1), .int .i64 0, .int .i64 0, .int .i64 0] 23)
  have Y := Ctl.new (v3.alloc (.cells #[.int .i64 3, .int .i64 m, .int .i64 (-1), .int .i64 0, .int .i64 0, .int .i64 0] 23)) (v3.heap.size + 1) (by simp) 3 m (-1) 0 0 0
  have hCD : v3.heap.size < v3.heap.size + 1 := by omega
  generalize v3.heap.size + 1 = D at hCD Y ⊢
  generalize v3.heap.size = C at hz hCD X ⊢
  generalize (v3.alloc (.cells #[.int .i64 3, .int .i64 m, .int .i64 (-1), .int .i64 0, .int .i64 0, .int .i64 0] 23)).alloc (.cells #[.int .i64 3, .int .i64 m, .int .i64 (-1), .int .i64 0, .int .i64 0, .int .i64 0] 23) = v4 at hst X Y ⊢
  clear b1
  have hz2 : w.heap.size ≤ D := by omega
  go_loopw [21] (fun i wr => ∃ (k : Nat) (n b b2 q : Int), k ≤ N ∧ i = .int .i64 k ∧ (1 ≤ n ∧ n ≤ 12) ∧ ((0 ≤ q ∧ q ≤ 3) ∧ (n < 12 ∨ q = 0)) ∧ (b = -1 ∧ b2 = -1 ∨ 0 ≤ b ∧ b ≤ 1073741824 ∧ 0 ≤ a2 ∧ a2 ≤ 1073741824 ∧ b2 = b + a2) ∧ Ctl wr C 3 n b 0 0 q ∧ Ctl wr D 3 n b2 0 0 q ∧ Below w.heap.size w wr) (fun i _ => N - (intOf i).toNat)
  case atStart => exact ⟨0, m, -1, -1, 0, Nat.zero_le _, rfl, hm, by omega, .inl ⟨rfl, rfl⟩, X, Y, hst⟩
  case round =>
    obtain ⟨k, n, b, b2, q, hk, rfl, hn, hq, hb, X1, Y1, hB⟩ := hrel
    clear X Y hst
    by_cases hlt : k < N
    · obtain ⟨g, off, rfl, e1⟩ := (hr.kept hB).at (by omega)
      have cx := e1 k (by omega)
      have hkI : (k : Int) < N := by omega
      clear e1
      generalize z1.getD k 0 = x at cx
      by_cases hx : 0 ≤ x ∧ x ≤ 1073741824 ∧ 0 ≤ a2 ∧ a2 ≤ 1073741824
      · obtain ⟨hx0, hx1, hy0, hy1⟩ := hx
        have hkr : mright 3 n b 0 0 q := ⟨rfl, hn, by omega, rfl, rfl, hq.1, hq.2⟩
        have hkr2 : mright 3 n b2 0 0 q := ⟨rfl, hn, by omega, rfl, rfl, hq.1, hq.2⟩
        obtain ⟨V, B, Q, hN2, hN3, hV, hQ, hBi⟩ : ∃ V B Q, nextC 3 n b 0 0 q x = (3, V, B, Q, 0) ∧ nextC 3 n b2 0 0 q (x + a2) = (3, V, B + a2, Q, 0) ∧ (1 ≤ V ∧ V ≤ 12) ∧ ((0 ≤ Q ∧ Q ≤ 3) ∧ (V < 12 ∨ Q = 0)) ∧ (0 ≤ B ∧ B ≤ 1073741824) := by
          have hi1 : inr x := ⟨by omega, by omega⟩
          have hi2 : inr (x + a2) := ⟨by omega, by omega⟩
          have e : nb b2 (x + a2) = nb b x + a2 := by
            rcases hb with ⟨rfl, rfl⟩ | ⟨h0, _, _, _, rfl⟩
            · rw [nb_none, nb_none]
            · exact nb_off h0 hy0
          have hi := nb_in (b := b) hi1
          refine ⟨_, _, _, by unfold nextC; rw [if_pos hkr, if_pos hi1], ?_, ct_right.1, ct_right.2, hi.1, by omega⟩
          unfold nextC; rw [if_pos hkr2, if_pos hi2, e, show x + a2 - (nb b x + a2) = x - nb b x by omega]
        have nx := fun v => next_any 3 n b 0 0 q x 3 V B Q 0 hN2 v
        have ny := fun v => next_any 3 n b2 0 0 q (x + a2) 3 V (B + a2) Q 0 hN3 v
        clear hkr hkr2 hN2 hN3 hn hq hb
        replace hQ : Hid _ := hQ
        have t0 : decide (x < 0) = false := decide_eq_false (by omega)
        have t1 : decide (a2 < 0) = false := decide_eq_false (by omega)
        have t2 : decide (1073741824 < x) = false := decide_eq_false (by omega)
        have t3 : decide (1073741824 < a2) = false := decide_eq_false (by omega)
        have T1 := tok
        have T2 := tok
        obtain ⟨c0, c1, c2, c3, c4, c5, f0, f1, f2, f3, f4, f5⟩ := X1
        obtain ⟨d0, d1, d2, d3, d4, d5, g0, g1, g2, g3, g4, g5⟩ := Y1
        go_wp2_with (first
          | (clear T1; go_at_call 8; refine (nx _).mono ?_; rintro e v5 ⟨rfl, b5⟩; clear nx; have X2 := (Ctl.mk c0 c1 c2 c3 c4 c5 f0 f1 f2 f3 f4 f5).kept b5; have Y2 := (Ctl.mk d0 d1 d2 d3 d4 d5 g0 g1 g2 g3 g4 g5).kept b5; clear c0 c1 c2 c3 c4 c5 f0 f1 f2 f3 f4 f5; clear d0 d1 d2 d3 d4 d5 g0 g1 g2 g3 g4 g5; replace hB := bthen hB b5; clear b5; obtain ⟨c0, c1, c2, c3, c4, c5, f0, f1, f2, f3, f4, f5⟩ := X2; obtain ⟨d0, d1, d2, d3, d4, d5, g0, g1, g2, g3, g4, g5⟩ := Y2)
          | (clear T2; go_at_call 8; refine (ny _).mono ?_; rintro e v6 ⟨rfl, b6⟩; clear ny; have X2 := (Ctl.put (Ctl.mk c0 c1 c2 c3 c4 c5 f0 f1 f2 f3 f4 f5) 3 V B 0 0 Q).kept b6; have Y2 := ((((((((Ctl.mk d0 d1 d2 d3 d4 d5 g0 g1 g2 g3 g4 g5).far (by omega) _).far (by omega) _).far (by omega) _).far (by omega) _).far (by omega) _).far (by omega) _)).kept b6; clear c0 c1 c2 c3 c4 c5 f0 f1 f2 f3 f4 f5; clear d0 d1 d2 d3 d4 d5 g0 g1 g2 g3 g4 g5; replace hB := bthen ((((((hB.setCell (p := ⟨C, 0, none⟩) hz _).setCell (p := ⟨C, 1, none⟩) hz _).setCell (p := ⟨C, 2, none⟩) hz _).setCell (p := ⟨C, 3, none⟩) hz _).setCell (p := ⟨C, 4, none⟩) hz _).setCell (p := ⟨C, 5, none⟩) hz _) b6; clear b6; obtain ⟨c0, c1, c2, c3, c4, c5, f0, f1, f2, f3, f4, f5⟩ := X2; obtain ⟨d0, d1, d2, d3, d4, d5, g0, g1, g2, g3, g4, g5⟩ := Y2))
        go_roundw
        case rel => exact ⟨k + 1, V, B, B + a2, Q, by omega, by go_num, hV, hQ.out, .inr ⟨hBi.1, hBi.2, hy0, hy1, rfl⟩, (((((((Ctl.mk c0 c1 c2 c3 c4 c5 f0 f1 f2 f3 f4 f5).far (by omega) _).far (by omega) _).far (by omega) _).far (by omega) _).far (by omega) _).far (by omega) _), Ctl.put (Ctl.mk d0 d1 d2 d3 d4 d5 g0 g1 g2 g3 g4 g5) 3 V (B + a2) 0 0 Q, ((((((hB.setCell (p := ⟨D, 0, none⟩) hz2 _).setCell (p := ⟨D, 1, none⟩) hz2 _).setCell (p := ⟨D, 2, none⟩) hz2 _).setCell (p := ⟨D, 3, none⟩) hz2 _).setCell (p := ⟨D, 4, none⟩) hz2 _).setCell (p := ⟨D, 5, none⟩) hz2 _)⟩
        case measure => simp [intOf]; omega
      · obtain ⟨c0, c1, c2, c3, c4, c5, f0, f1, f2, f3, f4, f5⟩ := X1
        obtain ⟨d0, d1, d2, d3, d4, d5, g0, g1, g2, g3, g4, g5⟩ := Y1
        replace hb : Hid _ := hb
        replace hq : Hid _ := hq
        have ht : decide (x < 0) = true ∨ decide (x < 0) = false ∧ decide (a2 < 0) = true ∨ decide (x < 0) = false ∧ decide (a2 < 0) = false ∧ decide (1073741824 < x) = true ∨ decide (x < 0) = false ∧ decide (a2 < 0) = false ∧ decide (1073741824 < x) = false ∧ decide (1073741824 < a2) = true := by
          simp only [decide_eq_true_iff, decide_eq_false_iff_not]; omega
        clear hx
        rcases ht with t0 | ⟨t0, t1⟩ | ⟨t0, t1, t2⟩ | ⟨t0, t1, t2, t3⟩
        all_goals
          go_wp2
          go_ret
          exact ⟨rfl, hB⟩
    · go_wp2
      go_ret
      exact ⟨rfl, hB⟩

end Go.Proofs.Ytniecidkkhneeaa
namespace Go.Proofs.Ytniecidkkhneeaa.ledbatOff
open Go.ChangeShapes Go.WideShapes Go.ChangeAt Go.RowKit
set_option linter.unusedVariables false

set_option maxRecDepth 100000 in
theorem lifted (os : Os) (started : os.Started) (H : Type) (enc : TypeId × Value → H) :
    ReturnsInHanded {} Try.checked os 6 .any (Rows.ledbatOffSpec.pre6 enc Try.prog Try.f6 Rows.ledbatOffRow.domain false) (Rows.ledbatOffSpec.post enc Try.prog Try.f6 false true false false) := by
  refine returnsInHanded_of_change_sized (C := Try.checked) own started (by kernel_rfl) Try.func6
    (ChangeSpec.witness6 (enc := enc) (C := Try.checked) false ⟨#[], #[.int .i64 0, .slice none 0 0, .int .i64 0], []⟩ 8 (by kernel_rfl) (by kernel_rfl) (by kernel_rfl) (by kernel_rfl)) ?_
  intro W base args ds gs before hval0 hW _ hsz0 _
  have hsz : (DataW.weightsEach Try.prog (Try.f6.params.toList ++ Rows.ledbatOffSpec.plain.varTypes Try.prog) (ds ++ gs)).all (· ≤ reachBytes) = true := hsz0
  have hval : ∀ (j : Nat) t v, Try.f6.params[j]? = some t → args[j]? = some v → Value.okWide Try.prog W .any base t v := hval0
  have hW' := hW
  obtain ⟨p, q, hA0, hV, rfl, hfz, hnd⟩ := hW
  have hA : DataW.TrodAll enc Try.prog W 0 (fun _ => true) true Try.f6.params.toList args.toList ds p := hA0
  rw [Try.params6] at hA hval hsz
  obtain ⟨v0, vs0, d0, ds0, p0, q0, hargs, rfl, rfl, h0, r0⟩ := trodAll_cons hA
  obtain ⟨v1, vs1, d1, ds1, p1, q1, rfl, rfl, rfl, h1, r1⟩ := trodAll_cons r0
  obtain ⟨v2, vs2, d2, ds2, p2, q2, rfl, rfl, rfl, h2, r2⟩ := trodAll_cons r1
  obtain ⟨rfl, rfl, rfl⟩ := trodAll_nil r2
  obtain rfl : args = #[v0, v1, v2] := by cases args; simp_all
  obtain ⟨rfl, rfl⟩ := trodVars_none hV
  obtain ⟨a0, rfl, rfl, rfl, w0⟩ := open_int Try.underlying3 (hval 0 3 v0 rfl rfl) h0
  obtain ⟨a1, len1, cap1, rfl⟩ := okWide_slice Try.underlying30 (hval 1 30 v1 rfl rfl)
  have k1 := h1
  have lt1 : ∀ x ∈ p1, x.block < W.heap.size := by obtain ⟨m, hm⟩ := k1; exact DataW.trod_lt m _ _ _ hm
  obtain ⟨z1, rfl, w1⟩ := farIn h1 (fun elems spare e => by
    subst e
    have := sized_slice hsz (j := 1) (t := 30) (e := 3) rfl rfl Try.underlying30
    rw [Try.bytes3] at this
    exact this)
  obtain ⟨a2, rfl, rfl, rfl, w2⟩ := open_int Try.underlying3 (hval 2 3 v2 rfl rfl) h2
  clear hA0 hval0 hsz0 hsz
  refine (ledbatOff_walk a0 a1 cap1 z1 a2 W (fits w0) w1 (fits w2)).mono fun e W' ⟨he, bel⟩ => ?_
  subst he
  exact ⟨_, rfl, _, _, _, [], _, [], hW', trodAll_mk1 (shut_bool Try.underlying4 _), (trodAll_cons_mk (shut_int Try.underlying3 w0) (trodAll_cons_mk (Below.trod laidOut (by kernel_rfl) (of_decide_eq_true (by kernel_rfl)) k1 bel lt1) (trodAll_cons_mk (shut_int Try.underlying3 w2) trodAll_mk0))), rfl, bel.frame _, fun h => by cases h⟩

theorem proved : Rows.LedbatOffSaid :=
  OpenClaim.holds_of_wide 6 Try.f6 rfl rfl rfl rfl rfl rfl rfl ⟨rfl, rfl, rfl, rfl, rfl⟩ rfl rfl rfl rfl rfl (by kernel_rfl) Try.func6 (by kernel_rfl)
    (of_decide_eq_true (by kernel_rfl)) (by unfold Func.isWrapper; first | (rw [if_pos (by decide +kernel)]; kernel_rfl) | (rw [if_neg (by decide +kernel)]; exact ⟨rfl, rfl⟩))
    (fun os started H enc _ => lifted os started H enc)

end Go.Proofs.Ytniecidkkhneeaa.ledbatOff
namespace Go.Proofs.Ytniecidkkhneeaa
theorem ledbatOff_holds : Rows.LedbatOffSaid := ledbatOff.proved
#print axioms ledbatOff_holds
end Go.Proofs.Ytniecidkkhneeaa
