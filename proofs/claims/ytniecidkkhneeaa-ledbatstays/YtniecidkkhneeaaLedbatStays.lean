/- PROVED: what a control knows stays right whatever delays come, its base the least of them, at every argument. CONDITIONS: none. -/
import Derived.Test.YtniecidkkhneeaaAlive
import Derived.Test.YtniecidkkhneeaaAgg
namespace Go.Proofs.Ytniecidkkhneeaa
open Go.RowKit
set_option linter.unusedVariables false

set_option maxHeartbeats 4000000 in
theorem ledbatStays_walk (a0 : Int) (a1 : Option Addr) (cap1 : Nat) (z1 : List Int) (w : World) (w0 : -9223372036854775808 ≤ a0 ∧ a0 ≤ 9223372036854775807) (h1 : FarIn w a1 cap1 z1) :
    Calls Try.prog 4 #[.int .i64 a0, .slice a1 z1.length cap1] w fun e w' => e = .returned (.bool true) ∧ Below w.heap.size w w' := by
  obtain ⟨hr, hl, _, hin⟩ := h1
  have hm := clip_in a0
  have nw0 := fun v => new_is a0 _ rfl v
  generalize clip a0 = m at hm nw0
  obtain ⟨N, hN⟩ : ∃ N, z1.length = N := ⟨_, rfl⟩
  rw [hN] at hl ⊢
  clear w0 hin
  go_enter Try.func4, Try.ntmps4
  go_wp2_with (first
    | (go_at_call 13; refine (alive_any _).mono ?_; rintro e v1 ⟨rfl, b1⟩)
    | (go_at_call 10; refine (nw0 _).mono ?_; rintro e v2 ⟨rfl, b2⟩; clear nw0; replace b1 := bthen b1 b2; clear b2; have X := Ctl.new v2 _ rfl 3 m (-1) 0 0 0))
  have hz : w.heap.size ≤ v2.heap.size := b1.size
  have hst := balloc b1 (.cells #[.int .i64 3, .int .i64 m, .int .i64 (-1), .int .i64 0, .int .i64 0, .int .i64 0] 23)
  generalize v2.heap.size = C at hz X ⊢
  generalize v2.alloc (.cells #[.int .i64 3, .int .i64 m, .int .i64 (-1), .int .i64 0, .int .i64 0, .int .i64 0] 23) = v3 at hst X ⊢
  clear b1
  go_loopw [6, 17] (fun l i wr => ∃ (k : Nat) (n b q L : Int), k ≤ N ∧ i = .int .i64 k ∧ l = .int .i64 L ∧ (1 ≤ n ∧ n ≤ 12) ∧ ((0 ≤ q ∧ q ≤ 3) ∧ (n < 12 ∨ q = 0)) ∧ (b = -1 ∧ L = 1152921504606846976 ∨ inr b ∧ b = L) ∧ Ctl wr C 3 n b 0 0 q ∧ Below w.heap.size w wr) (fun _ i _ => N - (intOf i).toNat)
  case atStart => exact ⟨0, m, -1, 0, _, Nat.zero_le _, rfl, rfl, hm, by omega, .inl ⟨rfl, rfl⟩, X, hst⟩
  case round =>
    obtain ⟨k, n, b, q, L, hk, rfl, rfl, hn, hq, hb, X1, hB⟩ := hrel
    clear X hst
    have hkr : mright 3 n b 0 0 q := ⟨rfl, hn, by unfold inr at hb; omega, rfl, rfl, hq.1, hq.2⟩
    by_cases hlt : k < N
    · obtain ⟨g, off, rfl, e1⟩ := (hr.kept hB).at (by omega)
      have cx := e1 k (by omega)
      have hkI : (k : Int) < N := by omega
      clear e1
      generalize z1.getD k 0 = x at cx
      by_cases hx : inr x
      · obtain ⟨V, B, Q, hN2, hV, hQ, hBL, hBi⟩ : ∃ V B Q, nextC 3 n b 0 0 q x = (3, V, B, Q, 0) ∧ (1 ≤ V ∧ V ≤ 12) ∧ ((0 ≤ Q ∧ Q ≤ 3) ∧ (V < 12 ∨ Q = 0)) ∧ min L x = B ∧ inr B := by
          have hi := nb_in (b := b) hx
          refine ⟨_, _, _, by unfold nextC; rw [if_pos hkr, if_pos hx], ct_right.1, ct_right.2, ?_, hi.1, hi.2.2.1⟩
          unfold inr at hb hx; unfold nb; split <;> omega
        have ry := fun v => right_yes 3 V B 0 0 Q ⟨rfl, hV, by unfold inr at hBi; omega, rfl, rfl, hQ.1, hQ.2⟩ v
        have nx := fun v => next_any 3 n b 0 0 q x 3 V B Q 0 hN2 v
        replace hb : Hid (inr B) := hBi
        clear hkr hN2 hBi hn hq
        unfold inr at hx
        have hx0 : decide (x < 0) = false := decide_eq_false (by omega)
        have hx1 : decide (1099511627776 < x) = false := decide_eq_false (by omega)
        clear hx
        have T1 := tok
        replace hQ : Hid _ := hQ
        obtain ⟨c0, c1, c2, c3, c4, c5, f0, f1, f2, f3, f4, f5⟩ := X1
        go_wp2_with (first
          | (clear T1; go_at_call 8; refine (nx _).mono ?_; rintro e v4 ⟨rfl, b4⟩; clear nx; have X2 := (Ctl.kept ⟨c0, c1, c2, c3, c4, c5, f0, f1, f2, f3, f4, f5⟩ b4); clear c0 c1 c2 c3 c4 c5 f0 f1 f2 f3 f4 f5; replace hB := bthen hB b4; clear b4; have Z := Ctl.new v4 _ rfl 3 V B 0 0 Q)
          | (go_at_call 11; refine (ry _).mono ?_; rintro e v5 ⟨rfl, b5⟩; clear ry; have hne : C < v4.heap.size := block_lt X2.c0; replace X2 := (X2.alloc _).kept b5; replace Z := Z.kept b5; replace hB := bthen hB (up1 b5); clear b5; obtain ⟨c0, c1, c2, c3, c4, c5, f0, f1, f2, f3, f4, f5⟩ := X2; obtain ⟨d0, d1, d2, d3, d4, d5, g0, g1, g2, g3, g4, g5⟩ := Z))
        go_roundw
        case rel => exact ⟨k + 1, V, B, Q, B, by omega, by go_num, rfl, hV, hQ.out, .inr ⟨hb.out, rfl⟩, Ctl.put (Ctl.mk c0 c1 c2 c3 c4 c5 f0 f1 f2 f3 f4 f5) 3 V B 0 0 Q, (((((hB.setCell (p := ⟨C, 0, none⟩) hz _).setCell (p := ⟨C, 1, none⟩) hz _).setCell (p := ⟨C, 2, none⟩) hz _).setCell (p := ⟨C, 3, none⟩) hz _).setCell (p := ⟨C, 4, none⟩) hz _).setCell (p := ⟨C, 5, none⟩) hz _⟩
        case measure => simp [intOf]; omega
      · have nx := fun v => next_any 3 n b 0 0 q x 0 0 0 0 2 (by unfold nextC; rw [if_pos hkr, if_neg hx]) v
        replace hb : Hid _ := hb
        replace hq : Hid _ := hq
        clear hkr
        unfold inr at hx
        obtain ⟨c0, c1, c2, c3, c4, c5, f0, f1, f2, f3, f4, f5⟩ := X1
        by_cases hx0 : x < 0
        case' neg => have hx1 : 1099511627776 < x := (by omega)
        all_goals
          clear hx
          go_wp2_with (go_at_call 8; refine (nx _).mono ?_; rintro e v4 ⟨rfl, b4⟩; clear nx; have X2 := (Ctl.kept ⟨c0, c1, c2, c3, c4, c5, f0, f1, f2, f3, f4, f5⟩ b4); replace hB := bthen hB b4; clear b4)
          go_roundw
          case rel => exact ⟨k + 1, n, b, q, L, by omega, by go_num, rfl, hn, hq.out, hb.out, X2.alloc _, balloc hB _⟩
          case measure => simp [intOf]; omega
    · have ry := fun v => right_yes 3 n b 0 0 q hkr v
      clear hkr
      obtain ⟨c0, c1, c2, c3, c4, c5, f0, f1, f2, f3, f4, f5⟩ := X1
      go_wp2_with (go_at_call 11; refine (ry _).mono ?_; rintro e v4 ⟨rfl, b4⟩)
      go_ret
      exact ⟨rfl, bthen hB b4⟩

end Go.Proofs.Ytniecidkkhneeaa
namespace Go.Proofs.Ytniecidkkhneeaa.ledbatStays
open Go.ChangeShapes Go.WideShapes Go.ChangeAt Go.RowKit
set_option linter.unusedVariables false

set_option maxRecDepth 100000 in
theorem lifted (os : Os) (started : os.Started) (H : Type) (enc : TypeId × Value → H) :
    ReturnsInHanded {} Try.checked os 4 .any (Rows.ledbatStaysSpec.pre6 enc Try.prog Try.f4 Rows.ledbatStaysRow.domain false) (Rows.ledbatStaysSpec.post enc Try.prog Try.f4 false true false false) := by
  refine returnsInHanded_of_change_sized (C := Try.checked) own started (by kernel_rfl) Try.func4
    (ChangeSpec.witness6 (enc := enc) (C := Try.checked) false ⟨#[], #[.int .i64 0, .slice none 0 0], []⟩ 8 (by kernel_rfl) (by kernel_rfl) (by kernel_rfl) (by kernel_rfl)) ?_
  intro W base args ds gs before hval0 hW _ hsz0 _
  have hsz : (DataW.weightsEach Try.prog (Try.f4.params.toList ++ Rows.ledbatStaysSpec.plain.varTypes Try.prog) (ds ++ gs)).all (· ≤ reachBytes) = true := hsz0
  have hval : ∀ (j : Nat) t v, Try.f4.params[j]? = some t → args[j]? = some v → Value.okWide Try.prog W .any base t v := hval0
  have hW' := hW
  obtain ⟨p, q, hA0, hV, rfl, hfz, hnd⟩ := hW
  have hA : DataW.TrodAll enc Try.prog W 0 (fun _ => true) true Try.f4.params.toList args.toList ds p := hA0
  rw [Try.params4] at hA hval hsz
  obtain ⟨v0, vs0, d0, ds0, p0, q0, hargs, rfl, rfl, h0, r0⟩ := trodAll_cons hA
  obtain ⟨v1, vs1, d1, ds1, p1, q1, rfl, rfl, rfl, h1, r1⟩ := trodAll_cons r0
  obtain ⟨rfl, rfl, rfl⟩ := trodAll_nil r1
  obtain rfl : args = #[v0, v1] := by cases args; simp_all
  obtain ⟨rfl, rfl⟩ := trodVars_none hV
  obtain ⟨a0, rfl, rfl, rfl, w0⟩ := open_int Try.underlying3 (hval 0 3 v0 rfl rfl) h0
  obtain ⟨a1, len1, cap1, rfl⟩ := okWide_slice Try.underlying30 (hval 1 30 v1 rfl rfl)
  have k1 := h1
  have lt1 : ∀ x ∈ p1, x.block < W.heap.size := by obtain ⟨m, hm⟩ := k1; exact DataW.trod_lt m _ _ _ hm
  obtain ⟨z1, rfl, w1⟩ := farIn h1 (fun elems spare e => by
    subst e
    have := sized_slice hsz (j := 1) (t := 30) (e := 3) rfl rfl Try.underlying30
    rw [Try.bytes3] at this
    exact this)
  clear hA0 hval0 hsz0 hsz
  refine (ledbatStays_walk a0 a1 cap1 z1 W (fits w0) w1).mono fun e W' ⟨he, bel⟩ => ?_
  subst he
  exact ⟨_, rfl, _, _, _, [], _, [], hW', trodAll_mk1 (shut_bool Try.underlying4 _), (trodAll_cons_mk (shut_int Try.underlying3 w0) (trodAll_cons_mk (Below.trod laidOut (by kernel_rfl) (of_decide_eq_true (by kernel_rfl)) k1 bel lt1) trodAll_mk0)), rfl, bel.frame _, fun h => by cases h⟩

theorem proved : Rows.LedbatStaysSaid :=
  OpenClaim.holds_of_wide 4 Try.f4 rfl rfl rfl rfl rfl rfl rfl ⟨rfl, rfl, rfl, rfl, rfl⟩ rfl rfl rfl rfl rfl (by kernel_rfl) Try.func4 (by kernel_rfl)
    (of_decide_eq_true (by kernel_rfl)) (by unfold Func.isWrapper; first | (rw [if_pos (by decide +kernel)]; kernel_rfl) | (rw [if_neg (by decide +kernel)]; exact ⟨rfl, rfl⟩))
    (fun os started H enc _ => lifted os started H enc)

end Go.Proofs.Ytniecidkkhneeaa.ledbatStays
namespace Go.Proofs.Ytniecidkkhneeaa
theorem ledbatStays_holds : Rows.LedbatStaysSaid := ledbatStays.proved
#print axioms ledbatStays_holds
end Go.Proofs.Ytniecidkkhneeaa
