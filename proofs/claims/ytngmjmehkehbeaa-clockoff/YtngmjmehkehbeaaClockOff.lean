/- PROVED: ClockOff: no matter how clocks stand, all wait the same, at every size. CONDITIONS: none. -/
import Derived.Test.YtngmjmehkehbeaaTold
import Derived.Test.YtngmjmehkehbeaaPacks
namespace Go.Proofs.Ytngmjmehkehbeaa
open Go.RowKit
set_option linter.unusedVariables false

theorem take_snoc (l : Rs) (k : Nat) (h : k < l.length) : l.take (k + 1) = l.take k ++ [l.getD k (0, 0)] := by
  rw [List.take_add_one, List.getD_eq_getElem?_getD, List.getElem?_eq_getElem h]; rfl

set_option maxHeartbeats 3200000 in
theorem off_any (x0 : Option Addr) (c0 n : Nat) (ps M : Rs) (u v s c : Int) (A : List Int) (r : Nat) (w : World) (r0 : PRow w x0 ps) (l0 : Hid (ps.length = n)) (hn : n ≤ 8796093021952) (hu : u ≤ 9223372036854775807) (hv : v ≤ 9223372036854775807)
    (hM : Hid (∀ k, k < n → M.getD k (0, 0) = ((ps.getD k (0, 0)).1 + s, (ps.getD k (0, 0)).2 + c))) (lM : Hid (M.length = n)) (hA : Hid (waits ps u v = A)) (lA : Hid (A.length = r)) (hr : r ≤ n) (hyes : Hid (cright ps → cright M → waits M u v = A)) :
    Calls Try.prog 4 #[.slice x0 n c0, .int .i64 u, .int .i64 v, .int .i64 s, .int .i64 c] w fun e w' => e = .returned (.bool true) ∧ Below w.heap.size w w' := by
  obtain ⟨i0, hi, hz0, hz1, hz2⟩ := info_parts Try.info31
  by_cases c1 : 1099511627776 < max s c
  · have d1 : decide (1099511627776 < max s c) = true := decide_eq_true c1
    clear r0 c1
    go_enter Try.func4, Try.ntmps4
    go_wp2_with (go_at_call 13; refine (alive_any _).mono ?_; rintro e v1 ⟨rfl, b1⟩)
    go_ret
    exact ⟨rfl, b1⟩
  · have d1 : decide (1099511627776 < max s c) = false := decide_eq_false c1
    by_cases c2 : min s c < -1099511627776
    · have d2 : decide (min s c < -1099511627776) = true := decide_eq_true c2
      clear r0 c1 c2
      go_enter Try.func4, Try.ntmps4
      go_wp2_with (go_at_call 13; refine (alive_any _).mono ?_; rintro e v1 ⟨rfl, b1⟩)
      go_ret
      exact ⟨rfl, b1⟩
    · have d2 : decide (min s c < -1099511627776) = false := decide_eq_false c2
      have hsc : (-1099511627776 ≤ s ∧ s ≤ 1099511627776) ∧ -1099511627776 ≤ c ∧ c ≤ 1099511627776 := by omega
      clear c1 c2
      by_cases j1 : cright ps
      · have J1 : Hid (decide (cright ps) = true) := decide_eq_true j1
        have hin : Hid (∀ k, k < n → (-1099511627776 ≤ (ps.getD k (0, 0)).1 ∧ (ps.getD k (0, 0)).1 ≤ 1099511627776) ∧ -1099511627776 ≤ (ps.getD k (0, 0)).2 ∧ (ps.getD k (0, 0)).2 ≤ 1099511627776) := fun k hk => j1 k (by rw [l0.out]; exact hk)
        replace hyes : Hid (cright M → waits M u v = A) := hyes.out j1
        clear j1
        go_enter Try.func4, Try.ntmps4
        go_wp2_with (first
          | (go_at_call 13; refine (alive_any _).mono ?_; rintro e v1 ⟨rfl, b1⟩; replace r0 := r0.kept b1)
          | (go_at_call 8; refine (right_n x0 _ n ps _ r0 l0.out (by omega) true J1.out).mono ?_; rintro e v2 ⟨rfl, b2⟩; replace r0 := r0.kept b2; replace b1 := bthen b1 b2; clear b2))
        have hst : PGath v2 (.slice none 0 0) v2 (M.take 0) := PGath.start v2
        go_loopw [11, 33] (fun t i wr => ∃ k : Nat, k ≤ n ∧ i = .int .i64 k ∧ PGath v2 t wr (M.take k)) (fun _ i _ => n - (intOf i).toNat)
        case atStart => exact ⟨0, Nat.zero_le _, rfl, hst⟩
        case round =>
          obtain ⟨k, hk, rfl, hG⟩ := hrel
          clear hst
          by_cases hlt : k < n
          · obtain ⟨g, o, rfl, k1⟩ := (r0.kept hG.below).at (by rw [l0.out]; omega)
            obtain ⟨cx, cy⟩ := k1 k (by rw [l0.out]; exact hlt)
            have hX := hin.out k hlt
            have hm := hM.out k hlt
            obtain ⟨⟨x, y⟩, hxy⟩ : ∃ p, ps.getD k (0, 0) = p := ⟨_, rfl⟩
            rw [hxy] at cx cy hX hm
            simp only at cx cy hX hm
            have htk : Hid (M.take (k + 1) = M.take k ++ [(x + s, y + c)]) := by rw [← hm]; exact take_snoc M k (by rw [lM.out]; exact hlt)
            have hltI : (k : Int) < n := by omega
            have hB1 : Below wr.heap.size wr (wr.alloc (.cells #[.int .i64 x, .int .i64 y] 31)) := balloc (Below.refl _ _) _
            have hsz := hG.below.size
            have ho1 := own_kept2 hG.own hB1
            have hRl : (M.take k).length = k := by rw [List.length_take, lM.out]; omega
            have hcn := cell_two_new (wr.alloc (.cells #[.int .i64 x, .int .i64 y] 31)) (x + s) (y + c)
            rw [show (wr.alloc (.cells #[.int .i64 x, .int .i64 y] 31)).heap.size = wr.heap.size + 1 by simp] at hcn
            replace hcn : Hid _ := hcn
            clear k1 hin hxy hm hM J1 hyes r0
            go_wp2_with (at_builtin; refine wpList_append_own _ rfl _ _ 22 rfl v2.heap.size 31 i0 (.agg #[.int .i64 0, .int .i64 0]) 2 16 Try.underlying22 hi hz0 hz1 hz2 rfl (by decide) _ _ _ rfl (ho1.alloc _) ⟨wr.heap.size + 1, 0, none⟩ 1 1 [.int .i64 (x + s), .int .i64 (y + c)] rfl rfl hcn.out (by simp [Value.oneCell']) (by unfold maxLen; omega) (by omega) (by simp; omega) ?_; intro t' w2 hown' hgrow _; have hS := hG.next hB1 hown' hgrow; rw [← htk.out] at hS; clear hown' hgrow ho1 hcn)
            go_roundw
            case rel => exact ⟨k + 1, by omega, by go_num, hS⟩
            case measure => simp [intOf]; omega
          · obtain rfl : n = k := by omega
            have hfull : M.take n = M := List.take_of_length_le (by rw [lM.out]; exact Nat.le_refl _)
            rw [hfull] at hG
            obtain ⟨am, cm, es, m⟩ := hG.done
            rw [lM.out] at es
            subst es
            replace r0 := r0.kept hG.below
            have B := bthen b1 hG.below
            clear hG hfull hin b1 hM hlt hk
            by_cases j2 : cright M
            · have J2 : Hid (decide (cright M) = true) := decide_eq_true j2
              have hC : Hid (waits M u v = A) := hyes.out j2
              clear j2 hyes
              have T1 := tok
              have T2 := tok
              have T3 := tok
              have T4 := tok
              go_wp2_with (first
                | (clear T1; go_at_call 8; refine (right_n am _ n M _ m lM.out (by omega) true J2.out).mono ?_; rintro e u1 ⟨rfl, b1⟩; replace B := bthen B b1; replace r0 := r0.kept b1; replace m := m.kept b1; clear b1)
                | (clear T2; go_at_call 11; refine (waits_n x0 _ n ps u v A r _ r0 l0.out (by omega) hu hv hA.out lA.out).mono ?_; rintro e u2 ⟨a2, d2, rfl, _, p, b2⟩; replace B := bthen B b2; replace m := m.kept b2; clear b2 r0)
                | (clear T3; go_at_call 11; refine (waits_n am _ n M u v A r _ m lM.out (by omega) hu hv hC.out lA.out).mono ?_; rintro e u3 ⟨a3, d3, rfl, _, q, b3⟩; replace B := bthen B b3; replace p := p.kept b3; clear b3 m)
                | (clear T4; go_at_call 9; refine (equal_n a2 a3 _ _ r r A A _ p q lA.out lA.out (by omega) (by omega) true (eqRow A)).mono ?_; rintro e u4 ⟨rfl, b4⟩; replace B := bthen B b4; clear b4 p q))
              go_ret
              exact ⟨rfl, B⟩
            · have J2 : Hid (decide (cright M) = false) := decide_eq_false j2
              clear j2 hyes
              go_wp2_with (go_at_call 8; refine (right_n am _ n M _ m lM.out (by omega) false J2.out).mono ?_; rintro e u1 ⟨rfl, b1⟩; replace B := bthen B b1; clear b1)
              go_ret
              exact ⟨rfl, B⟩
      · have J1 : Hid (decide (cright ps) = false) := decide_eq_false j1
        clear j1
        go_enter Try.func4, Try.ntmps4
        go_wp2_with (first
          | (go_at_call 13; refine (alive_any _).mono ?_; rintro e v1 ⟨rfl, b1⟩; replace r0 := r0.kept b1)
          | (go_at_call 8; refine (right_n x0 _ n ps _ r0 l0.out (by omega) false J1.out).mono ?_; rintro e v2 ⟨rfl, b2⟩; replace b1 := bthen b1 b2; clear b2))
        go_ret
        exact ⟨rfl, b1⟩

theorem clockOff_walk (a0 : Option Addr) (cap0 : Nat) (z0 : Rs) (a1 a2 a3 a4 : Int) (w : World) (h0 : FarP w a0 cap0 z0) (w1 : -9223372036854775808 ≤ a1 ∧ a1 ≤ 9223372036854775807) (w2 : -9223372036854775808 ≤ a2 ∧ a2 ≤ 9223372036854775807) (_ : -9223372036854775808 ≤ a3 ∧ a3 ≤ 9223372036854775807) (_ : -9223372036854775808 ≤ a4 ∧ a4 ≤ 9223372036854775807) :
    Calls Try.prog 4 #[.slice a0 z0.length cap0, .int .i64 a1, .int .i64 a2, .int .i64 a3, .int .i64 a4] w fun e w' => e = .returned (.bool true) ∧ Below w.heap.size w w' :=
  off_any a0 cap0 z0.length z0 (mvd z0 a3 a4) a1 a2 a3 a4 _ _ w h0.1 rfl h0.2.1 w1.2 w2.2 (fun k hk => mvd_getD z0 a3 a4 k hk) (mvd_len z0 a3 a4) rfl rfl (waits_le z0 a1 a2) (fun h h2 => waits_off h h2 a1 a2)

end Go.Proofs.Ytngmjmehkehbeaa
namespace Go.Proofs.Ytngmjmehkehbeaa.clockOff
open Go.ChangeShapes Go.WideShapes Go.ChangeAt Go.RowKit
set_option linter.unusedVariables false

set_option maxRecDepth 100000 in
theorem lifted (os : Os) (started : os.Started) (H : Type) (enc : TypeId × Value → H) :
    ReturnsInHanded {} Try.checked os 4 .any (Rows.clockOffSpec.pre6 enc Try.prog Try.f4 Rows.clockOffRow.domain false) (Rows.clockOffSpec.post enc Try.prog Try.f4 false true false false) := by
  refine returnsInHanded_of_change_sized (C := Try.checked) own started (by kernel_rfl) Try.func4
    (ChangeSpec.witness6 (enc := enc) (C := Try.checked) false ⟨#[], #[.slice none 0 0, .int .i64 0, .int .i64 0, .int .i64 0, .int .i64 0], []⟩ 8 (by kernel_rfl) (by kernel_rfl) (by kernel_rfl) (by kernel_rfl)) ?_
  intro W base args ds gs before hval0 hW _ hsz0 _
  have hsz : (DataW.weightsEach Try.prog (Try.f4.params.toList ++ Rows.clockOffSpec.plain.varTypes Try.prog) (ds ++ gs)).all (· ≤ reachBytes) = true := hsz0
  have hval : ∀ (j : Nat) t v, Try.f4.params[j]? = some t → args[j]? = some v → Value.okWide Try.prog W .any base t v := hval0
  have hW' := hW
  obtain ⟨p, q, hA0, hV, rfl, hfz, hnd⟩ := hW
  have hA : DataW.TrodAll enc Try.prog W 0 (fun _ => true) true Try.f4.params.toList args.toList ds p := hA0
  rw [Try.params4] at hA hval hsz
  obtain ⟨v0, vs0, d0, ds0, p0, q0, hargs, rfl, rfl, h0, r0⟩ := trodAll_cons hA
  obtain ⟨v1, vs1, d1, ds1, p1, q1, rfl, rfl, rfl, h1, r1⟩ := trodAll_cons r0
  obtain ⟨v2, vs2, d2, ds2, p2, q2, rfl, rfl, rfl, h2, r2⟩ := trodAll_cons r1
  obtain ⟨v3, vs3, d3, ds3, p3, q3, rfl, rfl, rfl, h3, r3⟩ := trodAll_cons r2
  obtain ⟨v4, vs4, d4, ds4, p4, q4, rfl, rfl, rfl, h4, r4⟩ := trodAll_cons r3
  obtain ⟨rfl, rfl, rfl⟩ := trodAll_nil r4
  obtain rfl : args = #[v0, v1, v2, v3, v4] := by cases args; simp_all
  obtain ⟨rfl, rfl⟩ := trodVars_none hV
  obtain ⟨a0, len0, cap0, rfl⟩ := okWide_slice Try.underlying22 (hval 0 22 v0 rfl rfl)
  have k0 := h0
  have lt0 : ∀ x ∈ p0, x.block < W.heap.size := by obtain ⟨m, hm⟩ := k0; exact DataW.trod_lt m _ _ _ hm
  obtain ⟨z0, rfl, w0⟩ := farP h0 (fun elems spare e => by
    subst e
    have := sized_slice hsz (j := 0) (t := 22) (e := 31) rfl rfl Try.underlying22
    rw [Try.bytes31] at this
    exact this)
  obtain ⟨a1, rfl, rfl, rfl, w1⟩ := open_int Try.underlying3 (hval 1 3 v1 rfl rfl) h1
  obtain ⟨a2, rfl, rfl, rfl, w2⟩ := open_int Try.underlying3 (hval 2 3 v2 rfl rfl) h2
  obtain ⟨a3, rfl, rfl, rfl, w3⟩ := open_int Try.underlying3 (hval 3 3 v3 rfl rfl) h3
  obtain ⟨a4, rfl, rfl, rfl, w4⟩ := open_int Try.underlying3 (hval 4 3 v4 rfl rfl) h4
  clear hA0 hval0 hsz0 hsz
  refine (clockOff_walk a0 cap0 z0 a1 a2 a3 a4 W w0 (fits w1) (fits w2) (fits w3) (fits w4)).mono fun e W' ⟨he, bel⟩ => ?_
  subst he
  exact ⟨_, rfl, _, _, _, [], _, [], hW', trodAll_mk1 (shut_bool Try.underlying4 _), (trodAll_cons_mk (Below.trod laidOut (by kernel_rfl) (of_decide_eq_true (by kernel_rfl)) k0 bel lt0) (trodAll_cons_mk (shut_int Try.underlying3 w1) (trodAll_cons_mk (shut_int Try.underlying3 w2) (trodAll_cons_mk (shut_int Try.underlying3 w3) (trodAll_cons_mk (shut_int Try.underlying3 w4) trodAll_mk0))))), rfl, bel.frame _, fun h => by cases h⟩

theorem proved : Rows.ClockOffSaid :=
  OpenClaim.holds_of_wide 4 Try.f4 rfl rfl rfl rfl rfl rfl rfl ⟨rfl, rfl, rfl, rfl, rfl⟩ rfl rfl rfl rfl rfl (by kernel_rfl) Try.func4 (by kernel_rfl)
    (of_decide_eq_true (by kernel_rfl)) (by unfold Func.isWrapper; first | (rw [if_pos (by decide +kernel)]; kernel_rfl) | (rw [if_neg (by decide +kernel)]; exact ⟨rfl, rfl⟩))
    (fun os started H enc _ => lifted os started H enc)

end Go.Proofs.Ytngmjmehkehbeaa.clockOff
namespace Go.Proofs.Ytngmjmehkehbeaa
theorem clockOff_holds : Rows.ClockOffSaid := clockOff.proved
#print axioms clockOff_holds
end Go.Proofs.Ytngmjmehkehbeaa
