/- PROVED: JitterLater: who is sent later comes later, all by so much, at every size. CONDITIONS: none. -/
import Derived.Test.YtolijbhokaieeaaAlive
namespace Go.Proofs.Ytolijbhokaieeaa
open Go.RowKit
set_option linter.unusedVariables false

set_option maxHeartbeats 3200000 in
theorem later_any (x0 x1 : Option Addr) (c0 c1 n0 n1 : Nat) (t l M A C : List Int) (F : Nat → Int) (d : Int) (w : World) (r0 : Row w x0 t) (r1 : Row w x1 l) (l0 : Hid (t.length = n0)) (l1 : Hid (l.length = n1)) (hn : n0 ≤ 17592186044414) (hm : n1 ≤ 17592186044414)
    (hF : Hid (∀ k, wrap64 (t.getD k 0 + d) = F k)) (hM : Hid (outs F n0 = M)) (lM : Hid (M.length = n0)) (hA : Hid (pass t l = A)) (hC : Hid (pass M l = C))
    (hyes : Hid (0 ≤ d → d ≤ 549755813888 → jright t l → jright M l → n1 = n0 ∧ A.length = n0 ∧ C.length = n0 ∧ ∀ k, k < n0 → C.getD k 0 = A.getD k 0 + d ∧ 0 ≤ A.getD k 0 ∧ A.getD k 0 ≤ 2199023255552)) :
    Calls Try.prog 6 #[.slice x0 n0 c0, .slice x1 n1 c1, .int .i64 d] w fun e w' => e = .returned (.bool true) ∧ Below w.heap.size w w' := by
  obtain ⟨i0, hi, hz0, hz1, hz2⟩ := info_parts Try.info3
  go_enter Try.func6, Try.ntmps6
  go_wp2_with (go_at_call 13; refine (alive_any _).mono ?_; rintro e v1 ⟨rfl, b1⟩; have s0 := r0.kept b1; have s1 := r1.kept b1; clear r0 r1)
  have hst : Gath v1 (.slice none 0 0) v1 (outs F 0) := Gath.start v1
  go_loopw [7, 17] (fun s i wr => ∃ k : Nat, k ≤ n0 ∧ i = .int .i64 k ∧ Gath v1 s wr (outs F k)) (fun _ i _ => n0 - (intOf i).toNat)
  case atStart => exact ⟨0, Nat.zero_le _, rfl, hst⟩
  case round =>
    obtain ⟨k, hk, rfl, hG⟩ := hrel
    clear hst
    by_cases hlt : k < n0
    · have q0 := l0.out
      obtain ⟨g, off, rfl, hcz⟩ := s0.at (by omega)
      have hx := (hG.below.cell (p := ⟨g, off + k, none⟩) (block_lt (hcz k (by omega)))).trans (hcz k (by omega))
      have ho1 := hG.own
      have hRl := outs_len F k
      have hv : Hid (wrap64 (t.getD k 0 + d) = F k) := hF.out k
      generalize t.getD k 0 = x at hx hv
      have hltI : (k : Int) < n0 := by omega
      have hsz := hG.below.size
      clear hcz q0
      go_wp2_with (at_builtin; refine wpList_append_own _ rfl _ _ 22 rfl v1.heap.size 3 i0 (.int .i64 0) 1 8 Try.underlying22 hi hz0 hz1 hz2 rfl (by decide) _ _ _ rfl (ho1.alloc _) ⟨wr.heap.size, 0, none⟩ 1 1 [.int .i64 (wrap64 (x + d))] rfl rfl (cell_one_new _ _ _) (by simp [Value.oneCell']) (by unfold maxLen; omega) (by omega) (by simp; omega) ?_; intro t' w2 hown' hgrow _; have hS := hG.next (Below.refl _ _) hv.out hown' hgrow; clear hown' hgrow ho1)
      go_roundw
      case rel => exact ⟨k + 1, by omega, by go_num, hS⟩
      case measure => simp [intOf]; omega
    · obtain rfl : n0 = k := by omega
      obtain ⟨am, cm, es, _, m, bm⟩ := hG.done.told (outs_len F n0) hM.out
      injection es with es
      subst es
      have B := bthen b1 bm
      replace s0 := s0.kept bm
      replace s1 := s1.kept bm
      clear hG bm b1 hlt hk hF hM
      by_cases d1 : d < 0
      · have e1 : decide (d < 0) = true := decide_eq_true d1
        clear d1
        go_wp2
        go_ret
        exact ⟨rfl, B⟩
      · have e1 : decide (d < 0) = false := decide_eq_false d1
        by_cases d2 : 549755813888 < d
        · have e2 : decide (549755813888 < d) = true := decide_eq_true d2
          go_wp2
          go_ret
          exact ⟨rfl, B⟩
        · have e2 : decide (549755813888 < d) = false := decide_eq_false d2
          by_cases j1 : jright t l
          · by_cases j2 : jright M l
            · obtain ⟨en, lA, lC, hq⟩ := hyes.out (by omega) (by omega) j1 j2
              subst en
              have J1 : Hid (decide (jright t l) = true) := decide_eq_true j1
              have J2 : Hid (decide (jright M l) = true) := decide_eq_true j2
              replace lA : Hid (A.length = n1) := lA
              replace lC : Hid (C.length = n1) := lC
              replace hq : Hid _ := hq
              clear j1 j2 hyes
              have T1 := tok
              have T2 := tok
              have T3 := tok
              have T4 := tok
              go_wp2_with (first
                | (clear T1; go_at_call 7; refine (right_n x0 x1 _ _ n1 n1 t l _ s0 s1 l0.out l1.out (by omega) (by omega) true J1.out).mono ?_; rintro e u1 ⟨rfl, b1⟩; replace B := bthen B b1; replace s0 := s0.kept b1; replace s1 := s1.kept b1; replace m := m.kept b1; clear b1)
                | (clear T2; go_at_call 7; refine (right_n am x1 _ _ n1 n1 M l _ m s1 lM.out l1.out (by omega) (by omega) true J2.out).mono ?_; rintro e u2 ⟨rfl, b2⟩; replace B := bthen B b2; replace s0 := s0.kept b2; replace s1 := s1.kept b2; replace m := m.kept b2; clear b2)
                | (clear T3; go_at_call 10; refine (pass_n x0 x1 _ _ n1 n1 t l A n1 _ s0 s1 l0.out l1.out (by omega) (by omega) hA.out lA.out).mono ?_; rintro e u3 ⟨a3, d3, rfl, _, p, b3⟩; replace B := bthen B b3; replace s1 := s1.kept b3; replace m := m.kept b3; clear b3 s0)
                | (clear T4; go_at_call 10; refine (pass_n am x1 _ _ n1 n1 M l C n1 _ m s1 lM.out l1.out (by omega) (by omega) hC.out lC.out).mono ?_; rintro e u4 ⟨a4, d4, rfl, _, c, b4⟩; replace B := bthen B b4; replace p := p.kept b4; clear b4 m s1))
              go_loopw [54] (fun i wr => ∃ k q : Nat, k ≤ n1 ∧ i = .int .i64 k ∧ wr = u4.drewN q) (fun i _ => n1 - (intOf i).toNat)
              case atStart => exact ⟨0, 0, Nat.zero_le _, rfl, rfl⟩
              case round =>
                obtain ⟨k, q, hkn, rfl, rfl⟩ := hrel
                by_cases hlt : k < n1
                · have q1 := lA.out
                  have q2 := lC.out
                  obtain ⟨g0, o0, rfl, k0⟩ := p.at (by omega)
                  obtain ⟨g1, o1, rfl, k1⟩ := c.at (by omega)
                  have cx := k0 k (by omega)
                  have cy := k1 k (by omega)
                  obtain ⟨hv, hv0, hv1⟩ := hq.out k hlt
                  rw [hv] at cy
                  generalize A.getD k 0 = x at cx cy hv0 hv1
                  have hltI : (k : Int) < n1 := by omega
                  clear k0 k1 q1 q2 hq p c hv
                  go_wp2
                  go_quiet (fail)
                  go_wp2
                  go_roundw
                  case rel => exact ⟨k + 1, q + nq, by omega, by go_num, rfl⟩
                  case measure => simp [intOf]; omega
                · obtain rfl : n1 = k := by omega
                  go_wp2
                  go_ret
                  exact ⟨rfl, below_drewN B q⟩
            · have J1 : Hid (decide (jright t l) = true) := decide_eq_true j1
              have J2 : Hid (decide (jright M l) = false) := decide_eq_false j2
              clear j1 j2 hyes
              have T1 := tok
              have T2 := tok
              go_wp2_with (first
                | (clear T1; go_at_call 7; refine (right_n x0 x1 _ _ n0 n1 t l _ s0 s1 l0.out l1.out (by omega) (by omega) true J1.out).mono ?_; rintro e u1 ⟨rfl, b1⟩; replace B := bthen B b1; replace s0 := s0.kept b1; replace s1 := s1.kept b1; replace m := m.kept b1; clear b1)
                | (clear T2; go_at_call 7; refine (right_n am x1 _ _ n0 n1 M l _ m s1 lM.out l1.out (by omega) (by omega) false J2.out).mono ?_; rintro e u2 ⟨rfl, b2⟩; replace B := bthen B b2; clear b2))
              go_ret
              exact ⟨rfl, B⟩
          · have J1 : Hid (decide (jright t l) = false) := decide_eq_false j1
            clear j1 hyes
            go_wp2_with (go_at_call 7; refine (right_n x0 x1 _ _ n0 n1 t l _ s0 s1 l0.out l1.out (by omega) (by omega) false J1.out).mono ?_; rintro e u1 ⟨rfl, b1⟩; replace B := bthen B b1; clear b1)
            go_ret
            exact ⟨rfl, B⟩

theorem jitterLater_walk (a0 : Option Addr) (cap0 : Nat) (z0 : List Int) (a1 : Option Addr) (cap1 : Nat) (z1 : List Int) (a2 : Int) (w : World) (h0 : FarIn w a0 cap0 z0) (h1 : FarIn w a1 cap1 z1) (h2 : -9223372036854775808 ≤ a2 ∧ a2 ≤ 9223372036854775807) :
    Calls Try.prog 6 #[.slice a0 z0.length cap0, .slice a1 z1.length cap1, .int .i64 a2] w fun e w' => e = .returned (.bool true) ∧ Below w.heap.size w w' := by
  have q0 := h0.2.1
  have q1 := h1.2.1
  refine later_any a0 a1 cap0 cap1 z0.length z1.length z0 z1 (moved z0 a2) _ _ (fun k => wrap64 (z0.getD k 0 + a2)) a2 w h0.1 h1.1 rfl rfl (by omega) (by omega) (fun k => rfl) rfl (moved_len _ _) rfl rfl fun d0 d1 j1 j2 => ⟨j1.1.symm, pass_len j1, (pass_len j2).trans (moved_len _ _), fun k hk => ?_⟩
  rw [pass_at j1 k hk, pass_at j2 k (by rw [moved_len]; exact hk)]
  exact ⟨passed_later j1 d0 d1 k hk, passed_in j1 k hk⟩

end Go.Proofs.Ytolijbhokaieeaa
namespace Go.Proofs.Ytolijbhokaieeaa.jitterLater
open Go.ChangeShapes Go.WideShapes Go.ChangeAt Go.RowKit
set_option linter.unusedVariables false

set_option maxRecDepth 100000 in
theorem lifted (os : Os) (started : os.Started) (H : Type) (enc : TypeId × Value → H) :
    ReturnsInHanded {} Try.checked os 6 .any (Rows.jitterLaterSpec.pre6 enc Try.prog Try.f6 Rows.jitterLaterRow.domain false) (Rows.jitterLaterSpec.post enc Try.prog Try.f6 false true false false) := by
  refine returnsInHanded_of_change_sized (C := Try.checked) own started (by kernel_rfl) Try.func6
    (ChangeSpec.witness6 (enc := enc) (C := Try.checked) false ⟨#[], #[.slice none 0 0, .slice none 0 0, .int .i64 0], []⟩ 8 (by kernel_rfl) (by kernel_rfl) (by kernel_rfl) (by kernel_rfl)) ?_
  intro W base args ds gs before hval0 hW _ hsz0 _
  have hsz : (DataW.weightsEach Try.prog (Try.f6.params.toList ++ Rows.jitterLaterSpec.plain.varTypes Try.prog) (ds ++ gs)).all (· ≤ reachBytes) = true := hsz0
  have hval : ∀ (j : Nat) t v, Try.f6.params[j]? = some t → args[j]? = some v → Value.okWide Try.prog W .any base t v := hval0
  have hW' := hW
  obtain ⟨p, q, hA0, hV, rfl, hfz, hnd⟩ := hW
  have hA : DataW.TrodAll enc Try.prog W 0 (fun _ => true) true Try.f6.params.toList args.toList ds p := hA0
  rw [Try.params6] at hA hval hsz
  obtain ⟨v0, vs0, d0, ds0, p0, q0, hargs, rfl, rfl, h0, r0⟩ := trodAll_cons hA
  obtain ⟨v1, vs1, d1, ds1, p1, q1, rfl, rfl, rfl, h1, r1⟩ := trodAll_cons r0
  obtain ⟨v2, vs2, d2, ds2, p2, q2, rfl, rfl, rfl, h2, r2⟩ := trodAll_cons r1
  obtain ⟨rfl, rfl, rfl⟩ := trodAll_nil r2
  obtain rfl : args = #[v0, v1, v2] := by cases args; simp_all
  obtain ⟨rfl, rfl⟩ := trodVars_none hV
  obtain ⟨a0, len0, cap0, rfl⟩ := okWide_slice Try.underlying22 (hval 0 22 v0 rfl rfl)
  have k0 := h0
  have lt0 : ∀ x ∈ p0, x.block < W.heap.size := by obtain ⟨m, hm⟩ := k0; exact DataW.trod_lt m _ _ _ hm
  obtain ⟨z0, rfl, w0⟩ := farIn h0 (fun elems spare e => by
    subst e
    have := sized_slice hsz (j := 0) (t := 22) (e := 3) rfl rfl Try.underlying22
    rw [Try.bytes3] at this
    exact this)
  obtain ⟨a1, len1, cap1, rfl⟩ := okWide_slice Try.underlying22 (hval 1 22 v1 rfl rfl)
  have k1 := h1
  have lt1 : ∀ x ∈ p1, x.block < W.heap.size := by obtain ⟨m, hm⟩ := k1; exact DataW.trod_lt m _ _ _ hm
  obtain ⟨z1, rfl, w1⟩ := farIn h1 (fun elems spare e => by
    subst e
    have := sized_slice hsz (j := 1) (t := 22) (e := 3) rfl rfl Try.underlying22
    rw [Try.bytes3] at this
    exact this)
  obtain ⟨a2, rfl, rfl, rfl, w2⟩ := open_int Try.underlying3 (hval 2 3 v2 rfl rfl) h2
  clear hA0 hval0 hsz0 hsz
  refine (jitterLater_walk a0 cap0 z0 a1 cap1 z1 a2 W w0 w1 (fits w2)).mono fun e W' ⟨he, bel⟩ => ?_
  subst he
  exact ⟨_, rfl, _, _, _, [], _, [], hW', trodAll_mk1 (shut_bool Try.underlying4 _), (trodAll_cons_mk (Below.trod laidOut (by kernel_rfl) (of_decide_eq_true (by kernel_rfl)) k0 bel lt0) (trodAll_cons_mk (Below.trod laidOut (by kernel_rfl) (of_decide_eq_true (by kernel_rfl)) k1 bel lt1) (trodAll_cons_mk (shut_int Try.underlying3 w2) trodAll_mk0))), rfl, bel.frame _, fun h => by cases h⟩

theorem proved : Rows.JitterLaterSaid :=
  OpenClaim.holds_of_wide 6 Try.f6 rfl rfl rfl rfl rfl rfl rfl ⟨rfl, rfl, rfl, rfl, rfl⟩ rfl rfl rfl rfl rfl (by kernel_rfl) Try.func6 (by kernel_rfl)
    (of_decide_eq_true (by kernel_rfl)) (by unfold Func.isWrapper; first | (rw [if_pos (by decide +kernel)]; kernel_rfl) | (rw [if_neg (by decide +kernel)]; exact ⟨rfl, rfl⟩))
    (fun os started H enc _ => lifted os started H enc)

end Go.Proofs.Ytolijbhokaieeaa.jitterLater
namespace Go.Proofs.Ytolijbhokaieeaa
theorem jitterLater_holds : Rows.JitterLaterSaid := jitterLater.proved
#print axioms jitterLater_holds
end Go.Proofs.Ytolijbhokaieeaa
