/- PROVED: JitterOrder: nobody overtakes, and nobody is early, at every size. CONDITIONS: none. -/
import Derived.Test.YtolijbhokaieeaaAlive
namespace Go.Proofs.Ytolijbhokaieeaa
open Go.RowKit
set_option linter.unusedVariables false

set_option maxHeartbeats 1600000 in
theorem order_no (x0 x1 : Option Addr) (c0 c1 n0 n1 : Nat) (t l : List Int) (w : World) (r0 : Row w x0 t) (r1 : Row w x1 l) (l0 : Hid (t.length = n0)) (l1 : Hid (l.length = n1)) (hn : n0 ≤ 17592186044414) (hm : n1 ≤ 17592186044414)
    (hj : Hid (decide (jright t l) = false)) (hP : Hid (pass t l = [])) :
    Calls Try.prog 4 #[.slice x0 n0 c0, .slice x1 n1 c1] w fun e w' => e = .returned (.bool true) ∧ Below w.heap.size w w' := by
  have B : Below w.heap.size w w := Below.refl _ _
  have T1 := tok
  have T2 := tok
  have T3 := tok
  go_enter Try.func4, Try.ntmps4
  go_wp2_with (first
    | (clear T1; go_at_call 13; refine (alive_any _).mono ?_; rintro e v1 ⟨rfl, b1⟩; replace B := bthen B b1; replace r0 := r0.kept b1; replace r1 := r1.kept b1; clear b1)
    | (clear T2; go_at_call 10; refine (pass_n x0 x1 _ _ n0 n1 t l _ 0 _ r0 r1 l0.out l1.out (by omega) (by omega) hP.out rfl).mono ?_; rintro e v2 ⟨a2, c2, rfl, _, p, b2⟩; replace B := bthen B b2; replace r0 := r0.kept b2; replace r1 := r1.kept b2; clear b2)
    | (clear T3; go_at_call 7; refine (right_n x0 x1 _ _ n0 n1 t l _ r0 r1 l0.out l1.out (by omega) (by omega) false hj.out).mono ?_; rintro e v3 ⟨rfl, b3⟩; replace B := bthen B b3; clear b3))
  go_ret
  exact ⟨rfl, B⟩

set_option maxHeartbeats 1600000 in
theorem order_go (x0 x1 : Option Addr) (c0 c1 n : Nat) (t l P D : List Int) (M : Int) (w : World) (r0 : Row w x0 t) (r1 : Row w x1 l) (l0 : Hid (t.length = n)) (l1 : Hid (l.length = n)) (hn : n ≤ 17592186044414)
    (hj : Hid (decide (jright t l) = true)) (hP : Hid (pass t l = P)) (lP : Hid (P.length = n)) (uP : Hid (decide (up P) = true)) (hD : Hid (dl t P = D)) (lD : Hid (D.length = n)) (hM : Hid (Lib.maxOf (l.take l.length) = M))
    (hlo : Hid (∀ k, k < n → l.getD k 0 ≤ D.getD k 0)) (hhi : Hid (∀ k, k < n → D.getD k 0 ≤ M)) :
    Calls Try.prog 4 #[.slice x0 n c0, .slice x1 n c1] w fun e w' => e = .returned (.bool true) ∧ Below w.heap.size w w' := by
  have B : Below w.heap.size w w := Below.refl _ _
  have T1 := tok
  have T2 := tok
  have T3 := tok
  have T4 := tok
  have T5 := tok
  go_enter Try.func4, Try.ntmps4
  go_wp2_with (first
    | (clear T1; go_at_call 13; refine (alive_any _).mono ?_; rintro e v1 ⟨rfl, b1⟩; replace B := bthen B b1; replace r0 := r0.kept b1; replace r1 := r1.kept b1; clear b1)
    | (clear T2; go_at_call 10; refine (pass_n x0 x1 _ _ n n t l _ n _ r0 r1 l0.out l1.out (by omega) (by omega) hP.out lP.out).mono ?_; rintro e v2 ⟨a2, c2, rfl, _, p, b2⟩; replace B := bthen B b2; replace r0 := r0.kept b2; replace r1 := r1.kept b2; clear b2)
    | (clear T3; go_at_call 7; refine (right_n x0 x1 _ _ n n t l _ r0 r1 l0.out l1.out (by omega) (by omega) true hj.out).mono ?_; rintro e v3 ⟨rfl, b3⟩; replace B := bthen B b3; replace r0 := r0.kept b3; replace r1 := r1.kept b3; replace p := p.kept b3; clear b3)
    | (clear T4; go_at_call 14; refine (sorted_n a2 _ n P _ p lP.out (by omega) true uP.out).mono ?_; rintro e v4 ⟨rfl, b4⟩; replace B := bthen B b4; replace r0 := r0.kept b4; replace r1 := r1.kept b4; replace p := p.kept b4; clear b4)
    | (clear T5; go_at_call 12; refine (delays_n x0 a2 _ _ n n t P _ n _ r0 p l0.out lP.out (by omega) (by omega) hD.out lD.out).mono ?_; rintro e v5 ⟨a5, c5, rfl, _, d, b5⟩; replace B := bthen B b5; replace r1 := r1.kept b5; clear b5 p r0))
  go_loopw [34] (fun i wr => ∃ k : Nat, k ≤ n ∧ i = .int .i64 k ∧ v5 = wr) (fun i _ => n - (intOf i).toNat)
  case atStart => exact ⟨0, Nat.zero_le _, rfl, rfl⟩
  case round =>
    obtain ⟨k, hk, rfl, rfl⟩ := hrel
    by_cases hlt : k < n
    · have hmx := max_n x1 c1 n l v5 r1 l1.out (by omega) (by omega) M hM.out
      have q1 := lD.out
      have q2 := l1.out
      obtain ⟨g1, o1, rfl, k1⟩ := d.at (by omega)
      obtain ⟨g2, o2, rfl, k2⟩ := r1.at (by omega)
      have cx := k1 k (by omega)
      have cy := k2 k (by omega)
      have hA := hlo.out k hlt
      have hB := hhi.out k hlt
      generalize D.getD k 0 = x at cx hA hB
      generalize l.getD k 0 = y at cy hA
      have hltI : (k : Int) < n := by omega
      clear k1 k2 q1 q2 hlo hhi r1 d
      go_wp2_with (go_at_call 15; refine hmx.mono ?_; rintro e w'' ⟨rfl, hw⟩; obtain rfl : v5 = w'' := hw.symm; clear hmx hw)
      go_roundw
      case rel => exact ⟨k + 1, by omega, by go_num, by first | rfl | trivial⟩
      case measure => simp [intOf]; omega
    · obtain e : k = n := by omega
      subst e
      go_wp2
      go_ret
      exact ⟨rfl, B⟩

theorem jitterOrder_walk (a0 : Option Addr) (cap0 : Nat) (z0 : List Int) (a1 : Option Addr) (cap1 : Nat) (z1 : List Int) (w : World) (h0 : FarIn w a0 cap0 z0) (h1 : FarIn w a1 cap1 z1) :
    Calls Try.prog 4 #[.slice a0 z0.length cap0, .slice a1 z1.length cap1] w fun e w' => e = .returned (.bool true) ∧ Below w.heap.size w w' := by
  have q0 := h0.2.1
  have q1 := h1.2.1
  by_cases h : jright z0 z1
  · have e1 := h.1
    have hM : ∀ j, j < z1.length → z1.getD j 0 ≤ Lib.maxOf (z1.take z1.length) := fun j hj => (maxOf_is z1 z1.length (by omega) (Nat.le_refl _)).1 j hj
    rw [← e1]
    exact order_go a0 a1 cap0 cap1 z0.length z0 z1 _ _ _ w h0.1 h1.1 rfl e1.symm (by omega) (decide_eq_true h) rfl (pass_len h) (decide_eq_true (pass_up h)) rfl (show (dl z0 (pass z0 z1)).length = z0.length by rw [dl_len, pass_len h, Nat.min_self]) rfl
      (fun k hk => by rw [dl_pass h k hk]; exact (late_in h hM k hk).1) (fun k hk => by rw [dl_pass h k hk]; exact (late_in h hM k hk).2)
  · exact order_no a0 a1 cap0 cap1 z0.length z1.length z0 z1 w h0.1 h1.1 rfl rfl (by omega) (by omega) (decide_eq_false h) (pass_no h)

end Go.Proofs.Ytolijbhokaieeaa
namespace Go.Proofs.Ytolijbhokaieeaa.jitterOrder
open Go.ChangeShapes Go.WideShapes Go.ChangeAt Go.RowKit
set_option linter.unusedVariables false

set_option maxRecDepth 100000 in
theorem lifted (os : Os) (started : os.Started) (H : Type) (enc : TypeId × Value → H) :
    ReturnsInHanded {} Try.checked os 4 .any (Rows.jitterOrderSpec.pre6 enc Try.prog Try.f4 Rows.jitterOrderRow.domain false) (Rows.jitterOrderSpec.post enc Try.prog Try.f4 false true false false) := by
  refine returnsInHanded_of_change_sized (C := Try.checked) own started (by kernel_rfl) Try.func4
    (ChangeSpec.witness6 (enc := enc) (C := Try.checked) false ⟨#[], #[.slice none 0 0, .slice none 0 0], []⟩ 8 (by kernel_rfl) (by kernel_rfl) (by kernel_rfl) (by kernel_rfl)) ?_
  intro W base args ds gs before hval0 hW _ hsz0 _
  have hsz : (DataW.weightsEach Try.prog (Try.f4.params.toList ++ Rows.jitterOrderSpec.plain.varTypes Try.prog) (ds ++ gs)).all (· ≤ reachBytes) = true := hsz0
  have hval : ∀ (j : Nat) t v, Try.f4.params[j]? = some t → args[j]? = some v → Value.okWide Try.prog W .any base t v := hval0
  have hW' := hW
  obtain ⟨p, q, hA0, hV, rfl, hfz, hnd⟩ := hW
  have hA : DataW.TrodAll enc Try.prog W 0 (fun _ => true) true Try.f4.params.toList args.toList ds p := hA0
  rw [Try.params4] at hA hval hsz
  obtain ⟨v0, vs0, d0, ds0, p0, q0, hargs, rfl, rfl, h0, r0⟩ := trodAll_cons hA
  obtain ⟨v1, vs1, d1, ds1, p1, q1, rfl, rfl, rfl, h1, r1⟩ := trodAll_cons r0
  obtain ⟨rfl, rfl, rfl⟩ := trodAll_nil r1
  obtain rfl : args = #[v0, v1] := by cases args; simp_all
  obtain ⟨rfl, rfl⟩ := trodVars_none hV
  obtain ⟨a0, len0, cap0, rfl⟩ := okWide_slice Try.underlying22 (hval 0 22 v0 rfl rfl)
  have k0 := h0
  have lt0 : ∀ x ∈ p0, x.block < W.heap.size := by obtain ⟨m, hm⟩ := k0; exact DataW.trod_lt m _ _ _ hm
  obtain ⟨z0, rfl, w0⟩ := farIn h0 (fun elems spare e => by
    subst e
    have := sized_slice hsz (j := 0) (t := 22) (e := 3) rfl rfl Try.underlying22
    rw [Try.bytes3] at this
    exact this)
  obtain ⟨a1, len1, cap1, rfl⟩ := okWide_slice Try.underlying22 (hval 1 22 v1 rfl rfl)
  have k1 := h1
  have lt1 : ∀ x ∈ p1, x.block < W.heap.size := by obtain ⟨m, hm⟩ := k1; exact DataW.trod_lt m _ _ _ hm
  obtain ⟨z1, rfl, w1⟩ := farIn h1 (fun elems spare e => by
    subst e
    have := sized_slice hsz (j := 1) (t := 22) (e := 3) rfl rfl Try.underlying22
    rw [Try.bytes3] at this
    exact this)
  clear hA0 hval0 hsz0 hsz
  refine (jitterOrder_walk a0 cap0 z0 a1 cap1 z1 W w0 w1).mono fun e W' ⟨he, bel⟩ => ?_
  subst he
  exact ⟨_, rfl, _, _, _, [], _, [], hW', trodAll_mk1 (shut_bool Try.underlying4 _), (trodAll_cons_mk (Below.trod laidOut (by kernel_rfl) (of_decide_eq_true (by kernel_rfl)) k0 bel lt0) (trodAll_cons_mk (Below.trod laidOut (by kernel_rfl) (of_decide_eq_true (by kernel_rfl)) k1 bel lt1) trodAll_mk0)), rfl, bel.frame _, fun h => by cases h⟩

theorem proved : Rows.JitterOrderSaid :=
  OpenClaim.holds_of_wide 4 Try.f4 rfl rfl rfl rfl rfl rfl rfl ⟨rfl, rfl, rfl, rfl, rfl⟩ rfl rfl rfl rfl rfl (by kernel_rfl) Try.func4 (by kernel_rfl)
    (of_decide_eq_true (by kernel_rfl)) (by unfold Func.isWrapper; first | (rw [if_pos (by decide +kernel)]; kernel_rfl) | (rw [if_neg (by decide +kernel)]; exact ⟨rfl, rfl⟩))
    (fun os started H enc _ => lifted os started H enc)

end Go.Proofs.Ytolijbhokaieeaa.jitterOrder
namespace Go.Proofs.Ytolijbhokaieeaa
theorem jitterOrder_holds : Rows.JitterOrderSaid := jitterOrder.proved
#print axioms jitterOrder_holds
end Go.Proofs.Ytolijbhokaieeaa
