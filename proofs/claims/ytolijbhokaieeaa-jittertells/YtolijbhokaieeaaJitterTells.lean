/- PROVED: JitterTells: jitter answers what the document says, at every argument, at every size. CONDITIONS: none. -/
import Derived.Test.YtolijbhokaieeaaRefTold
import Derived.Test.YtolijbhokaieeaaDrawn
namespace Go.Proofs.Ytolijbhokaieeaa
open Go.RowKit
set_option linter.unusedVariables false

attribute [local go_sem ↓] appe_whole
set_option maxHeartbeats 3200000 in
theorem tells_any (x0 x1 : Option Addr) (c0 c1 n0 n1 m r : Nat) (t l P D : List Int) (F : Nat → Int) (b : Bool) (w : World) (r0 : Row w x0 t) (r1 : Row w x1 l) (l0 : Hid (t.length = n0)) (l1 : Hid (l.length = n1)) (hn : n0 ≤ 17592186044414) (hm : n1 ≤ 17592186044414)
    (hmi : min (n0 : Int) (n1 : Int) = (m : Int)) (hm0 : m ≤ n0) (hm1 : m ≤ n1) (hF : Hid (∀ k, wrap64 (l.getD k 0 - t.getD k 0) = F k)) (hD : Hid (outs F m = D)) (lD : Hid (D.length = m)) (hd : Hid (dl t l = D)) (hP : Hid (pass t l = P)) (lP : Hid (P.length = r)) (hr : r ≤ 17592186044414) (hj : Hid (decide (jright t l) = b)) :
    Calls Try.prog 3 #[.slice x0 n0 c0, .slice x1 n1 c1] w fun e w' => e = .returned (.bool true) ∧ Below w.heap.size w w' := by
  go_enter Try.func3, Try.ntmps3
  go_wp2
  go_loopw [5, 12] (fun s i wr => ∃ k : Nat, k ≤ m ∧ i = .int .i64 k ∧ Gath w s wr (outs F k)) (fun _ i _ => m - (intOf i).toNat)
  case atStart => exact ⟨0, Nat.zero_le _, rfl, Gath.start w⟩
  case round =>
    obtain ⟨k, hk, rfl, hG⟩ := hrel
    by_cases hlt : k < m
    · have q0 := l0.out
      have q1 := l1.out
      obtain ⟨g0, o0, rfl, k0⟩ := (r0.kept hG.below).at (by omega)
      obtain ⟨g1, o1, rfl, k1⟩ := (r1.kept hG.below).at (by omega)
      have cx := k0 k (by omega)
      have cy := k1 k (by omega)
      obtain ⟨gg, cc, w2, hrun, hS⟩ := hG.drawn (by omega) (hF.out k)
      generalize t.getD k 0 = x at cx hrun
      generalize l.getD k 0 = y at cy hrun
      replace hS : Hid _ := hS
      have hI : (k : Int) < m := by omega
      have hI0 : (k : Int) < n0 := by omega
      have hI1 : (k : Int) < n1 := by omega
      clear k0 k1 q0 q1 hG r0 r1
      go_wp2
      go_region
      all_goals
        go_wp2
        go_roundw
        case rel => exact ⟨k + 1, by omega, by go_num, hS.out⟩
        case measure => simp [intOf]; omega
    · obtain rfl : m = k := by omega
      obtain ⟨am, cm, es, _, dr, B⟩ := hG.done.told (outs_len F m) hD.out
      injection es with es
      subst es
      replace r0 := r0.kept B
      replace r1 := r1.kept B
      have hbb : (b == b) = true := by simp
      clear hG hlt hk hF hD
      have T1 := tok
      have T2 := tok
      have T3 := tok
      have T4 := tok
      have T5 := tok
      have T6 := tok
      have T7 := tok
      go_wp2_with (first
        | (clear T1; go_at_call 7; refine (right_n x0 x1 _ _ n0 n1 t l _ r0 r1 l0.out l1.out (by omega) (by omega) b hj.out).mono ?_; rintro e u1 ⟨rfl, b1⟩; replace B := bthen B b1; replace r0 := r0.kept b1; replace r1 := r1.kept b1; replace dr := dr.kept b1; clear b1)
        | (clear T2; go_at_call 8; refine (iright_n x0 x1 _ _ n0 n1 t l _ r0 r1 l0.out l1.out (by omega) (by omega) b hj.out).mono ?_; rintro e u2 ⟨rfl, b2⟩; replace B := bthen B b2; replace r0 := r0.kept b2; replace r1 := r1.kept b2; replace dr := dr.kept b2; clear b2)
        | (clear T3; go_at_call 10; refine (pass_n x0 x1 _ _ n0 n1 t l P r _ r0 r1 l0.out l1.out (by omega) (by omega) hP.out lP.out).mono ?_; rintro e u3 ⟨a3, d3, rfl, _, p, b3⟩; replace B := bthen B b3; replace r0 := r0.kept b3; replace r1 := r1.kept b3; replace dr := dr.kept b3; clear b3)
        | (clear T4; go_at_call 11; refine (ipass_n x0 x1 _ _ n0 n1 t l P r _ r0 r1 l0.out l1.out (by omega) (by omega) hP.out lP.out).mono ?_; rintro e u4 ⟨a4, d4, rfl, _, p2, b4⟩; replace B := bthen B b4; replace r0 := r0.kept b4; replace r1 := r1.kept b4; replace dr := dr.kept b4; replace p := p.kept b4; clear b4)
        | (clear T5; go_at_call 9; refine (equal_n a3 a4 _ _ r r P P _ p p2 lP.out lP.out (by omega) (by omega) true (eqRow _)).mono ?_; rintro e u5 ⟨rfl, b5⟩; replace B := bthen B b5; replace r0 := r0.kept b5; replace r1 := r1.kept b5; replace dr := dr.kept b5; clear b5 p p2)
        | (clear T6; go_at_call 12; refine (delays_n x0 x1 _ _ n0 n1 t l D m _ r0 r1 l0.out l1.out (by omega) (by omega) hd.out lD.out).mono ?_; rintro e u6 ⟨a6, d6, rfl, _, p, b6⟩; replace B := bthen B b6; replace dr := dr.kept b6; clear b6 r0 r1)
        | (clear T7; go_at_call 9; refine (equal_n a6 am _ _ m m D D _ p dr lD.out lD.out (by omega) (by omega) true (eqRow _)).mono ?_; rintro e u7 ⟨rfl, b7⟩; replace B := bthen B b7; clear b7 p dr))
      go_ret
      exact ⟨rfl, B⟩

theorem pass_le (t l : List Int) : (pass t l).length ≤ t.length := by
  by_cases h : jright t l
  · rw [pass_len h]; exact Nat.le_refl _
  · rw [pass_no h]; exact Nat.zero_le _

theorem jitterTells_walk (a0 : Option Addr) (cap0 : Nat) (z0 : List Int) (a1 : Option Addr) (cap1 : Nat) (z1 : List Int) (w : World) (h0 : FarIn w a0 cap0 z0) (h1 : FarIn w a1 cap1 z1) :
    Calls Try.prog 3 #[.slice a0 z0.length cap0, .slice a1 z1.length cap1] w fun e w' => e = .returned (.bool true) ∧ Below w.heap.size w w' := by
  have q0 := h0.2.1
  have q1 := h1.2.1
  have q2 := pass_le z0 z1
  exact tells_any a0 a1 cap0 cap1 z0.length z1.length (min z0.length z1.length) _ z0 z1 _ (dl z0 z1) (fun k => wrap64 (z1.getD k 0 - z0.getD k 0)) _ w h0.1 h1.1 rfl rfl (by omega) (by omega) (by omega) (by omega) (by omega) (fun k => rfl) rfl (dl_len _ _) rfl rfl rfl (by omega) rfl

end Go.Proofs.Ytolijbhokaieeaa
namespace Go.Proofs.Ytolijbhokaieeaa.jitterTells
open Go.ChangeShapes Go.WideShapes Go.ChangeAt Go.RowKit
set_option linter.unusedVariables false

set_option maxRecDepth 100000 in
theorem lifted (os : Os) (started : os.Started) (H : Type) (enc : TypeId × Value → H) :
    ReturnsInHanded {} Try.checked os 3 .any (Rows.jitterTellsSpec.pre6 enc Try.prog Try.f3 Rows.jitterTellsRow.domain false) (Rows.jitterTellsSpec.post enc Try.prog Try.f3 false true false false) := by
  refine returnsInHanded_of_change_sized (C := Try.checked) own started (by kernel_rfl) Try.func3
    (ChangeSpec.witness6 (enc := enc) (C := Try.checked) false ⟨#[], #[.slice none 0 0, .slice none 0 0], []⟩ 8 (by kernel_rfl) (by kernel_rfl) (by kernel_rfl) (by kernel_rfl)) ?_
  intro W base args ds gs before hval0 hW _ hsz0 _
  have hsz : (DataW.weightsEach Try.prog (Try.f3.params.toList ++ Rows.jitterTellsSpec.plain.varTypes Try.prog) (ds ++ gs)).all (· ≤ reachBytes) = true := hsz0
  have hval : ∀ (j : Nat) t v, Try.f3.params[j]? = some t → args[j]? = some v → Value.okWide Try.prog W .any base t v := hval0
  have hW' := hW
  obtain ⟨p, q, hA0, hV, rfl, hfz, hnd⟩ := hW
  have hA : DataW.TrodAll enc Try.prog W 0 (fun _ => true) true Try.f3.params.toList args.toList ds p := hA0
  rw [Try.params3] at hA hval hsz
  obtain ⟨v0, vs0, d0, ds0, p0, q0, hargs, rfl, rfl, h0, r0⟩ := trodAll_cons hA
  obtain ⟨v1, vs1, d1, ds1, p1, q1, rfl, rfl, rfl, h1, r1⟩ := trodAll_cons r0
  obtain ⟨rfl, rfl, rfl⟩ := trodAll_nil r1
  obtain rfl : args = #[v0, v1] := by cases args; simp_all
  obtain ⟨rfl, rfl⟩ := trodVars_none hV
  obtain ⟨a0, len0, cap0, rfl⟩ := okWide_slice Try.underlying22 (hval 0 22 v0 rfl rfl)
  have k0 := h0
  have lt0 : ∀ x ∈ p0, x.block < W.heap.size := by obtain ⟨m, hm⟩ := k0; exact DataW.trod_lt m _ _ _ hm
  obtain ⟨z0, rfl, w0⟩ := farIn h0 (fun elems spare e => by
    subst e
    have := sized_slice hsz (j := 0) (t := 22) (e := 3) rfl rfl Try.underlying22
    rw [Try.bytes3] at this
    exact this)
  obtain ⟨a1, len1, cap1, rfl⟩ := okWide_slice Try.underlying22 (hval 1 22 v1 rfl rfl)
  have k1 := h1
  have lt1 : ∀ x ∈ p1, x.block < W.heap.size := by obtain ⟨m, hm⟩ := k1; exact DataW.trod_lt m _ _ _ hm
  obtain ⟨z1, rfl, w1⟩ := farIn h1 (fun elems spare e => by
    subst e
    have := sized_slice hsz (j := 1) (t := 22) (e := 3) rfl rfl Try.underlying22
    rw [Try.bytes3] at this
    exact this)
  clear hA0 hval0 hsz0 hsz
  refine (jitterTells_walk a0 cap0 z0 a1 cap1 z1 W w0 w1).mono fun e W' ⟨he, bel⟩ => ?_
  subst he
  exact ⟨_, rfl, _, _, _, [], _, [], hW', trodAll_mk1 (shut_bool Try.underlying4 _), (trodAll_cons_mk (Below.trod laidOut (by kernel_rfl) (of_decide_eq_true (by kernel_rfl)) k0 bel lt0) (trodAll_cons_mk (Below.trod laidOut (by kernel_rfl) (of_decide_eq_true (by kernel_rfl)) k1 bel lt1) trodAll_mk0)), rfl, bel.frame _, fun h => by cases h⟩

theorem proved : Rows.JitterTellsSaid :=
  OpenClaim.holds_of_wide 3 Try.f3 rfl rfl rfl rfl rfl rfl rfl ⟨rfl, rfl, rfl, rfl, rfl⟩ rfl rfl rfl rfl rfl (by kernel_rfl) Try.func3 (by kernel_rfl)
    (of_decide_eq_true (by kernel_rfl)) (by unfold Func.isWrapper; first | (rw [if_pos (by decide +kernel)]; kernel_rfl) | (rw [if_neg (by decide +kernel)]; exact ⟨rfl, rfl⟩))
    (fun os started H enc _ => lifted os started H enc)

end Go.Proofs.Ytolijbhokaieeaa.jitterTells
namespace Go.Proofs.Ytolijbhokaieeaa
theorem jitterTells_holds : Rows.JitterTellsSaid := jitterTells.proved
#print axioms jitterTells_holds
end Go.Proofs.Ytolijbhokaieeaa
