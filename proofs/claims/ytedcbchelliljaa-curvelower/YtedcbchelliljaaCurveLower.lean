/- PROVED: Lower is the greatest row below both. CONDITIONS: none. -/
import Derived.Test.YtedcbchelliljaaFar
import Derived.Test.YtedcbchelliljaaAlive
namespace Go.Proofs.Ytedcbchelliljaa
open Go.RowKit
set_option linter.unusedVariables false

set_option maxHeartbeats 1600000 in
theorem curveLower_walk (a0 : Option Addr) (cap0 : Nat) (z0 : List Int) (a1 : Option Addr) (cap1 : Nat) (z1 : List Int) (a2 : Option Addr) (cap2 : Nat) (z2 : List Int) (w : World) (h0 : FarIn w a0 cap0 z0) (h1 : FarIn w a1 cap1 z1) (h2 : FarIn w a2 cap2 z2) :
    Calls Try.prog 6 #[.slice a0 z0.length cap0, .slice a1 z1.length cap1, .slice a2 z2.length cap2] w fun e w' => e = .returned (.bool true) ∧ Below w.heap.size w w' := by
  obtain ⟨r0, l0, _, _⟩ := h0
  obtain ⟨r1, l1, _, _⟩ := h1
  obtain ⟨r2, l2, _, _⟩ := h2
  have sL := fun u (hu : Row u a0 z0) (hv : Row u a1 z1) => lower_any a0 a1 cap0 cap1 z0 z1 (by omega) (by omega) u hu hv
  have bl := both_len lowr z0 z1
  have e1 := decide_eq_true (lower_left z0 z1)
  have e2 := decide_eq_true (lower_right z0 z1)
  have e3 := lower_best z0 z1 z2
  have hl : (both lowr z0 z1).length ≤ 17592186044416 := by omega
  clear bl
  generalize both lowr z0 z1 = L at sL e1 e2 e3 hl
  have sA := fun u x c (hu : Row u x L) (hv : Row u a0 z0) => within_any x a0 c cap0 L z0 hl (by omega) u hu hv
  have sB := fun u x c (hu : Row u x L) (hv : Row u a1 z1) => within_any x a1 c cap1 L z1 hl (by omega) u hu hv
  simp only [e1] at sA
  simp only [e2] at sB
  by_cases hlen : z2.length = L.length
  · have sC := fun u x c (hu : Row u a2 z2) (hv : Row u x L) => within_any a2 x cap2 c z2 L (by omega) hl u hu hv
    have sD := fun u (hu : Row u a2 z2) (hv : Row u a0 z0) => within_any a2 a0 cap2 cap0 z2 z0 (by omega) (by omega) u hu hv
    have sE := fun u (hu : Row u a2 z2) (hv : Row u a1 z1) => within_any a2 a1 cap2 cap1 z2 z1 (by omega) (by omega) u hu hv
    have e4 := e3 hlen
    obtain ⟨n, hn⟩ : ∃ n, L.length = n := ⟨_, rfl⟩
    have hn2 : z2.length = n := by omega
    replace sL := fun u (hu : Row u a0 z0) (hv : Row u a1 z1) => (sL u hu hv).mono (fun e w' (q : Ans u L e w') => (by unfold Ans at q; rw [hn] at q; exact q : AnsN u n L e w'))
    simp only [hn] at sA sB sC
    simp only [hn2] at sC sD sE
    rw [hn2]
    clear hn hn2 hlen
    by_cases hF : below z2 z0
    · have e5 : decide (below z2 L) = decide (below z2 z1) := by
        by_cases hG : below z2 z1
        · rw [decide_eq_true hG, decide_eq_true (e4.2 ⟨hF, hG⟩)]
        · rw [decide_eq_false hG, decide_eq_false (fun h => hG (e4.1 h).2)]
      simp only [decide_eq_true hF] at sD
      simp only [e5] at sC
      generalize decide (below z2 z1) = bb at sC sE
      clear e1 e2 e3 e4 e5 hF l0 l1 l2 hl
      go_enter Try.func6, Try.ntmps6
      go_wp2_with (first
        | (go_at_call 24; refine (alive_any _).mono ?_; rintro e u0 ⟨rfl, b0⟩; have p0 := r0.kept b0; have p1 := r1.kept b0; have p2 := r2.kept b0; clear r0 r1 r2)
        | (go_at_call 19; refine (sL _ p0 p1).mono ?_; rintro e u1 ⟨x, c, rfl, _, rL, b1⟩; have q0 := p0.kept b1; have q1 := p1.kept b1; have q2 := p2.kept b1; have B1 := bthen b0 b1; clear p0 p1 p2 b0 b1 sL)
        | (go_at_call 17; refine (sA _ _ _ rL q0).mono ?_; rintro e u2 ⟨rfl, b2⟩; have m0 := q0.kept b2; have m1 := q1.kept b2; have m2 := q2.kept b2; have mL := rL.kept b2; have B2 := bthen B1 b2; clear q0 q1 q2 rL B1 b2 sA)
        | (go_at_call 17; refine (sB _ _ _ mL m1).mono ?_; rintro e u3 ⟨rfl, b3⟩; have n0 := m0.kept b3; have n1 := m1.kept b3; have n2 := m2.kept b3; have nL := mL.kept b3; have B3 := bthen B2 b3; clear m0 m1 m2 mL B2 b3 sB)
        | (go_at_call 17; refine (sC _ _ _ n2 nL).mono ?_; rintro e u4 ⟨rfl, b4⟩; have o0 := n0.kept b4; have o1 := n1.kept b4; have o2 := n2.kept b4; have B4 := bthen B3 b4; clear n0 n1 n2 nL B3 b4 sC)
        | (go_at_call 17; refine (sD _ o2 o0).mono ?_; rintro e u5 ⟨rfl, b5⟩; have t1 := o1.kept b5; have t2 := o2.kept b5; have B5 := bthen B4 b5; clear o0 o1 o2 B4 b5 sD)
        | (go_at_call 17; refine (sE _ t2 t1).mono ?_; rintro e u6 ⟨rfl, b6⟩; have B6 := bthen B5 b6; clear t1 t2 B5 b6 sE))
      go_ret
      exact ⟨by simp, B6⟩
    · have e5 : decide (below z2 L) = false := decide_eq_false (fun h => hF (e4.1 h).1)
      simp only [decide_eq_false hF] at sD
      simp only [e5] at sC
      clear e1 e2 e3 e4 e5 hF l0 l1 l2 hl sE
      go_enter Try.func6, Try.ntmps6
      go_wp2_with (first
        | (go_at_call 24; refine (alive_any _).mono ?_; rintro e u0 ⟨rfl, b0⟩; have p0 := r0.kept b0; have p1 := r1.kept b0; have p2 := r2.kept b0; clear r0 r1 r2)
        | (go_at_call 19; refine (sL _ p0 p1).mono ?_; rintro e u1 ⟨x, c, rfl, _, rL, b1⟩; have q0 := p0.kept b1; have q1 := p1.kept b1; have q2 := p2.kept b1; have B1 := bthen b0 b1; clear p0 p1 p2 b0 b1 sL)
        | (go_at_call 17; refine (sA _ _ _ rL q0).mono ?_; rintro e u2 ⟨rfl, b2⟩; have m0 := q0.kept b2; have m1 := q1.kept b2; have m2 := q2.kept b2; have mL := rL.kept b2; have B2 := bthen B1 b2; clear q0 q1 q2 rL B1 b2 sA)
        | (go_at_call 17; refine (sB _ _ _ mL m1).mono ?_; rintro e u3 ⟨rfl, b3⟩; have n0 := m0.kept b3; have n2 := m2.kept b3; have nL := mL.kept b3; have B3 := bthen B2 b3; clear m0 m1 m2 mL B2 b3 sB)
        | (go_at_call 17; refine (sC _ _ _ n2 nL).mono ?_; rintro e u4 ⟨rfl, b4⟩; have o0 := n0.kept b4; have o2 := n2.kept b4; have B4 := bthen B3 b4; clear n0 n2 nL B3 b4 sC)
        | (go_at_call 17; refine (sD _ o2 o0).mono ?_; rintro e u5 ⟨rfl, b5⟩; have B5 := bthen B4 b5; clear o0 o2 B4 b5 sD))
      go_ret
      exact ⟨by simp, B5⟩
  · have hli : ((z2.length : Int) == (L.length : Int)) = false := beq_eq_false_iff_ne.2 (by omega)
    clear e1 e2 e3 l0 l1 l2 hl hlen
    go_enter Try.func6, Try.ntmps6
    go_wp2_with (first
      | (go_at_call 24; refine (alive_any _).mono ?_; rintro e u0 ⟨rfl, b0⟩; have p0 := r0.kept b0; have p1 := r1.kept b0; clear r0 r1 r2)
      | (go_at_call 19; refine (sL _ p0 p1).mono ?_; rintro e u1 ⟨x, c, rfl, _, rL, b1⟩; have q0 := p0.kept b1; have q1 := p1.kept b1; have B1 := bthen b0 b1; clear p0 p1 b0 b1 sL)
      | (go_at_call 17; refine (sA _ _ _ rL q0).mono ?_; rintro e u2 ⟨rfl, b2⟩; have m1 := q1.kept b2; have mL := rL.kept b2; have B2 := bthen B1 b2; clear q0 q1 rL B1 b2 sA)
      | (go_at_call 17; refine (sB _ _ _ mL m1).mono ?_; rintro e u3 ⟨rfl, b3⟩; have B3 := bthen B2 b3; clear m1 mL B2 b3 sB))
    go_ret
    exact ⟨rfl, B3⟩

end Go.Proofs.Ytedcbchelliljaa
namespace Go.Proofs.Ytedcbchelliljaa.curveLower
open Go.ChangeShapes Go.WideShapes Go.ChangeAt Go.RowKit
set_option linter.unusedVariables false

set_option maxRecDepth 100000 in
theorem lifted (os : Os) (started : os.Started) (H : Type) (enc : TypeId × Value → H) :
    ReturnsInHanded {} Try.checked os 6 .any (Rows.curveLowerSpec.pre6 enc Try.prog Try.f6 Rows.curveLowerRow.domain false) (Rows.curveLowerSpec.post enc Try.prog Try.f6 false true false false) := by
  refine returnsInHanded_of_change_sized (C := Try.checked) own started (by kernel_rfl) Try.func6
    (ChangeSpec.witness6 (enc := enc) (C := Try.checked) false ⟨#[], #[.slice none 0 0, .slice none 0 0, .slice none 0 0], []⟩ 8 (by kernel_rfl) (by kernel_rfl) (by kernel_rfl) (by kernel_rfl)) ?_
  intro W base args ds gs before hval0 hW _ hsz0 _
  have hsz : (DataW.weightsEach Try.prog (Try.f6.params.toList ++ Rows.curveLowerSpec.plain.varTypes Try.prog) (ds ++ gs)).all (· ≤ reachBytes) = true := hsz0
  have hval : ∀ (j : Nat) t v, Try.f6.params[j]? = some t → args[j]? = some v → Value.okWide Try.prog W .any base t v := hval0
  have hW' := hW
  obtain ⟨p, q, hA0, hV, rfl, hfz, hnd⟩ := hW
  have hA : DataW.TrodAll enc Try.prog W 0 (fun _ => true) true Try.f6.params.toList args.toList ds p := hA0
  rw [Try.params6] at hA hval hsz
  obtain ⟨v0, vs0, d0, ds0, p0, q0, hargs, rfl, rfl, h0, r0⟩ := trodAll_cons hA
  obtain ⟨v1, vs1, d1, ds1, p1, q1, rfl, rfl, rfl, h1, r1⟩ := trodAll_cons r0
  obtain ⟨v2, vs2, d2, ds2, p2, q2, rfl, rfl, rfl, h2, r2⟩ := trodAll_cons r1
  obtain ⟨rfl, rfl, rfl⟩ := trodAll_nil r2
  obtain rfl : args = #[v0, v1, v2] := by cases args; simp_all
  obtain ⟨rfl, rfl⟩ := trodVars_none hV
  obtain ⟨a0, len0, cap0, rfl⟩ := okWide_slice Try.underlying22 (hval 0 22 v0 rfl rfl)
  have k0 := h0
  have lt0 : ∀ x ∈ p0, x.block < W.heap.size := by obtain ⟨m, hm⟩ := k0; exact DataW.trod_lt m _ _ _ hm
  obtain ⟨z0, rfl, w0⟩ := farIn h0 (fun elems spare e => by
    subst e
    have := sized_slice hsz (j := 0) (t := 22) (e := 3) rfl rfl Try.underlying22
    rw [Try.bytes3] at this
    exact this)
  obtain ⟨a1, len1, cap1, rfl⟩ := okWide_slice Try.underlying22 (hval 1 22 v1 rfl rfl)
  have k1 := h1
  have lt1 : ∀ x ∈ p1, x.block < W.heap.size := by obtain ⟨m, hm⟩ := k1; exact DataW.trod_lt m _ _ _ hm
  obtain ⟨z1, rfl, w1⟩ := farIn h1 (fun elems spare e => by
    subst e
    have := sized_slice hsz (j := 1) (t := 22) (e := 3) rfl rfl Try.underlying22
    rw [Try.bytes3] at this
    exact this)
  obtain ⟨a2, len2, cap2, rfl⟩ := okWide_slice Try.underlying22 (hval 2 22 v2 rfl rfl)
  have k2 := h2
  have lt2 : ∀ x ∈ p2, x.block < W.heap.size := by obtain ⟨m, hm⟩ := k2; exact DataW.trod_lt m _ _ _ hm
  obtain ⟨z2, rfl, w2⟩ := farIn h2 (fun elems spare e => by
    subst e
    have := sized_slice hsz (j := 2) (t := 22) (e := 3) rfl rfl Try.underlying22
    rw [Try.bytes3] at this
    exact this)
  clear hA0 hval0 hsz0 hsz
  refine (curveLower_walk a0 cap0 z0 a1 cap1 z1 a2 cap2 z2 W w0 w1 w2).mono fun e W' ⟨he, bel⟩ => ?_
  subst he
  exact ⟨_, rfl, _, _, _, [], _, [], hW', trodAll_mk1 (shut_bool Try.underlying4 _), (trodAll_cons_mk (Below.trod laidOut (by kernel_rfl) (of_decide_eq_true (by kernel_rfl)) k0 bel lt0) (trodAll_cons_mk (Below.trod laidOut (by kernel_rfl) (of_decide_eq_true (by kernel_rfl)) k1 bel lt1) (trodAll_cons_mk (Below.trod laidOut (by kernel_rfl) (of_decide_eq_true (by kernel_rfl)) k2 bel lt2) trodAll_mk0))), rfl, bel.frame _, fun h => by cases h⟩

theorem proved : Rows.CurveLowerSaid :=
  OpenClaim.holds_of_wide 6 Try.f6 rfl rfl rfl rfl rfl rfl rfl ⟨rfl, rfl, rfl, rfl, rfl⟩ rfl rfl rfl rfl rfl (by kernel_rfl) Try.func6 (by kernel_rfl)
    (of_decide_eq_true (by kernel_rfl)) (by unfold Func.isWrapper; first | (rw [if_pos (by decide +kernel)]; kernel_rfl) | (rw [if_neg (by decide +kernel)]; exact ⟨rfl, rfl⟩))
    (fun os started H enc _ => lifted os started H enc)

end Go.Proofs.Ytedcbchelliljaa.curveLower
namespace Go.Proofs.Ytedcbchelliljaa
theorem curveLower_holds : Rows.CurveLowerSaid := curveLower.proved
#print axioms curveLower_holds
end Go.Proofs.Ytedcbchelliljaa
