/- PROVED: curves together are curves, of what comes together. CONDITIONS: none. -/
import Derived.Test.YtedcbchelliljaaFar
import Derived.Deep.RegionWith
import Derived.Test.YtedcbchelliljaaAlive
import Derived.Test.YtedcbchelliljaaDrawn
namespace Go.Proofs.Ytedcbchelliljaa
open Go.RowKit
set_option linter.unusedVariables false

theorem equal_rows (a1 a2 : Option Addr) (c1 c2 : Nat) (xs : List Int) (w : World) (h1 : Row w a1 xs) (h2 : Row w a2 xs) (b1 : xs.length ≤ 17592186044416) :
    Calls Try.prog 8 #[.slice a1 xs.length c1, .slice a2 xs.length c2] w fun e w' => e = .returned (.bool true) ∧ ∃ q, w' = w.drewN q :=
  equal_at a1 a2 c1 c2 xs.length xs w h1 h2 rfl (by omega)

attribute [local go_sem ↓] appe_whole

set_option maxHeartbeats 1600000 in
theorem curveSums_walk (a0 : Option Addr) (cap0 : Nat) (z0 : List Int) (a1 : Option Addr) (cap1 : Nat) (z1 : List Int) (w : World) (h0 : FarIn w a0 cap0 z0) (h1 : FarIn w a1 cap1 z1) :
    Calls Try.prog 7 #[.slice a0 z0.length cap0, .slice a1 z1.length cap1] w fun e w' => e = .returned (.bool true) ∧ Below w.heap.size w w' := by
  obtain ⟨r0, l0, _, _⟩ := h0
  obtain ⟨r1, l1, _, _⟩ := h1
  have hm : min (z0.length : Int) z1.length = ((min z0.length z1.length : Nat) : Int) := by omega
  obtain ⟨m, hmm⟩ : ∃ m, min z0.length z1.length = m := ⟨_, rfl⟩
  rw [hmm] at hm
  go_enter Try.func7, Try.ntmps7
  go_wp2_with (go_at_call 24; refine (alive_any _).mono ?_; rintro e u0 ⟨rfl, b0⟩; have p0 := r0.kept b0; have p1 := r1.kept b0; clear r0 r1)
  go_loopw [5, 16] (fun t i wr => ∃ k : Nat, k ≤ m ∧ i = .int .i64 k ∧ Gath u0 t wr (outs (fun t => plus (z0.getD t 0) (z1.getD t 0)) k)) (fun _ i _ => m - (intOf i).toNat)
  case atStart => exact ⟨0, Nat.zero_le _, rfl, Gath.start u0⟩
  case round =>
    obtain ⟨k, hkn, rfl, hG⟩ := hrel
    by_cases hlt : k < m
    · obtain ⟨g0, o0, rfl, k0⟩ := (p0.kept hG.below).at (by omega)
      obtain ⟨g1, o1, rfl, k1⟩ := (p1.kept hG.below).at (by omega)
      have hx := k0 k (by omega)
      have hy := k1 k (by omega)
      have hki : (k : Int) < m := by omega
      have hk0 : (k : Int) < z0.length := by omega
      have hk1 : (k : Int) < z1.length := by omega
      obtain ⟨gg, cc, w2, hrun, hS⟩ := hG.drawn (by omega) (x := plus (z0.getD k 0) (z1.getD k 0)) rfl
      generalize z0.getD k 0 = x at hx hrun
      generalize z1.getD k 0 = y at hy hrun
      have HS := hide hS
      clear k0 k1 p0 p1 hS hG
      go_wp2
      go_region_with (go_at_call 26; refine (plus_any _ _ _).mono ?_; rintro e w' ⟨rfl, rfl⟩)
      all_goals
        go_wp2
        go_roundw
        case rel => exact ⟨k + 1, by omega, by go_num, HS.out⟩
        case measure => simp [intOf]; omega
    · obtain rfl : k = m := by omega
      have hP : outs (fun t => plus (z0.getD t 0) (z1.getD t 0)) k = both plus z0 z1 := by unfold both; rw [hmm]
      rw [hP] at hG
      have q0 := p0.kept hG.below
      have q1 := p1.kept hG.below
      have B0 := bthen b0 hG.below
      obtain ⟨aP, cP, rfl, _, rP⟩ := owned_cap hG.own
      clear hP p0 p1 b0 hG
      have nP := both_len plus z0 z1
      have nF := of_len z0
      have nG := of_len z1
      have nX := both_len plus (of z0) (of z1)
      have nY := both_len lowr (of z0) (of z1)
      have sO0 := fun u (hu : Row u a0 z0) => of_any a0 cap0 z0 u hu (by omega)
      have sO1 := fun u (hu : Row u a1 z1) => of_any a1 cap1 z1 u hu (by omega)
      have sS := fun u x c y d (hu : Row u x (of z0)) (hv : Row u y (of z1)) => sum_any x y c d (of z0) (of z1) (by omega) (by omega) u hu hv
      have sRX := fun u x c (hu : Row u x (both plus (of z0) (of z1))) => right_any x c _ u hu (by omega)
      have sOP := fun u x c (hu : Row u x (both plus z0 z1)) => of_any x c _ u hu (by omega)
      have sL := fun u x c y d (hu : Row u x (of z0)) (hv : Row u y (of z1)) => lower_any x y c d (of z0) (of z1) (by omega) (by omega) u hu hv
      have sRY := fun u x c (hu : Row u x (both lowr (of z0) (of z1))) => right_any x c _ u hu (by omega)
      simp only [decide_eq_true (right_sum z0 z1)] at sRX
      simp only [decide_eq_true (right_lower (right_of z0) (right_of z1))] at sRY
      simp only [← sum_of z0 z1] at sOP
      have hX : (both plus (of z0) (of z1)).length ≤ 17592186044416 := by omega
      clear nP nF nG nX nY
      generalize both plus (of z0) (of z1) = X at sS sRX sOP hX
      generalize both lowr (of z0) (of z1) = Y at sL sRY
      generalize of z0 = F at sO0 sS sL
      generalize of z1 = G at sO1 sS sL
      generalize both plus z0 z1 = P at sOP rP
      have sS2 := sS
      have hni : ¬ (k : Int) < k := by omega
      clear hmm
      go_wp2_with (first
        | (go_at_call 9; refine (sO0 _ q0).mono ?_; rintro e u1 ⟨xF, cF, rfl, _, rF, b1⟩; have m1 := q1.kept b1; have mP := rP.kept b1; have B1 := bthen B0 b1; clear q0 q1 rP B0 b1 sO0)
        | (go_at_call 9; refine (sO1 _ m1).mono ?_; rintro e u2 ⟨xG, cG, rfl, _, rG, b2⟩; have nF := rF.kept b2; have nP := mP.kept b2; have B2 := bthen B1 b2; clear m1 rF mP B1 b2 sO1)
        | (go_at_call 22; refine (sS _ _ _ _ _ nF rG).mono ?_; rintro e u3 ⟨xX, cX, rfl, _, rX, b3⟩; have oF := nF.kept b3; have oG := rG.kept b3; have oP := nP.kept b3; have B3 := bthen B2 b3; clear nF rG nP B2 b3 sS)
        | (go_at_call 11; refine (sRX _ _ _ rX).mono ?_; rintro e u4 ⟨rfl, d4, rfl⟩; clear sRX rX)
        | (go_at_call 22; refine (sS2 _ _ _ _ _ (oF.drewN _) (oG.drewN _)).mono ?_; rintro e u5 ⟨xX, cX, rfl, _, rX, b5⟩; have tF := (oF.drewN _).kept b5; have tG := (oG.drewN _).kept b5; have tP := (oP.drewN _).kept b5; have B5 := bthen (below_drewN B3 _) b5; clear oF oG oP B3 b5 sS2)
        | (go_at_call 9; refine (sOP _ _ _ tP).mono ?_; rintro e u6 ⟨xY, cY, rfl, _, rY, b6⟩; have vF := tF.kept b6; have vG := tG.kept b6; have vX := rX.kept b6; have B6 := bthen B5 b6; clear tF tG tP rX B5 b6 sOP)
        | (go_at_call 8; refine (equal_rows _ _ _ _ X _ vX rY hX).mono ?_; rintro e u7 ⟨rfl, d7, rfl⟩; clear vX rY)
        | (go_at_call 19; refine (sL _ _ _ _ _ (vF.drewN _) (vG.drewN _)).mono ?_; rintro e u8 ⟨xL, cL, rfl, _, rL, b8⟩; have B8 := bthen (below_drewN B6 _) b8; clear vF vG B6 b8 sL)
        | (go_at_call 11; refine (sRY _ _ _ rL).mono ?_; rintro e u9 ⟨rfl, d9, rfl⟩; clear sRY rL))
      go_ret
      exact ⟨rfl, below_drewN B8 _⟩

end Go.Proofs.Ytedcbchelliljaa
namespace Go.Proofs.Ytedcbchelliljaa.curveSums
open Go.ChangeShapes Go.WideShapes Go.ChangeAt Go.RowKit
set_option linter.unusedVariables false

set_option maxRecDepth 100000 in
theorem lifted (os : Os) (started : os.Started) (H : Type) (enc : TypeId × Value → H) :
    ReturnsInHanded {} Try.checked os 7 .any (Rows.curveSumsSpec.pre6 enc Try.prog Try.f7 Rows.curveSumsRow.domain false) (Rows.curveSumsSpec.post enc Try.prog Try.f7 false true false false) := by
  refine returnsInHanded_of_change_sized (C := Try.checked) own started (by kernel_rfl) Try.func7
    (ChangeSpec.witness6 (enc := enc) (C := Try.checked) false ⟨#[], #[.slice none 0 0, .slice none 0 0], []⟩ 8 (by kernel_rfl) (by kernel_rfl) (by kernel_rfl) (by kernel_rfl)) ?_
  intro W base args ds gs before hval0 hW _ hsz0 _
  have hsz : (DataW.weightsEach Try.prog (Try.f7.params.toList ++ Rows.curveSumsSpec.plain.varTypes Try.prog) (ds ++ gs)).all (· ≤ reachBytes) = true := hsz0
  have hval : ∀ (j : Nat) t v, Try.f7.params[j]? = some t → args[j]? = some v → Value.okWide Try.prog W .any base t v := hval0
  have hW' := hW
  obtain ⟨p, q, hA0, hV, rfl, hfz, hnd⟩ := hW
  have hA : DataW.TrodAll enc Try.prog W 0 (fun _ => true) true Try.f7.params.toList args.toList ds p := hA0
  rw [Try.params7] at hA hval hsz
  obtain ⟨v0, vs0, d0, ds0, p0, q0, hargs, rfl, rfl, h0, r0⟩ := trodAll_cons hA
  obtain ⟨v1, vs1, d1, ds1, p1, q1, rfl, rfl, rfl, h1, r1⟩ := trodAll_cons r0
  obtain ⟨rfl, rfl, rfl⟩ := trodAll_nil r1
  obtain rfl : args = #[v0, v1] := by cases args; simp_all
  obtain ⟨rfl, rfl⟩ := trodVars_none hV
  obtain ⟨a0, len0, cap0, rfl⟩ := okWide_slice Try.underlying22 (hval 0 22 v0 rfl rfl)
  have k0 := h0
  have lt0 : ∀ x ∈ p0, x.block < W.heap.size := by obtain ⟨m, hm⟩ := k0; exact DataW.trod_lt m _ _ _ hm
  obtain ⟨z0, rfl, w0⟩ := farIn h0 (fun elems spare e => by
    subst e
    have := sized_slice hsz (j := 0) (t := 22) (e := 3) rfl rfl Try.underlying22
    rw [Try.bytes3] at this
    exact this)
  obtain ⟨a1, len1, cap1, rfl⟩ := okWide_slice Try.underlying22 (hval 1 22 v1 rfl rfl)
  have k1 := h1
  have lt1 : ∀ x ∈ p1, x.block < W.heap.size := by obtain ⟨m, hm⟩ := k1; exact DataW.trod_lt m _ _ _ hm
  obtain ⟨z1, rfl, w1⟩ := farIn h1 (fun elems spare e => by
    subst e
    have := sized_slice hsz (j := 1) (t := 22) (e := 3) rfl rfl Try.underlying22
    rw [Try.bytes3] at this
    exact this)
  clear hA0 hval0 hsz0 hsz
  refine (curveSums_walk a0 cap0 z0 a1 cap1 z1 W w0 w1).mono fun e W' ⟨he, bel⟩ => ?_
  subst he
  exact ⟨_, rfl, _, _, _, [], _, [], hW', trodAll_mk1 (shut_bool Try.underlying4 _), (trodAll_cons_mk (Below.trod laidOut (by kernel_rfl) (of_decide_eq_true (by kernel_rfl)) k0 bel lt0) (trodAll_cons_mk (Below.trod laidOut (by kernel_rfl) (of_decide_eq_true (by kernel_rfl)) k1 bel lt1) trodAll_mk0)), rfl, bel.frame _, fun h => by cases h⟩

theorem proved : Rows.CurveSumsSaid :=
  OpenClaim.holds_of_wide 7 Try.f7 rfl rfl rfl rfl rfl rfl rfl ⟨rfl, rfl, rfl, rfl, rfl⟩ rfl rfl rfl rfl rfl (by kernel_rfl) Try.func7 (by kernel_rfl)
    (of_decide_eq_true (by kernel_rfl)) (by unfold Func.isWrapper; first | (rw [if_pos (by decide +kernel)]; kernel_rfl) | (rw [if_neg (by decide +kernel)]; exact ⟨rfl, rfl⟩))
    (fun os started H enc _ => lifted os started H enc)

end Go.Proofs.Ytedcbchelliljaa.curveSums
namespace Go.Proofs.Ytedcbchelliljaa
theorem curveSums_holds : Rows.CurveSumsSaid := curveSums.proved
#print axioms curveSums_holds
end Go.Proofs.Ytedcbchelliljaa
