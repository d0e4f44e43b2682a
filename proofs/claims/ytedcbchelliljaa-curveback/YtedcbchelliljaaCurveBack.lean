/- PROVED: what came is there again: the steps of sums are the steps, and the sums of a curve are the curve. CONDITIONS: none. -/
import Derived.Test.YtedcbchelliljaaFar
import Derived.Test.YtedcbchelliljaaAlive
namespace Go.Proofs.Ytedcbchelliljaa
open Go.RowKit
set_option linter.unusedVariables false

theorem ansN {w : World} {n : Nat} {R : List Int} {e : Ending} {w' : World} (hn : R.length = n) (h : Ans w R e w') : AnsN w n R e w' := by unfold Ans at h; rw [hn] at h; exact h
theorem equal_n (a1 a2 : Option Addr) (c1 c2 n m : Nat) (xs ys : List Int) (w : World) (h1 : Row w a1 xs) (h2 : Row w a2 ys) (hn : xs.length = n) (hm : ys.length = m) (b1 : n ≤ 17592186044416) (b2 : m ≤ 17592186044416) (he : xs = ys) :
    Calls Try.prog 8 #[.slice a1 n c1, .slice a2 m c2] w fun e w' => e = .returned (.bool true) ∧ ∃ q, w' = w.drewN q := by
  subst he; subst hn; subst hm
  exact equal_at a1 a2 c1 c2 xs.length xs w h1 h2 rfl (by omega)

set_option maxHeartbeats 1600000 in
theorem curveBack_walk (a0 : Option Addr) (cap0 : Nat) (z0 : List Int) (a1 : Option Addr) (cap1 : Nat) (z1 : List Int) (w : World) (h0 : FarIn w a0 cap0 z0) (h1 : FarIn w a1 cap1 z1) :
    Calls Try.prog 5 #[.slice a0 z0.length cap0, .slice a1 z1.length cap1] w fun e w' => e = .returned (.bool true) ∧ Below w.heap.size w w' := by
  obtain ⟨r0, l0, _, _⟩ := h0
  obtain ⟨r1, l1, hc1, _⟩ := h1
  have lS := of_len z0
  have lT : (stepsOf (of z0)).length = z0.length := by rw [stepsOf_len, lS]; omega
  have sOf := fun u (hu : Row u a0 z0) => (of_any a0 cap0 z0 u hu (by omega)).mono (fun e w' q => ansN lS q)
  have sR := fun u x c (hu : Row u x (of z0)) => right_any x c (of z0) u hu (by omega)
  have sT := fun u x c (hc : z0.length + 1 ≤ c) (hu : Row u x (of z0)) => (steps_any x c (of z0) (by omega) (by omega) u hu).mono (fun e w' q => ansN lT q)
  simp only [decide_eq_true (right_of z0), lS] at sR
  simp only [lS] at sT
  have hbk := back_steps z0
  have sR1 := fun u (hu : Row u a1 z1) => right_any a1 cap1 z1 u hu (by omega)
  have sT1 := fun u (hu : Row u a1 z1) => (steps_any a1 cap1 z1 (by omega) hc1 u hu).mono (fun e w' q => ansN (stepsOf_len z1) q)
  have sO1 := fun u x c (hu : Row u x (stepsOf z1)) => (of_any x c (stepsOf z1) u hu (by rw [stepsOf_len]; omega)).mono (fun e w' q => ansN (n := z1.length - 1 + 1) (by rw [of_len, stepsOf_len]) q)
  simp only [stepsOf_len] at sO1
  have hfin : right z1 → of (stepsOf z1) = z1 := of_steps z1
  have hrn : right z1 → z1.length - 1 + 1 = z1.length := fun h => by have := h.1; omega
  have lS2 : (of (stepsOf z1)).length = z1.length - 1 + 1 := by rw [of_len, stepsOf_len]
  generalize of z0 = S at lS sOf sR sT hbk lT
  generalize stepsOf S = T at sT hbk lT
  generalize of (stepsOf z1) = V at sO1 hfin lS2
  generalize stepsOf z1 = U at sT1 sO1
  obtain ⟨n, hn⟩ : ∃ n, z0.length = n := ⟨_, rfl⟩
  rw [hn] at l0 lS lT
  simp only [hn] at sOf sR sT hbk
  rw [hn]
  obtain ⟨m, hm⟩ : ∃ m, z1.length = m := ⟨_, rfl⟩
  rw [hm] at l1 hc1
  simp only [hm] at sR1 sT1 sO1 hrn lS2
  rw [hm]
  have hw1 : IntKind.i64.wrap ((n : Int) + 1) = (n : Int) + 1 := wrap_in (by omega)
  go_enter Try.func5, Try.ntmps5
  go_wp2_with (first
    | (go_at_call 24; refine (alive_any _).mono ?_; rintro e u0 ⟨rfl, b0⟩; have p0 := r0.kept b0; have p1 := r1.kept b0; clear r0 r1)
    | (go_at_call 9; refine (sOf _ p0).mono ?_; rintro e u1 ⟨xS, cS, rfl, hcS, rS, b1⟩; have q0 := p0.kept b1; have q1 := p1.kept b1; have B1 := bthen b0 b1; clear p0 p1 b0 b1 sOf)
    | (go_at_call 11; refine (sR _ _ _ rS).mono ?_; rintro e u2 ⟨rfl, d2, rfl⟩; clear sR)
    | (go_at_call 13; refine (sT _ _ _ hcS (rS.drewN _)).mono ?_; rintro e u3 ⟨xT, cT, rfl, hcT, rT, b3⟩; have m0 := (q0.drewN _).kept b3; have m1 := (q1.drewN _).kept b3; have mS := (rS.drewN _).kept b3; have B3 := bthen (below_drewN B1 _) b3; clear q0 q1 rS B1 b3 sT))
  go_loopw [28] (fun i wr => ∃ k q : Nat, k ≤ n ∧ i = .int .i64 k ∧ wr = u3.drewN q) (fun i _ => n - (intOf i).toNat)
  case atStart => exact ⟨0, 0, Nat.zero_le _, rfl, rfl⟩
  case round =>
    obtain ⟨k, q, hkn, rfl, rfl⟩ := hrel
    by_cases hlt : k < n
    · obtain ⟨g0, o0, rfl, k0⟩ := m0.at (by omega)
      obtain ⟨gS, oS, rfl, kS⟩ := mS.at (by omega)
      obtain ⟨gT, oT, rfl, kT⟩ := rT.at (by omega)
      have hx := k0 k (by omega)
      have hy := kS n (by omega)
      have ht := kT k (by omega)
      have hki : (k : Int) < n := by omega
      have hni : (n : Int) < (n : Int) + 1 := by omega
      have hnn : n < n + 1 := by omega
      by_cases hS : S.getD n 0 < 1152921504606846976
      · have hT := hbk hS k hlt
        rw [hT] at ht
        generalize z0.getD k 0 = x at hx ht
        generalize S.getD n 0 = y at hy hS
        have hd : decide (y < 1152921504606846976) = true := decide_eq_true hS
        clear k0 kS kT hbk hT sR1 sT1 sO1 hfin hrn m0 m1 mS rT
        go_wp2
        go_quiet ((go_at_call 25; refine (fit_any _ _).mono ?_; rintro e w'' ⟨rfl, rfl⟩; exact ⟨rfl, _, rfl⟩))
        go_wp2
        go_roundw
        case rel => exact ⟨k + 1, q + nq, by omega, by go_num, by trivial⟩
        case measure => simp [intOf]; omega
      · have hS2 : 1152921504606846976 ≤ S.getD n 0 := by omega
        generalize z0.getD k 0 = x at hx
        generalize S.getD n 0 = y at hy hS2 hS
        have hd : decide (y < 1152921504606846976) = false := decide_eq_false hS
        clear k0 kS kT hbk hS sR1 sT1 sO1 hfin hrn m0 m1 mS rT ht
        go_wp2
        go_quiet ((go_at_call 25; refine (fit_any _ _).mono ?_; rintro e w'' ⟨rfl, rfl⟩; exact ⟨rfl, _, rfl⟩))
        go_wp2
        go_roundw
        case rel => exact ⟨k + 1, q + nq, by omega, by go_num, by trivial⟩
        case measure => simp [intOf]; omega
    · obtain rfl : k = n := by omega
      clear m0 mS rT hbk
      by_cases hR : right z1
      · simp only [decide_eq_true hR] at sR1
        have hV := hfin hR
        have hm2 := hrn hR
        clear hfin hrn
        simp only [hm2] at sO1 lS2
        go_wp2_with (first
          | (go_at_call 11; refine (sR1 _ (m1.drewN _)).mono ?_; rintro e u4 ⟨rfl, d4, rfl⟩; clear sR1)
          | (go_at_call 13; refine (sT1 _ (m1.drewN _)).mono ?_; rintro e u5 ⟨x5, c5, rfl, _, r5, b5⟩; have m5 := (m1.drewN _).kept b5; have B5 := bthen (below_drewN B3 _) b5; clear m1 B3 b5 sT1)
          | (go_at_call 9; refine (sO1 _ _ _ r5).mono ?_; rintro e u6 ⟨x6, c6, rfl, _, r6, b6⟩; have m6 := m5.kept b6; have B6 := bthen B5 b6; clear m5 B5 b6 r5 sO1)
          | (go_at_call 8; refine (equal_n _ _ _ _ _ _ V z1 _ r6 m6 lS2 hm (by omega) (by omega) hV).mono ?_; rintro e u7 ⟨rfl, d7, rfl⟩; clear r6 m6))
        go_ret
        exact ⟨rfl, below_drewN B6 _⟩
      · simp only [decide_eq_false hR] at sR1
        clear hfin hrn sT1 sO1
        go_wp2_with (go_at_call 11; refine (sR1 _ (m1.drewN _)).mono ?_; rintro e u4 ⟨rfl, d4, rfl⟩; clear sR1)
        go_ret
        exact ⟨rfl, below_drewN B3 _⟩

end Go.Proofs.Ytedcbchelliljaa
namespace Go.Proofs.Ytedcbchelliljaa.curveBack
open Go.ChangeShapes Go.WideShapes Go.ChangeAt Go.RowKit
set_option linter.unusedVariables false

set_option maxRecDepth 100000 in
theorem lifted (os : Os) (started : os.Started) (H : Type) (enc : TypeId × Value → H) :
    ReturnsInHanded {} Try.checked os 5 .any (Rows.curveBackSpec.pre6 enc Try.prog Try.f5 Rows.curveBackRow.domain false) (Rows.curveBackSpec.post enc Try.prog Try.f5 false true false false) := by
  refine returnsInHanded_of_change_sized (C := Try.checked) own started (by kernel_rfl) Try.func5
    (ChangeSpec.witness6 (enc := enc) (C := Try.checked) false ⟨#[], #[.slice none 0 0, .slice none 0 0], []⟩ 8 (by kernel_rfl) (by kernel_rfl) (by kernel_rfl) (by kernel_rfl)) ?_
  intro W base args ds gs before hval0 hW _ hsz0 _
  have hsz : (DataW.weightsEach Try.prog (Try.f5.params.toList ++ Rows.curveBackSpec.plain.varTypes Try.prog) (ds ++ gs)).all (· ≤ reachBytes) = true := hsz0
  have hval : ∀ (j : Nat) t v, Try.f5.params[j]? = some t → args[j]? = some v → Value.okWide Try.prog W .any base t v := hval0
  have hW' := hW
  obtain ⟨p, q, hA0, hV, rfl, hfz, hnd⟩ := hW
  have hA : DataW.TrodAll enc Try.prog W 0 (fun _ => true) true Try.f5.params.toList args.toList ds p := hA0
  rw [Try.params5] at hA hval hsz
  obtain ⟨v0, vs0, d0, ds0, p0, q0, hargs, rfl, rfl, h0, r0⟩ := trodAll_cons hA
  obtain ⟨v1, vs1, d1, ds1, p1, q1, rfl, rfl, rfl, h1, r1⟩ := trodAll_cons r0
  obtain ⟨rfl, rfl, rfl⟩ := trodAll_nil r1
  obtain rfl : args = #[v0, v1] := by cases args; simp_all
  obtain ⟨rfl, rfl⟩ := trodVars_none hV
  obtain ⟨a0, len0, cap0, rfl⟩ := okWide_slice Try.underlying22 (hval 0 22 v0 rfl rfl)
  have k0 := h0
  have lt0 : ∀ x ∈ p0, x.block < W.heap.size := by obtain ⟨m, hm⟩ := k0; exact DataW.trod_lt m _ _ _ hm
  obtain ⟨z0, rfl, w0⟩ := farIn h0 (fun elems spare e => by
    subst e
    have := sized_slice hsz (j := 0) (t := 22) (e := 3) rfl rfl Try.underlying22
    rw [Try.bytes3] at this
    exact this)
  obtain ⟨a1, len1, cap1, rfl⟩ := okWide_slice Try.underlying22 (hval 1 22 v1 rfl rfl)
  have k1 := h1
  have lt1 : ∀ x ∈ p1, x.block < W.heap.size := by obtain ⟨m, hm⟩ := k1; exact DataW.trod_lt m _ _ _ hm
  obtain ⟨z1, rfl, w1⟩ := farIn h1 (fun elems spare e => by
    subst e
    have := sized_slice hsz (j := 1) (t := 22) (e := 3) rfl rfl Try.underlying22
    rw [Try.bytes3] at this
    exact this)
  clear hA0 hval0 hsz0 hsz
  refine (curveBack_walk a0 cap0 z0 a1 cap1 z1 W w0 w1).mono fun e W' ⟨he, bel⟩ => ?_
  subst he
  exact ⟨_, rfl, _, _, _, [], _, [], hW', trodAll_mk1 (shut_bool Try.underlying4 _), (trodAll_cons_mk (Below.trod laidOut (by kernel_rfl) (of_decide_eq_true (by kernel_rfl)) k0 bel lt0) (trodAll_cons_mk (Below.trod laidOut (by kernel_rfl) (of_decide_eq_true (by kernel_rfl)) k1 bel lt1) trodAll_mk0)), rfl, bel.frame _, fun h => by cases h⟩

theorem proved : Rows.CurveBackSaid :=
  OpenClaim.holds_of_wide 5 Try.f5 rfl rfl rfl rfl rfl rfl rfl ⟨rfl, rfl, rfl, rfl, rfl⟩ rfl rfl rfl rfl rfl (by kernel_rfl) Try.func5 (by kernel_rfl)
    (of_decide_eq_true (by kernel_rfl)) (by unfold Func.isWrapper; first | (rw [if_pos (by decide +kernel)]; kernel_rfl) | (rw [if_neg (by decide +kernel)]; exact ⟨rfl, rfl⟩))
    (fun os started H enc _ => lifted os started H enc)

end Go.Proofs.Ytedcbchelliljaa.curveBack
namespace Go.Proofs.Ytedcbchelliljaa
theorem curveBack_holds : Rows.CurveBackSaid := curveBack.proved
#print axioms curveBack_holds
end Go.Proofs.Ytedcbchelliljaa
