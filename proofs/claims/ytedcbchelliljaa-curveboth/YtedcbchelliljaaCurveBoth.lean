/- PROVED: Within, Lower and Sum answer what the document says, at every two rows. CONDITIONS: none. -/
import Derived.Test.YtedcbchelliljaaFar
import Derived.Test.YtedcbchelliljaaJoin
import Derived.Test.YtedcbchelliljaaWithin
import Derived.Test.YtedcbchelliljaaDBoth
import Derived.Test.YtedcbchelliljaaDWithin
namespace Go.Proofs.Ytedcbchelliljaa
open Go.RowKit
set_option linter.unusedVariables false

theorem equal_rows (a1 a2 : Option Addr) (c1 c2 : Nat) (xs : List Int) (w : World) (h1 : Row w a1 xs) (h2 : Row w a2 xs) (b1 : xs.length ≤ 17592186044416) :
    Calls Try.prog 8 #[.slice a1 xs.length c1, .slice a2 xs.length c2] w fun e w' => e = .returned (.bool true) ∧ ∃ q, w' = w.drewN q :=
  equal_at a1 a2 c1 c2 xs.length xs w h1 h2 rfl (by omega)

theorem counted_min (f g : List Int) : both (counted min) f g = both lowr f g :=
  outs_ext fun j _ => by unfold counted lowr; rw [fit_min]
theorem counted_plus (f g : List Int) : both (counted plus) f g = both plus f g :=
  outs_ext fun j _ => by unfold counted; rw [plus_fit]

set_option maxHeartbeats 1600000 in
theorem curveBoth_walk (a0 : Option Addr) (cap0 : Nat) (z0 : List Int) (a1 : Option Addr) (cap1 : Nat) (z1 : List Int) (w : World) (h0 : FarIn w a0 cap0 z0) (h1 : FarIn w a1 cap1 z1) :
    Calls Try.prog 4 #[.slice a0 z0.length cap0, .slice a1 z1.length cap1] w fun e w' => e = .returned (.bool true) ∧ Below w.heap.size w w' := by
  obtain ⟨r0, l0, _, _⟩ := h0
  obtain ⟨r1, l1, _, _⟩ := h1
  have s1 := fun u (hu : Row u a0 z0) (hv : Row u a1 z1) => within_any a0 a1 cap0 cap1 z0 z1 (by omega) (by omega) u hu hv
  have s2 := fun u (hu : Row u a0 z0) (hv : Row u a1 z1) => dwithin_any a0 a1 cap0 cap1 z0 z1 (by omega) (by omega) u hu hv
  have s3 := fun u (hu : Row u a0 z0) (hv : Row u a1 z1) => lower_any a0 a1 cap0 cap1 z0 z1 (by omega) (by omega) u hu hv
  have s4 := fun u (hu : Row u a0 z0) (hv : Row u a1 z1) => dboth_any 21 min (enters_of Try.func21 (by kernel_rfl) rfl) min_any a0 a1 cap0 cap1 z0 z1 (by omega) (by omega) u hu hv
  have s5 := fun u (hu : Row u a0 z0) (hv : Row u a1 z1) => sum_any a0 a1 cap0 cap1 z0 z1 (by omega) (by omega) u hu hv
  have s6 := fun u (hu : Row u a0 z0) (hv : Row u a1 z1) => dboth_any 23 plus (enters_of Try.func23 (by kernel_rfl) rfl) rplus_any a0 a1 cap0 cap1 z0 z1 (by omega) (by omega) u hu hv
  simp only [counted_min] at s4
  simp only [counted_plus] at s6
  have hl1 : (both lowr z0 z1).length ≤ 17592186044416 := by rw [both_len]; omega
  have hl2 : (both plus z0 z1).length ≤ 17592186044416 := by rw [both_len]; omega
  generalize both lowr z0 z1 = R at s3 s4 hl1
  generalize both plus z0 z1 = S at s5 s6 hl2
  generalize decide (below z0 z1) = bb at s1 s2
  go_enter Try.func4, Try.ntmps4
  go_wp2_with (first
    | (go_at_call 17; refine (s1 _ r0 r1).mono ?_; rintro e v1 ⟨rfl, b1⟩; have p0 := r0.kept b1; have p1 := r1.kept b1; clear r0 r1 s1)
    | (go_at_call 18; refine (s2 _ p0 p1).mono ?_; rintro e v2 ⟨rfl, b2⟩; have q0 := p0.kept b2; have q1 := p1.kept b2; have B2 := bthen b1 b2; clear p0 p1 b1 b2 s2)
    | (go_at_call 19; refine (s3 _ q0 q1).mono ?_; rintro e v3 ⟨x3, c3, rfl, _, r3, b3⟩; have m0 := q0.kept b3; have m1 := q1.kept b3; have B3 := bthen B2 b3; clear q0 q1 B2 b3 s3)
    | (go_at_call 20; refine (s4 _ m0 m1).mono ?_; rintro e v4 ⟨x4, c4, rfl, _, r4, b4⟩; have n0 := m0.kept b4; have n1 := m1.kept b4; have n3 := r3.kept b4; have B4 := bthen B3 b4; clear m0 m1 r3 B3 b4 s4)
    | (go_at_call 8; refine (equal_rows _ _ _ _ R _ n3 r4 hl1).mono ?_; rintro e v5 ⟨rfl, d5, rfl⟩; clear n3 r4)
    | (go_at_call 22; refine (s5 _ (n0.drewN _) (n1.drewN _)).mono ?_; rintro e v6 ⟨x6, c6, rfl, _, r6, b6⟩; have o0 := (n0.drewN _).kept b6; have o1 := (n1.drewN _).kept b6; have B6 := bthen (below_drewN B4 _) b6; clear n0 n1 B4 b6 s5)
    | (go_at_call 20; refine (s6 _ o0 o1).mono ?_; rintro e v7 ⟨x7, c7, rfl, _, r7, b7⟩; have t6 := r6.kept b7; have B7 := bthen B6 b7; clear o0 o1 r6 B6 b7 s6)
    | (go_at_call 8; refine (equal_rows _ _ _ _ S _ t6 r7 hl2).mono ?_; rintro e v8 ⟨rfl, d8, rfl⟩; clear t6 r7))
  go_ret
  exact ⟨by simp, below_drewN B7 _⟩

end Go.Proofs.Ytedcbchelliljaa
namespace Go.Proofs.Ytedcbchelliljaa.curveBoth
open Go.ChangeShapes Go.WideShapes Go.ChangeAt Go.RowKit
set_option linter.unusedVariables false

set_option maxRecDepth 100000 in
theorem lifted (os : Os) (started : os.Started) (H : Type) (enc : TypeId × Value → H) :
    ReturnsInHanded {} Try.checked os 4 .any (Rows.curveBothSpec.pre6 enc Try.prog Try.f4 Rows.curveBothRow.domain false) (Rows.curveBothSpec.post enc Try.prog Try.f4 false true false false) := by
  refine returnsInHanded_of_change_sized (C := Try.checked) own started (by kernel_rfl) Try.func4
    (ChangeSpec.witness6 (enc := enc) (C := Try.checked) false ⟨#[], #[.slice none 0 0, .slice none 0 0], []⟩ 8 (by kernel_rfl) (by kernel_rfl) (by kernel_rfl) (by kernel_rfl)) ?_
  intro W base args ds gs before hval0 hW _ hsz0 _
  have hsz : (DataW.weightsEach Try.prog (Try.f4.params.toList ++ Rows.curveBothSpec.plain.varTypes Try.prog) (ds ++ gs)).all (· ≤ reachBytes) = true := hsz0
  have hval : ∀ (j : Nat) t v, Try.f4.params[j]? = some t → args[j]? = some v → Value.okWide Try.prog W .any base t v := hval0
  have hW' := hW
  obtain ⟨p, q, hA0, hV, rfl, hfz, hnd⟩ := hW
  have hA : DataW.TrodAll enc Try.prog W 0 (fun _ => true) true Try.f4.params.toList args.toList ds p := hA0
  rw [Try.params4] at hA hval hsz
  obtain ⟨v0, vs0, d0, ds0, p0, q0, hargs, rfl, rfl, h0, r0⟩ := trodAll_cons hA
  obtain ⟨v1, vs1, d1, ds1, p1, q1, rfl, rfl, rfl, h1, r1⟩ := trodAll_cons r0
  obtain ⟨rfl, rfl, rfl⟩ := trodAll_nil r1
  obtain rfl : args = #[v0, v1] := by cases args; simp_all
  obtain ⟨rfl, rfl⟩ := trodVars_none hV
  obtain ⟨a0, len0, cap0, rfl⟩ := okWide_slice Try.underlying22 (hval 0 22 v0 rfl rfl)
  have k0 := h0
  have lt0 : ∀ x ∈ p0, x.block < W.heap.size := by obtain ⟨m, hm⟩ := k0; exact DataW.trod_lt m _ _ _ hm
  obtain ⟨z0, rfl, w0⟩ := farIn h0 (fun elems spare e => by
    subst e
    have := sized_slice hsz (j := 0) (t := 22) (e := 3) rfl rfl Try.underlying22
    rw [Try.bytes3] at this
    exact this)
  obtain ⟨a1, len1, cap1, rfl⟩ := okWide_slice Try.underlying22 (hval 1 22 v1 rfl rfl)
  have k1 := h1
  have lt1 : ∀ x ∈ p1, x.block < W.heap.size := by obtain ⟨m, hm⟩ := k1; exact DataW.trod_lt m _ _ _ hm
  obtain ⟨z1, rfl, w1⟩ := farIn h1 (fun elems spare e => by
    subst e
    have := sized_slice hsz (j := 1) (t := 22) (e := 3) rfl rfl Try.underlying22
    rw [Try.bytes3] at this
    exact this)
  clear hA0 hval0 hsz0 hsz
  refine (curveBoth_walk a0 cap0 z0 a1 cap1 z1 W w0 w1).mono fun e W' ⟨he, bel⟩ => ?_
  subst he
  exact ⟨_, rfl, _, _, _, [], _, [], hW', trodAll_mk1 (shut_bool Try.underlying4 _), (trodAll_cons_mk (Below.trod laidOut (by kernel_rfl) (of_decide_eq_true (by kernel_rfl)) k0 bel lt0) (trodAll_cons_mk (Below.trod laidOut (by kernel_rfl) (of_decide_eq_true (by kernel_rfl)) k1 bel lt1) trodAll_mk0)), rfl, bel.frame _, fun h => by cases h⟩

theorem proved : Rows.CurveBothSaid :=
  OpenClaim.holds_of_wide 4 Try.f4 rfl rfl rfl rfl rfl rfl rfl ⟨rfl, rfl, rfl, rfl, rfl⟩ rfl rfl rfl rfl rfl (by kernel_rfl) Try.func4 (by kernel_rfl)
    (of_decide_eq_true (by kernel_rfl)) (by unfold Func.isWrapper; first | (rw [if_pos (by decide +kernel)]; kernel_rfl) | (rw [if_neg (by decide +kernel)]; exact ⟨rfl, rfl⟩))
    (fun os started H enc _ => lifted os started H enc)

end Go.Proofs.Ytedcbchelliljaa.curveBoth
namespace Go.Proofs.Ytedcbchelliljaa
theorem curveBoth_holds : Rows.CurveBothSaid := curveBoth.proved
#print axioms curveBoth_holds
end Go.Proofs.Ytedcbchelliljaa
