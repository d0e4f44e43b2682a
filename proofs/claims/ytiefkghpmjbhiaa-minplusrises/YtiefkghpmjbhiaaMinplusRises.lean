/- PROVED: less comes to less: of two rows one of which is nowhere above, so are the sums with a third one; and sums of curves are curves. CONDITIONS: none. -/
import Derived.Test.YtiefkghpmjbhiaaRises
namespace Go.Proofs.Ytiefkghpmjbhiaa
open Go.RowKit
set_option linter.unusedVariables false

set_option maxHeartbeats 1600000 in
theorem minplusRises_walk (a0 : Option Addr) (cap0 : Nat) (z0 : List Int) (a1 : Option Addr) (cap1 : Nat) (z1 : List Int) (a2 : Option Addr) (cap2 : Nat) (z2 : List Int) (w : World) (h0 : FarIn w a0 cap0 z0) (h1 : FarIn w a1 cap1 z1) (h2 : FarIn w a2 cap2 z2) :
    Calls Try.prog 8 #[.slice a0 z0.length cap0, .slice a1 z1.length cap1, .slice a2 z2.length cap2] w fun e w' => e = .returned (.bool true) ∧ Below w.heap.size w w' := by
  obtain ⟨r0, l0, _, _⟩ := h0
  obtain ⟨r1, l1, c1, _⟩ := h1
  obtain ⟨r2, l2, _, _⟩ := h2
  have bl := both_len lowr z0 z1
  have tl : (z1.take (min z0.length z1.length)).length = min z0.length z1.length := by rw [List.length_take]; omega
  have rG := r1.take (min z0.length z1.length)
  have hb : below (both lowr z0 z1) (z1.take (min z0.length z1.length)) := fun t ht => by
    have := lower_right z0 z1 t (by omega)
    rw [take_getD _ _ _ (by omega)]
    exact this
  have hXY := decide_eq_true (conv_rises (both lowr z0 z1) (z1.take (min z0.length z1.length)) z2 (by omega) hb)
  by_cases q0 : right z0
  · by_cases q1 : right z1
    · exact rises2 a0 cap0 _ z0 a1 cap1 _ z1 a2 cap2 _ z2 w r0 r1 r2 rfl rfl rfl (by omega) (by omega) (by omega) c1 _ _ rfl rfl (by omega) (by omega) (by omega) _ _ _ _ _ rfl bl rG tl rfl rfl (by rw [conv_len, bl]) (by rw [conv_len, tl]) hXY rfl (conv_len _ _)
        (decide_eq_true q0) (decide_eq_true q1) (decide_eq_true (right_conv q0 q1)) (decide_eq_true (conv_lowest q0 q1))
    · exact rises1 a0 cap0 _ z0 a1 cap1 _ z1 a2 cap2 _ z2 w r0 r1 r2 rfl rfl rfl (by omega) (by omega) (by omega) c1 _ _ rfl rfl (by omega) (by omega) (by omega) _ _ _ _ _ rfl bl rG tl rfl rfl (by rw [conv_len, bl]) (by rw [conv_len, tl]) hXY rfl (conv_len _ _)
        (decide_eq_true q0) (decide_eq_false q1)
  · exact rises0 a0 cap0 _ z0 a1 cap1 _ z1 a2 cap2 _ z2 w r0 r1 r2 rfl rfl rfl (by omega) (by omega) (by omega) c1 _ _ rfl rfl (by omega) (by omega) (by omega) _ _ _ _ _ rfl bl rG tl rfl rfl (by rw [conv_len, bl]) (by rw [conv_len, tl]) hXY rfl (conv_len _ _)
      (decide_eq_false q0)

end Go.Proofs.Ytiefkghpmjbhiaa
namespace Go.Proofs.Ytiefkghpmjbhiaa.minplusRises
open Go.ChangeShapes Go.WideShapes Go.ChangeAt Go.RowKit
set_option linter.unusedVariables false

set_option maxRecDepth 100000 in
theorem lifted (os : Os) (started : os.Started) (H : Type) (enc : TypeId × Value → H) :
    ReturnsInHanded {} Try.checked os 8 .any (Rows.minplusRisesSpec.pre6 enc Try.prog Try.f8 Rows.minplusRisesRow.domain false) (Rows.minplusRisesSpec.post enc Try.prog Try.f8 false true false false) := by
  refine returnsInHanded_of_change_sized (C := Try.checked) own started (by kernel_rfl) Try.func8
    (ChangeSpec.witness6 (enc := enc) (C := Try.checked) false ⟨#[], #[.slice none 0 0, .slice none 0 0, .slice none 0 0], []⟩ 8 (by kernel_rfl) (by kernel_rfl) (by kernel_rfl) (by kernel_rfl)) ?_
  intro W base args ds gs before hval0 hW _ hsz0 _
  have hsz : (DataW.weightsEach Try.prog (Try.f8.params.toList ++ Rows.minplusRisesSpec.plain.varTypes Try.prog) (ds ++ gs)).all (· ≤ reachBytes) = true := hsz0
  have hval : ∀ (j : Nat) t v, Try.f8.params[j]? = some t → args[j]? = some v → Value.okWide Try.prog W .any base t v := hval0
  have hW' := hW
  obtain ⟨p, q, hA0, hV, rfl, hfz, hnd⟩ := hW
  have hA : DataW.TrodAll enc Try.prog W 0 (fun _ => true) true Try.f8.params.toList args.toList ds p := hA0
  rw [Try.params8] at hA hval hsz
  obtain ⟨v0, vs0, d0, ds0, p0, q0, hargs, rfl, rfl, h0, r0⟩ := trodAll_cons hA
  obtain ⟨v1, vs1, d1, ds1, p1, q1, rfl, rfl, rfl, h1, r1⟩ := trodAll_cons r0
  obtain ⟨v2, vs2, d2, ds2, p2, q2, rfl, rfl, rfl, h2, r2⟩ := trodAll_cons r1
  obtain ⟨rfl, rfl, rfl⟩ := trodAll_nil r2
  obtain rfl : args = #[v0, v1, v2] := by cases args; simp_all
  obtain ⟨rfl, rfl⟩ := trodVars_none hV
  obtain ⟨a0, len0, cap0, rfl⟩ := okWide_slice Try.underlying22 (hval 0 22 v0 rfl rfl)
  have k0 := h0
  have lt0 : ∀ x ∈ p0, x.block < W.heap.size := by obtain ⟨m, hm⟩ := k0; exact DataW.trod_lt m _ _ _ hm
  obtain ⟨z0, rfl, w0⟩ := farIn h0 (fun elems spare e => by
    subst e
    have := sized_slice hsz (j := 0) (t := 22) (e := 3) rfl rfl Try.underlying22
    rw [Try.bytes3] at this
    exact this)
  obtain ⟨a1, len1, cap1, rfl⟩ := okWide_slice Try.underlying22 (hval 1 22 v1 rfl rfl)
  have k1 := h1
  have lt1 : ∀ x ∈ p1, x.block < W.heap.size := by obtain ⟨m, hm⟩ := k1; exact DataW.trod_lt m _ _ _ hm
  obtain ⟨z1, rfl, w1⟩ := farIn h1 (fun elems spare e => by
    subst e
    have := sized_slice hsz (j := 1) (t := 22) (e := 3) rfl rfl Try.underlying22
    rw [Try.bytes3] at this
    exact this)
  obtain ⟨a2, len2, cap2, rfl⟩ := okWide_slice Try.underlying22 (hval 2 22 v2 rfl rfl)
  have k2 := h2
  have lt2 : ∀ x ∈ p2, x.block < W.heap.size := by obtain ⟨m, hm⟩ := k2; exact DataW.trod_lt m _ _ _ hm
  obtain ⟨z2, rfl, w2⟩ := farIn h2 (fun elems spare e => by
    subst e
    have := sized_slice hsz (j := 2) (t := 22) (e := 3) rfl rfl Try.underlying22
    rw [Try.bytes3] at this
    exact this)
  clear hA0 hval0 hsz0 hsz
  refine (minplusRises_walk a0 cap0 z0 a1 cap1 z1 a2 cap2 z2 W w0 w1 w2).mono fun e W' ⟨he, bel⟩ => ?_
  subst he
  exact ⟨_, rfl, _, _, _, [], _, [], hW', trodAll_mk1 (shut_bool Try.underlying4 _), (trodAll_cons_mk (Below.trod laidOut (by kernel_rfl) (of_decide_eq_true (by kernel_rfl)) k0 bel lt0) (trodAll_cons_mk (Below.trod laidOut (by kernel_rfl) (of_decide_eq_true (by kernel_rfl)) k1 bel lt1) (trodAll_cons_mk (Below.trod laidOut (by kernel_rfl) (of_decide_eq_true (by kernel_rfl)) k2 bel lt2) trodAll_mk0))), rfl, bel.frame _, fun h => by cases h⟩

theorem proved : Rows.MinplusRisesSaid :=
  OpenClaim.holds_of_wide 8 Try.f8 rfl rfl rfl rfl rfl rfl rfl ⟨rfl, rfl, rfl, rfl, rfl⟩ rfl rfl rfl rfl rfl (by kernel_rfl) Try.func8 (by kernel_rfl)
    (of_decide_eq_true (by kernel_rfl)) (by unfold Func.isWrapper; first | (rw [if_pos (by decide +kernel)]; kernel_rfl) | (rw [if_neg (by decide +kernel)]; exact ⟨rfl, rfl⟩))
    (fun os started H enc _ => lifted os started H enc)

end Go.Proofs.Ytiefkghpmjbhiaa.minplusRises
namespace Go.Proofs.Ytiefkghpmjbhiaa
theorem minplusRises_holds : Rows.MinplusRisesSaid := minplusRises.proved
#print axioms minplusRises_holds
end Go.Proofs.Ytiefkghpmjbhiaa
