/- PROVED: what is over is what lacks: what f has over g is nowhere above h, if, and only if, f is nowhere above what g and h come to, where no number but Inf is above Most. CONDITIONS: none. -/
import Derived.Test.YtiefkghpmjbhiaaLacks
namespace Go.Proofs.Ytiefkghpmjbhiaa
open Go.RowKit
set_option linter.unusedVariables false

set_option maxHeartbeats 1600000 in
theorem minplusOver_walk (a0 : Option Addr) (cap0 : Nat) (z0 : List Int) (a1 : Option Addr) (cap1 : Nat) (z1 : List Int) (a2 : Option Addr) (cap2 : Nat) (z2 : List Int) (w : World) (h0 : FarIn w a0 cap0 z0) (h1 : FarIn w a1 cap1 z1) (h2 : FarIn w a2 cap2 z2) :
    Calls Try.prog 6 #[.slice a0 z0.length cap0, .slice a1 z1.length cap1, .slice a2 z2.length cap2] w fun e w' => e = .returned (.bool true) ∧ Below w.heap.size w w' := by
  obtain ⟨r0, l0, k0, _⟩ := h0
  obtain ⟨r1, l1, _, _⟩ := h1
  obtain ⟨r2, l2, _, _⟩ := h2
  by_cases q1 : z0.length = z1.length
  · by_cases q2 : z1.length = z2.length
    · obtain ⟨n, e0⟩ : ∃ n, z0.length = n := ⟨_, rfl⟩
      have e1 : z1.length = n := by omega
      have e2 : z2.length = n := by omega
      rw [e0, e1, e2]
      exact over_go a0 cap0 z0 a1 cap1 z1 a2 cap2 z2 w r0 r1 r2 n e0 e1 e2 (by omega) (by omega) (over z0 z1) (conv z1 z2) rfl rfl (by rw [over_len, e0]) (by rw [conv_len]; omega) (fun hA => by
        have hL := over_lacks z0 z1 z2 n e0 e1 e2 (hA 0 (by omega)) (hA 1 (by omega)) (hA 2 (by omega))
        rw [Bool.eq_iff_iff, decide_eq_true_iff, decide_eq_true_iff]
        exact hL)
    · rw [q1]
      have d2 : ¬ (z1.length : Int) = (z2.length : Int) := by omega
      clear l0 l1 l2 r0 r1 r2 q1 q2
      go_enter Try.func6, Try.ntmps6
      go_wp2_with (go_at_call 20; refine (alive_any _).mono ?_; rintro e v1 ⟨rfl, b1⟩)
      go_ret
      exact ⟨rfl, b1⟩
  · have d1 : ¬ (z0.length : Int) = (z1.length : Int) := by omega
    clear l0 l1 l2 r0 r1 r2 q1
    go_enter Try.func6, Try.ntmps6
    go_wp2_with (go_at_call 20; refine (alive_any _).mono ?_; rintro e v1 ⟨rfl, b1⟩)
    go_ret
    exact ⟨rfl, b1⟩

end Go.Proofs.Ytiefkghpmjbhiaa
namespace Go.Proofs.Ytiefkghpmjbhiaa.minplusOver
open Go.ChangeShapes Go.WideShapes Go.ChangeAt Go.RowKit
set_option linter.unusedVariables false

set_option maxRecDepth 100000 in
theorem lifted (os : Os) (started : os.Started) (H : Type) (enc : TypeId × Value → H) :
    ReturnsInHanded {} Try.checked os 6 .any (Rows.minplusOverSpec.pre6 enc Try.prog Try.f6 Rows.minplusOverRow.domain false) (Rows.minplusOverSpec.post enc Try.prog Try.f6 false true false false) := by
  refine returnsInHanded_of_change_sized (C := Try.checked) own started (by kernel_rfl) Try.func6
    (ChangeSpec.witness6 (enc := enc) (C := Try.checked) false ⟨#[], #[.slice none 0 0, .slice none 0 0, .slice none 0 0], []⟩ 8 (by kernel_rfl) (by kernel_rfl) (by kernel_rfl) (by kernel_rfl)) ?_
  intro W base args ds gs before hval0 hW _ hsz0 _
  have hsz : (DataW.weightsEach Try.prog (Try.f6.params.toList ++ Rows.minplusOverSpec.plain.varTypes Try.prog) (ds ++ gs)).all (· ≤ reachBytes) = true := hsz0
  have hval : ∀ (j : Nat) t v, Try.f6.params[j]? = some t → args[j]? = some v → Value.okWide Try.prog W .any base t v := hval0
  have hW' := hW
  obtain ⟨p, q, hA0, hV, rfl, hfz, hnd⟩ := hW
  have hA : DataW.TrodAll enc Try.prog W 0 (fun _ => true) true Try.f6.params.toList args.toList ds p := hA0
  rw [Try.params6] at hA hval hsz
  obtain ⟨v0, vs0, d0, ds0, p0, q0, hargs, rfl, rfl, h0, r0⟩ := trodAll_cons hA
  obtain ⟨v1, vs1, d1, ds1, p1, q1, rfl, rfl, rfl, h1, r1⟩ := trodAll_cons r0
  obtain ⟨v2, vs2, d2, ds2, p2, q2, rfl, rfl, rfl, h2, r2⟩ := trodAll_cons r1
  obtain ⟨rfl, rfl, rfl⟩ := trodAll_nil r2
  obtain rfl : args = #[v0, v1, v2] := by cases args; simp_all
  obtain ⟨rfl, rfl⟩ := trodVars_none hV
  obtain ⟨a0, len0, cap0, rfl⟩ := okWide_slice Try.underlying22 (hval 0 22 v0 rfl rfl)
  have k0 := h0
  have lt0 : ∀ x ∈ p0, x.block < W.heap.size := by obtain ⟨m, hm⟩ := k0; exact DataW.trod_lt m _ _ _ hm
  obtain ⟨z0, rfl, w0⟩ := farIn h0 (fun elems spare e => by
    subst e
    have := sized_slice hsz (j := 0) (t := 22) (e := 3) rfl rfl Try.underlying22
    rw [Try.bytes3] at this
    exact this)
  obtain ⟨a1, len1, cap1, rfl⟩ := okWide_slice Try.underlying22 (hval 1 22 v1 rfl rfl)
  have k1 := h1
  have lt1 : ∀ x ∈ p1, x.block < W.heap.size := by obtain ⟨m, hm⟩ := k1; exact DataW.trod_lt m _ _ _ hm
  obtain ⟨z1, rfl, w1⟩ := farIn h1 (fun elems spare e => by
    subst e
    have := sized_slice hsz (j := 1) (t := 22) (e := 3) rfl rfl Try.underlying22
    rw [Try.bytes3] at this
    exact this)
  obtain ⟨a2, len2, cap2, rfl⟩ := okWide_slice Try.underlying22 (hval 2 22 v2 rfl rfl)
  have k2 := h2
  have lt2 : ∀ x ∈ p2, x.block < W.heap.size := by obtain ⟨m, hm⟩ := k2; exact DataW.trod_lt m _ _ _ hm
  obtain ⟨z2, rfl, w2⟩ := farIn h2 (fun elems spare e => by
    subst e
    have := sized_slice hsz (j := 2) (t := 22) (e := 3) rfl rfl Try.underlying22
    rw [Try.bytes3] at this
    exact this)
  clear hA0 hval0 hsz0 hsz
  refine (minplusOver_walk a0 cap0 z0 a1 cap1 z1 a2 cap2 z2 W w0 w1 w2).mono fun e W' ⟨he, bel⟩ => ?_
  subst he
  exact ⟨_, rfl, _, _, _, [], _, [], hW', trodAll_mk1 (shut_bool Try.underlying4 _), (trodAll_cons_mk (Below.trod laidOut (by kernel_rfl) (of_decide_eq_true (by kernel_rfl)) k0 bel lt0) (trodAll_cons_mk (Below.trod laidOut (by kernel_rfl) (of_decide_eq_true (by kernel_rfl)) k1 bel lt1) (trodAll_cons_mk (Below.trod laidOut (by kernel_rfl) (of_decide_eq_true (by kernel_rfl)) k2 bel lt2) trodAll_mk0))), rfl, bel.frame _, fun h => by cases h⟩

theorem proved : Rows.MinplusOverSaid :=
  OpenClaim.holds_of_wide 6 Try.f6 rfl rfl rfl rfl rfl rfl rfl ⟨rfl, rfl, rfl, rfl, rfl⟩ rfl rfl rfl rfl rfl (by kernel_rfl) Try.func6 (by kernel_rfl)
    (of_decide_eq_true (by kernel_rfl)) (by unfold Func.isWrapper; first | (rw [if_pos (by decide +kernel)]; kernel_rfl) | (rw [if_neg (by decide +kernel)]; exact ⟨rfl, rfl⟩))
    (fun os started H enc _ => lifted os started H enc)

end Go.Proofs.Ytiefkghpmjbhiaa.minplusOver
namespace Go.Proofs.Ytiefkghpmjbhiaa
theorem minplusOver_holds : Rows.MinplusOverSaid := minplusOver.proved
#print axioms minplusOver_holds
end Go.Proofs.Ytiefkghpmjbhiaa
