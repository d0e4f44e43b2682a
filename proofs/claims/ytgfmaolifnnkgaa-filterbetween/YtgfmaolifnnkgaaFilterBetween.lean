/- PROVED: for every row of numbers and every shift FilterBetween returns true, and the row reads as before. CONDITIONS: none. -/
import Derived.Test.YtgfmaolifnnkgaaAlive
import Derived.Test.YtgfmaolifnnkgaaFar
namespace Go.Proofs.Ytgfmaolifnnkgaa
open Go.RowKit
set_option linter.unusedVariables false

set_option maxHeartbeats 1600000 in
theorem filterBetween_walk (a0 : Option Addr) (cap0 : Nat) (z0 : List Int) (a1 : Int) (w : World) (h0 : FarIn w a0 z0) (w1 : -9223372036854775808 ≤ a1 ∧ a1 ≤ 9223372036854775807) :
    Calls Try.prog 4 #[.slice a0 z0.length cap0, .int .i64 a1] w fun e w' => e = .returned (.bool true) ∧ Below w.heap.size w w' := by
  obtain ⟨hz, hl, hfit⟩ := h0
  cases h : okS a1 with
  | false =>
    have hE := smooth_no (zs := z0) h
    have hS := fun w2 (hz2 : Row w2 a0 z0) => smooth_any a0 cap0 z0 a1 w2 hz2 (by omega)
    rw [hE] at hS
    rcases okS_not h with h | h
    · have d1 : decide (a1 < 0) = true := decide_eq_true h
      go_enter Try.func4, Try.ntmps4
      go_wp2_with (first
        | (go_at_call 12; refine (alive_any _).mono ?_; rintro e w1 ⟨rfl, b1⟩; have hz1 := hz.kept b1; clear hz)
        | (go_at_call 8; refine (hS _ hz1).mono ?_; rintro e w2 ⟨ao2, cap2, rfl, hr2, b2⟩; have b3 := bthen b1 b2; clear b1 b2))
      go_ret
      exact ⟨rfl, b3⟩
    · have d1 : decide (a1 < 0) = false := decide_eq_false (by omega)
      have d2 : decide (16 < a1) = true := decide_eq_true h
      go_enter Try.func4, Try.ntmps4
      go_wp2_with (first
        | (go_at_call 12; refine (alive_any _).mono ?_; rintro e w1 ⟨rfl, b1⟩; have hz1 := hz.kept b1; clear hz)
        | (go_at_call 8; refine (hS _ hz1).mono ?_; rintro e w2 ⟨ao2, cap2, rfl, hr2, b2⟩; have b3 := bthen b1 b2; clear b1 b2))
      go_ret
      exact ⟨rfl, b3⟩
  | true =>
    obtain ⟨g0, g1⟩ := okS_of h
    have hT := smooth_told z0 a1
    have hn := smooth_len (zs := z0) h
    have hS := fun w2 (hz2 : Row w2 a0 z0) => smooth_any a0 cap0 z0 a1 w2 hz2 (by omega)
    generalize smooth z0 a1 = R at hT hn hS
    rw [hn] at hT
    have hN := pw_pos a1
    generalize pw a1 = N at hT hN
    have d1 : decide (a1 < 0) = false := decide_eq_false (by omega)
    have d2 : decide (16 < a1) = false := decide_eq_false (by omega)
    go_enter Try.func4, Try.ntmps4
    go_wp2_with (first
      | (go_at_call 12; refine (alive_any _).mono ?_; rintro e w1 ⟨rfl, b1⟩; have hz1 := hz.kept b1; clear hz)
      | (go_at_call 8; refine (hS _ hz1).mono ?_; rintro e w2 ⟨ao2, cap2, he, hr2, b2⟩; rw [hn] at he; subst he; have hz2 := hz1.kept b2; have b3 := bthen b1 b2; clear b1 b2 hz1 hS))
    go_loopw [6, 7, 31] (fun lo hi i wr => ∃ (k : Nat) (lo' hi' : Int), k ≤ z0.length ∧ i = .int .i64 k ∧ lo = .int .i64 lo' ∧ hi = .int .i64 hi' ∧ Btw N (fun j => z0.getD j 0) k lo' hi' ∧ wr = w2) (fun _ _ i _ => z0.length - (intOf i).toNat)
    case atStart => exact ⟨0, _, _, Nat.zero_le _, rfl, rfl, rfl, Btw.start _ _, rfl⟩
    case round =>
      obtain ⟨k, lo, hi, hkn, rfl, rfl, rfl, hB, rfl⟩ := hrel
      by_cases hlt : k < z0.length
      · obtain ⟨g, off, rfl, hcz⟩ := hz2.at (by omega)
        obtain ⟨g2, off2, rfl, hc2⟩ := hr2.at (by omega)
        have hx := hcz k hlt
        have hy := hc2 k (by omega)
        rw [hT k hlt] at hy
        have hB1 := hB.step hN
        have hB2 := hB1.told
        have cl := cnt_lo (z0.getD k 0)
        have ch := cnt_hi (z0.getD k 0)
        have hfc := fit_cnt (z0.getD k 0)
        generalize told N (fun j => z0.getD j 0) k = t at hy hB2
        generalize z0.getD k 0 = x at hx hB1 hB2 cl ch hfc
        generalize cnt x = c at hB1 hB2 cl ch hfc
        obtain ⟨lo1, hlo1⟩ : ∃ l, min lo c = l := ⟨_, rfl⟩
        obtain ⟨hi1, hhi1⟩ : ∃ l, max hi c = l := ⟨_, rfl⟩
        rw [hlo1, hhi1] at hB1 hB2
        have t1 : decide (t < lo1) = false := decide_eq_false (by omega)
        have t2 : decide (hi1 < t) = false := decide_eq_false (by omega)
        clear hcz hc2 hz2 hr2 hT hB hB2
        go_wp2_with (go_at_call 13; refine (fit_any _ _).mono ?_; rintro e wr ⟨rfl, rfl⟩)
        go_roundw
        case rel => exact ⟨k + 1, lo1, hi1, by omega, by go_num, rfl, rfl, hB1, by first | rfl | trivial⟩
        case measure => simp [intOf]; omega
      · have e : k = z0.length := by omega
        subst e
        go_wp2
        go_ret
        exact ⟨rfl, b3⟩

end Go.Proofs.Ytgfmaolifnnkgaa
namespace Go.Proofs.Ytgfmaolifnnkgaa.filterBetween
open Go.ChangeShapes Go.WideShapes Go.ChangeAt Go.RowKit
set_option linter.unusedVariables false

set_option maxRecDepth 100000 in
theorem lifted (os : Os) (started : os.Started) (H : Type) (enc : TypeId × Value → H) :
    ReturnsInHanded {} Try.checked os 4 .any (Rows.filterBetweenSpec.pre6 enc Try.prog Try.f4 Rows.filterBetweenRow.domain false) (Rows.filterBetweenSpec.post enc Try.prog Try.f4 false true false false) := by
  refine returnsInHanded_of_change_sized (C := Try.checked) own started (by kernel_rfl) Try.func4
    (ChangeSpec.witness6 (enc := enc) (C := Try.checked) false ⟨#[], #[.slice none 0 0, .int .i64 0], []⟩ 8 (by kernel_rfl) (by kernel_rfl) (by kernel_rfl) (by kernel_rfl)) ?_
  intro W base args ds gs before hval0 hW _ hsz0 _
  have hsz : (DataW.weightsEach Try.prog (Try.f4.params.toList ++ Rows.filterBetweenSpec.plain.varTypes Try.prog) (ds ++ gs)).all (· ≤ reachBytes) = true := hsz0
  have hval : ∀ (j : Nat) t v, Try.f4.params[j]? = some t → args[j]? = some v → Value.okWide Try.prog W .any base t v := hval0
  have hW' := hW
  obtain ⟨p, q, hA0, hV, rfl, hfz, hnd⟩ := hW
  have hA : DataW.TrodAll enc Try.prog W 0 (fun _ => true) true Try.f4.params.toList args.toList ds p := hA0
  rw [Try.params4] at hA hval hsz
  obtain ⟨v0, vs0, d0, ds0, p0, q0, hargs, rfl, rfl, h0, r0⟩ := trodAll_cons hA
  obtain ⟨v1, vs1, d1, ds1, p1, q1, rfl, rfl, rfl, h1, r1⟩ := trodAll_cons r0
  obtain ⟨rfl, rfl, rfl⟩ := trodAll_nil r1
  obtain rfl : args = #[v0, v1] := by cases args; simp_all
  obtain ⟨rfl, rfl⟩ := trodVars_none hV
  obtain ⟨a0, len0, cap0, rfl⟩ := okWide_slice Try.underlying22 (hval 0 22 v0 rfl rfl)
  have k0 := h0
  have lt0 : ∀ x ∈ p0, x.block < W.heap.size := by obtain ⟨m, hm⟩ := k0; exact DataW.trod_lt m _ _ _ hm
  obtain ⟨z0, rfl, w0⟩ := farIn h0 (fun elems spare e => by
    subst e
    have := sized_slice hsz (j := 0) (t := 22) (e := 3) rfl rfl Try.underlying22
    rw [Try.bytes3] at this
    exact this)
  obtain ⟨a1, rfl, rfl, rfl, w1⟩ := open_int Try.underlying3 (hval 1 3 v1 rfl rfl) h1
  clear hA0 hval0 hsz0 hsz
  refine (filterBetween_walk a0 cap0 z0 a1 W w0 (fits w1)).mono fun e W' ⟨he, bel⟩ => ?_
  subst he
  exact ⟨_, rfl, _, _, _, [], _, [], hW', trodAll_mk1 (shut_bool Try.underlying4 _), (trodAll_cons_mk (Below.trod laidOut (by kernel_rfl) (of_decide_eq_true (by kernel_rfl)) k0 bel lt0) (trodAll_cons_mk (shut_int Try.underlying3 w1) trodAll_mk0)), rfl, bel.frame _, fun h => by cases h⟩

theorem proved : Rows.FilterBetweenSaid :=
  OpenClaim.holds_of_wide 4 Try.f4 rfl rfl rfl rfl rfl rfl rfl ⟨rfl, rfl, rfl, rfl, rfl⟩ rfl rfl rfl rfl rfl (by kernel_rfl) Try.func4 (by kernel_rfl)
    (of_decide_eq_true (by kernel_rfl)) (by unfold Func.isWrapper; first | (rw [if_pos (by decide +kernel)]; kernel_rfl) | (rw [if_neg (by decide +kernel)]; exact ⟨rfl, rfl⟩))
    (fun os started H enc _ => lifted os started H enc)

end Go.Proofs.Ytgfmaolifnnkgaa.filterBetween
namespace Go.Proofs.Ytgfmaolifnnkgaa
theorem filterBetween_holds : Rows.FilterBetweenSaid := filterBetween.proved
#print axioms filterBetween_holds
end Go.Proofs.Ytgfmaolifnnkgaa
