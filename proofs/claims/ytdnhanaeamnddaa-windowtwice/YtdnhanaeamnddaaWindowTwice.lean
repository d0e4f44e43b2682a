/- PROVED: for every row of numbers and every two windows WindowTwice returns true, and the row reads as before. CONDITIONS: none. -/
import Derived.Test.YtdnhanaeamnddaaCame
import Derived.SizedLaws
namespace Go.Proofs.Ytdnhanaeamnddaa
open Go.RowKit
set_option linter.unusedVariables false

theorem Try.bytes3 : Try.prog.bytesOf 3 = 8 := by kernel_rfl

/-- a slice of integers that came in, of whatever size -/
def FarIn (w : World) (ao : Option Addr) (zs : List Int) : Prop := Row w ao zs ∧ zs.length ≤ 17592186043904 ∧ ∀ n ∈ zs, -9223372036854775808 ≤ n ∧ n ≤ 9223372036854775807

theorem farIn {H : Type} {enc : TypeId × Value → H} {W : World} {a : Option Addr} {len cap : Nat} {d : DataW H} {p : List MemPlace}
    (h : DataW.Trod enc Try.prog W 0 (fun _ => true) true 22 (.slice a len cap) d p) (hb : ∀ elems spare, d = .slice elems spare → (elems.length + spare.length) * 8 ≤ 140737488351232) : ∃ zs, zs.length = len ∧ FarIn W a zs := by
  obtain ⟨fuel, hf⟩ := h
  rcases Go.ChangeShapes.open_ints Try.underlying22 Try.underlying3 (by kernel_rfl) hf with ⟨hcs, _⟩ | ⟨x, l, c, zs, hcs, _, hl, hm, hz, hx, hcell, hwz⟩
  · simp [Value.cells] at hcs
    obtain ⟨rfl, rfl, rfl⟩ := hcs
    exact ⟨[], rfl, .inl rfl, by simp, fun n hn => by cases hn⟩
  · simp [Value.cells] at hcs
    obtain ⟨rfl, rfl, rfl⟩ := hcs
    have hzl : zs.length = cap := by simpa using hz
    have hlt : (zs.take len).length = len := by simp; omega
    injection hx with hx _
    have hb1 := hb _ _ hx
    simp only [Go.ChangeShapes.lits, List.length_map, List.length_take, List.length_drop] at hb1
    refine ⟨zs.take len, hlt, ?_, by omega, fun n hn => fits (hwz n (List.mem_of_mem_take hn))⟩
    by_cases h0 : len = 0
    · exact .inl (List.eq_nil_of_length_eq_zero (by omega))
    · have c0 := hcell 0 (by omega)
      obtain ⟨b, o, sp⟩ := x
      have hsp : sp = none := by
        cases sp with
        | none => rfl
        | some q =>
          have : W.cell? ((⟨b, o, some q⟩ : Addr).add 0) = none := by
            show W.cell? ⟨b, o, some q⟩ = none
            simp only [World.cell?]
            split <;> simp
          rw [this] at c0; cases c0
      subst hsp
      refine .inr ⟨b, o, rfl, fun j hj => ?_⟩
      have := hcell j (by omega)
      rw [Addr.add_lit] at this
      rw [this, List.getD_eq_getElem?_getD, List.getD_eq_getElem?_getD, List.getElem?_take_of_lt (by omega)]

/-- a best of bests is a best -/
theorem best_twice {low : Bool} {f g : Nat → Int} {v u : Int} {k : Nat} (hv : 1 ≤ v) (hu : 1 ≤ u) (hg : ∀ j, j < k + 1 → Best low f (frL v j) (j + 1) (g j)) {x : Int} (h : Best low g (frL u k) (k + 1) x) :
    Best low f (frL (u + v - 1) k) (k + 1) x := by
  obtain ⟨⟨j, h1, h2, rfl⟩, h3⟩ := h
  obtain ⟨⟨i, i1, i2, i3⟩, i4⟩ := hg j h2
  refine ⟨⟨i, ?_, by omega, i3⟩, fun p p1 p2 => ?_⟩
  · unfold frL at *; omega
  · -- a place that sees p
    have hq : ∃ q, frL u k ≤ q ∧ q < k + 1 ∧ frL v q ≤ p ∧ p < q + 1 := by
      by_cases e : p < frL u k
      · exact ⟨frL u k, Nat.le_refl _, by unfold frL; omega, by unfold frL at *; omega, by omega⟩
      · exact ⟨p, by omega, p2, by unfold frL; omega, by omega⟩
    obtain ⟨q, q1, q2, q3, q4⟩ := hq
    exact bt_le (h3 q q1 q2) ((hg q q2).2 p q3 q4)

theorem twice_eq {low : Bool} {z R2 R3 R4 : List Int} {u v t : Int} (hu : 1 ≤ u) (hv : 1 ≤ v) (ht : t = u + v - 1) (n2 : R2.length = z.length) (n3 : R3.length = R2.length) (n4 : R4.length = z.length)
    (g2 : ∀ k, k < z.length → Best low (fun j => z.getD j 0) (frL v k) (k + 1) (R2.getD k 0)) (g3 : ∀ k, k < R2.length → Best low (fun j => R2.getD j 0) (frL u k) (k + 1) (R3.getD k 0))
    (g4 : ∀ k, k < z.length → Best low (fun j => z.getD j 0) (frL t k) (k + 1) (R4.getD k 0)) : R3 = R4 := by
  subst ht
  exact told_eq (n3.trans n2) n4 (fun k hk => best_twice hv hu (fun j hj => g2 j (by omega)) (g3 k (by omega))) g4

set_option maxHeartbeats 1600000 in
theorem windowTwice_walk (a0 : Option Addr) (cap0 : Nat) (z0 : List Int) (a1 a2 : Int) (w : World) (h0 : FarIn w a0 z0) (w1 : -9223372036854775808 ≤ a1 ∧ a1 ≤ 9223372036854775807) (w2 : -9223372036854775808 ≤ a2 ∧ a2 ≤ 9223372036854775807) :
    Calls Try.prog 4 #[.slice a0 z0.length cap0, .int .i64 a1, .int .i64 a2] w fun e w' => e = .returned (.bool true) ∧ Below w.heap.size w w' := by
  obtain ⟨hz, hl, hfit⟩ := h0
  by_cases hout : a1 < 1 ∨ a2 < 1 ∨ 1099511627776 < a1 ∨ 1099511627776 < a2
  · by_cases x1 : a1 < 1
    · have d1 : decide (a1 < 1) = true := by simpa using x1
      go_enter Try.func4, Try.ntmps4
      go_wp2_with (go_at_call 14; refine (alive_any _).mono ?_; rintro e w' ⟨rfl, hb⟩)
      go_ret
      exact ⟨rfl, hb⟩
    · have d1 : decide (a1 < 1) = false := by simpa using x1
      by_cases x2 : a2 < 1
      · have d2 : decide (a2 < 1) = true := by simpa using x2
        go_enter Try.func4, Try.ntmps4
        go_wp2_with (go_at_call 14; refine (alive_any _).mono ?_; rintro e w' ⟨rfl, hb⟩)
        go_ret
        exact ⟨rfl, hb⟩
      · have d2 : decide (a2 < 1) = false := by simpa using x2
        by_cases x3 : 1099511627776 < a1
        · have d3 : decide (1099511627776 < a1) = true := by simpa using x3
          go_enter Try.func4, Try.ntmps4
          go_wp2_with (go_at_call 14; refine (alive_any _).mono ?_; rintro e w' ⟨rfl, hb⟩)
          go_ret
          exact ⟨rfl, hb⟩
        · have d3 : decide (1099511627776 < a1) = false := by simpa using x3
          have x4 : 1099511627776 < a2 := by omega
          have d4 : decide (1099511627776 < a2) = true := by simpa using x4
          go_enter Try.func4, Try.ntmps4
          go_wp2_with (go_at_call 14; refine (alive_any _).mono ?_; rintro e w' ⟨rfl, hb⟩)
          go_ret
          exact ⟨rfl, hb⟩
  · have y1 : 1 ≤ a1 := by omega
    have y2 : 1 ≤ a2 := by omega
    have y3 : a1 ≤ 1099511627776 := by omega
    have y4 : a2 ≤ 1099511627776 := by omega
    have d1 : decide (a1 < 1) = false := by simp; omega
    have d2 : decide (a2 < 1) = false := by simp; omega
    have d3 : decide (1099511627776 < a1) = false := by simp; omega
    have d4 : decide (1099511627776 < a2) = false := by simp; omega
    clear hout
    go_enter Try.func4, Try.ntmps4
    go_wp2_with (first
      | (go_at_call 14; refine (alive_any _).mono ?_; rintro e v1 ⟨rfl, B1⟩; have r1 := hz.kept B1)
      | (go_at_call 9; refine (min_far _ _ z0 a2 _ r1 (by omega) (.inr (by omega)) y2 (by omega)).mono ?_; rintro e v2 ⟨R2, O2, n2, rfl, k2, g2, b2⟩; have r2 := r1.kept b2; have B2 := bthen B1 b2; clear r1 b2 B1)
      | (go_at_call 9; rw [← n2]; refine (min_far _ _ R2 a1 _ k2 (by omega) (.inr (by omega)) y1 (by omega)).mono ?_; rintro e v3 ⟨R3, O3, n3, rfl, k3, g3, b3⟩; have r3 := r2.kept b3; have B3 := bthen B2 b3; clear k2 b3 B2 r2)
      | (go_at_call 9; refine (min_far _ _ z0 (a1 + a2 - 1) _ r3 (by omega) (.inr (by omega)) (by omega) (by omega)).mono ?_; rintro e v4 ⟨R4, O4, n4, rfl, k4, g4, b4⟩; have r4 := r3.kept b4; have B4 := bthen B3 b4; have k3' := k3.kept b4; obtain rfl := twice_eq y1 y2 rfl n2 n3 n4 g2 g3 g4; clear k3 b4 B3 r3 g2 g3 g4 n2 n3)
      | (go_at_call 8; refine (equal_at _ _ _ _ z0.length R3 _ k3' k4 n4 (by omega)).mono ?_; rintro e v5 ⟨rfl, q5, rfl⟩; have r5 := r4.drewN q5; have B5 := below_drewN B4 q5; clear k3' k4 r4 B4 n4)
      | (go_at_call 11; refine (max_far _ _ z0 a1 _ r5 (by omega) (.inr (by omega)) y1 (by omega)).mono ?_; rintro e v6 ⟨R6, O6, n6, rfl, k6, g6, b6⟩; have r6 := r5.kept b6; have B6 := bthen B5 b6; clear r5 b6 B5)
      | (go_at_call 11; rw [← n6]; refine (max_far _ _ R6 a2 _ k6 (by omega) (.inr (by omega)) y2 (by omega)).mono ?_; rintro e v7 ⟨R7, O7, n7, rfl, k7, g7, b7⟩; have r7 := r6.kept b7; have B7 := bthen B6 b7; clear k6 b7 B6 r6)
      | (go_at_call 11; refine (max_far _ _ z0 (a1 + a2 - 1) _ r7 (by omega) (.inr (by omega)) (by omega) (by omega)).mono ?_; rintro e v8 ⟨R8, O8, n8, rfl, k8, g8, b8⟩; have B8 := bthen B7 b8; have k7' := k7.kept b8; obtain rfl := twice_eq y2 y1 (by omega) n6 n7 n8 g6 g7 g8; clear k7 b8 B7 r7 g6 g7 g8 n6 n7)
      | (go_at_call 8; refine (equal_at _ _ _ _ z0.length R7 _ k7' k8 n8 (by omega)).mono ?_; rintro e v9 ⟨rfl, q9, rfl⟩; have B9 := below_drewN B8 q9))
    go_ret
    exact ⟨rfl, B9⟩

end Go.Proofs.Ytdnhanaeamnddaa
namespace Go.Proofs.Ytdnhanaeamnddaa.windowTwice
open Go.ChangeShapes Go.WideShapes Go.ChangeAt Go.RowKit
set_option linter.unusedVariables false

set_option maxRecDepth 100000 in
theorem lifted (os : Os) (started : os.Started) (H : Type) (enc : TypeId × Value → H) :
    ReturnsInHanded {} Try.checked os 4 .any (Rows.windowTwiceSpec.pre6 enc Try.prog Try.f4 Rows.windowTwiceRow.domain false) (Rows.windowTwiceSpec.post enc Try.prog Try.f4 false true false false) := by
  refine returnsInHanded_of_change_sized (C := Try.checked) own started (by kernel_rfl) Try.func4
    (ChangeSpec.witness6 (enc := enc) (C := Try.checked) false ⟨#[], #[.slice none 0 0, .int .i64 0, .int .i64 0], []⟩ 8 (by kernel_rfl) (by kernel_rfl) (by kernel_rfl) (by kernel_rfl)) ?_
  intro W base args ds gs before hval0 hW _ hsz0 _
  have hsz : (DataW.weightsEach Try.prog (Try.f4.params.toList ++ Rows.windowTwiceSpec.plain.varTypes Try.prog) (ds ++ gs)).all (· ≤ reachBytes) = true := hsz0
  have hval : ∀ (j : Nat) t v, Try.f4.params[j]? = some t → args[j]? = some v → Value.okWide Try.prog W .any base t v := hval0
  have hW' := hW
  obtain ⟨p, q, hA0, hV, rfl, hfz, hnd⟩ := hW
  have hA : DataW.TrodAll enc Try.prog W 0 (fun _ => true) true Try.f4.params.toList args.toList ds p := hA0
  rw [Try.params4] at hA hval hsz
  obtain ⟨v0, vs0, d0, ds0, p0, q0, hargs, rfl, rfl, h0, r0⟩ := trodAll_cons hA
  obtain ⟨v1, vs1, d1, ds1, p1, q1, rfl, rfl, rfl, h1, r1⟩ := trodAll_cons r0
  obtain ⟨v2, vs2, d2, ds2, p2, q2, rfl, rfl, rfl, h2, r2⟩ := trodAll_cons r1
  obtain ⟨rfl, rfl, rfl⟩ := trodAll_nil r2
  obtain rfl : args = #[v0, v1, v2] := by cases args; simp_all
  obtain ⟨rfl, rfl⟩ := trodVars_none hV
  obtain ⟨a0, len0, cap0, rfl⟩ := okWide_slice Try.underlying22 (hval 0 22 v0 rfl rfl)
  have k0 := h0
  have lt0 : ∀ x ∈ p0, x.block < W.heap.size := by obtain ⟨m, hm⟩ := k0; exact DataW.trod_lt m _ _ _ hm
  obtain ⟨z0, rfl, w0⟩ := farIn h0 (fun elems spare e => by
    subst e
    have := sized_slice hsz (j := 0) (t := 22) (e := 3) rfl rfl Try.underlying22
    rw [Try.bytes3] at this
    exact this)
  obtain ⟨a1, rfl, rfl, rfl, w1⟩ := open_int Try.underlying3 (hval 1 3 v1 rfl rfl) h1
  obtain ⟨a2, rfl, rfl, rfl, w2⟩ := open_int Try.underlying3 (hval 2 3 v2 rfl rfl) h2
  clear hA0 hval0 hsz0 hsz
  refine (windowTwice_walk a0 cap0 z0 a1 a2 W w0 (fits w1) (fits w2)).mono fun e W' ⟨he, bel⟩ => ?_
  subst he
  exact ⟨_, rfl, _, _, _, [], _, [], hW', trodAll_mk1 (shut_bool Try.underlying4 _), (trodAll_cons_mk (Below.trod laidOut (by kernel_rfl) (of_decide_eq_true (by kernel_rfl)) k0 bel lt0) (trodAll_cons_mk (shut_int Try.underlying3 w1) (trodAll_cons_mk (shut_int Try.underlying3 w2) trodAll_mk0))), rfl, bel.frame _, fun h => by cases h⟩

theorem proved : Rows.WindowTwiceSaid :=
  OpenClaim.holds_of_wide 4 Try.f4 rfl rfl rfl rfl rfl rfl rfl ⟨rfl, rfl, rfl, rfl, rfl⟩ rfl rfl rfl rfl rfl (by kernel_rfl) Try.func4 (by kernel_rfl)
    (of_decide_eq_true (by kernel_rfl)) (by unfold Func.isWrapper; first | (rw [if_pos (by decide +kernel)]; kernel_rfl) | (rw [if_neg (by decide +kernel)]; exact ⟨rfl, rfl⟩))
    (fun os started H enc _ => lifted os started H enc)

end Go.Proofs.Ytdnhanaeamnddaa.windowTwice
namespace Go.Proofs.Ytdnhanaeamnddaa
theorem windowTwice_holds : Rows.WindowTwiceSaid := windowTwice.proved
#print axioms windowTwice_holds
end Go.Proofs.Ytdnhanaeamnddaa
