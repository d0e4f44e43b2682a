/- PROVED: for every row of numbers, every part and keep WindowBase returns true, and the row reads as before. CONDITIONS: the arguments hold together at most 1048576 values. -/
import Derived.Test.YtdnhanaeamnddaaCame
namespace Go.Proofs.Ytdnhanaeamnddaa
open Go.RowKit
set_option linter.unusedVariables false

theorem Row.cell {w : World} {O : Nat} {R : List Int} (h : Row w (some ⟨O, 0, none⟩) R) (j : Nat) (hj : j < R.length) : w.cell? ⟨O, j, none⟩ = some (.int .i64 (R.getD j 0)) := by
  rcases h with e | ⟨b, off, e, k⟩
  · subst e; simp at hj
  · cases e
    have := k j hj
    rwa [Nat.zero_add] at this

/-- a wider window sees no less -/
theorem best_wider {f : Nat → Int} {a a' b : Nat} {x y : Int} (h : Best true f a b x) (k : Best true f a' b y) (ha : a' ≤ a) : y ≤ x := by
  obtain ⟨⟨i, i1, i2, rfl⟩, _⟩ := h
  have := k.2 i (by omega) i2
  simp [bt] at this
  exact this

/-- the parts that count begin between where two windows begin -/
theorem base_between (u v : Int) (k : Nat) (hu : 1 ≤ u) (hv : 1 ≤ v) : frL (u * v) k ≤ frB u v k ∧ frB u v k ≤ frL (u * (v - 1) + 1) k := by
  have e := frB_eq u v k hu
  have q0 : 0 ≤ (k : Int) / u := Int.ediv_nonneg (by omega) (by omega)
  have d := Int.mul_ediv_add_emod (k : Int) u
  have r0 := Int.emod_nonneg (k : Int) (show u ≠ 0 by omega)
  have r1 := Int.emod_lt_of_pos (k : Int) (show 0 < u by omega)
  generalize (k : Int) / u = q at *
  generalize (k : Int) % u = r at *
  have s1 : u * (v - 1) = u * v - u := by rw [Int.mul_sub, Int.mul_one]
  rw [s1]
  by_cases h : v - 1 ≤ q
  · have m : max (q - (v - 1)) 0 * u = u * q - u * v + u := by
      rw [Int.max_eq_left (by omega), Int.mul_comm, Int.mul_sub, s1]; omega
    rw [m] at e
    unfold frL
    omega
  · have m : max (q - (v - 1)) 0 * u = 0 := by rw [Int.max_eq_right (by omega), Int.zero_mul]
    have n : u * (q + 2) ≤ u * v := Int.mul_le_mul_of_nonneg_left (by omega) (by omega)
    have s2 : u * (q + 2) = u * q + u * 2 := Int.mul_add _ _ _
    rw [m] at e
    unfold frL
    omega

set_option maxHeartbeats 3200000 in
theorem windowBase_walk (a0 : Option Addr) (cap0 : Nat) (z0 : List Int) (a1 a2 : Int) (w : World) (h0 : Came w a0 z0) (w1 : -9223372036854775808 ≤ a1 ∧ a1 ≤ 9223372036854775807) (w2 : -9223372036854775808 ≤ a2 ∧ a2 ≤ 9223372036854775807) :
    Calls Try.prog 6 #[.slice a0 z0.length cap0, .int .i64 a1, .int .i64 a2] w fun e w' => e = .returned (.bool true) ∧ Below w.heap.size w w' := by
  obtain ⟨hz, hl, hfit⟩ := h0
  by_cases hout : a1 < 1 ∨ a2 < 1 ∨ 1073741824 < a1 ∨ 1073741824 < a2
  · by_cases x1 : a1 < 1
    · have d1 : decide (a1 < 1) = true := by simpa using x1
      go_enter Try.func6, Try.ntmps6
      go_wp2_with (go_at_call 14; refine (alive_any _).mono ?_; rintro e w' ⟨rfl, hb⟩)
      go_ret
      exact ⟨rfl, hb⟩
    · have d1 : decide (a1 < 1) = false := by simpa using x1
      by_cases x2 : a2 < 1
      · have d2 : decide (a2 < 1) = true := by simpa using x2
        go_enter Try.func6, Try.ntmps6
        go_wp2_with (go_at_call 14; refine (alive_any _).mono ?_; rintro e w' ⟨rfl, hb⟩)
        go_ret
        exact ⟨rfl, hb⟩
      · have d2 : decide (a2 < 1) = false := by simpa using x2
        by_cases x3 : 1073741824 < a1
        · have d3 : decide (1073741824 < a1) = true := by simpa using x3
          go_enter Try.func6, Try.ntmps6
          go_wp2_with (go_at_call 14; refine (alive_any _).mono ?_; rintro e w' ⟨rfl, hb⟩)
          go_ret
          exact ⟨rfl, hb⟩
        · have d3 : decide (1073741824 < a1) = false := by simpa using x3
          have x4 : 1073741824 < a2 := by omega
          have d4 : decide (1073741824 < a2) = true := by simpa using x4
          go_enter Try.func6, Try.ntmps6
          go_wp2_with (go_at_call 14; refine (alive_any _).mono ?_; rintro e w' ⟨rfl, hb⟩)
          go_ret
          exact ⟨rfl, hb⟩
  · have y1 : 1 ≤ a1 := by omega
    have y2 : 1 ≤ a2 := by omega
    have y3 : a1 ≤ 1073741824 := by omega
    have y4 : a2 ≤ 1073741824 := by omega
    have d1 : decide (a1 < 1) = false := by simp; omega
    have d2 : decide (a2 < 1) = false := by simp; omega
    have d3 : decide (1073741824 < a1) = false := by simp; omega
    have d4 : decide (1073741824 < a2) = false := by simp; omega
    have p1 : a1 * a2 ≤ 1073741824 * 1073741824 := Int.mul_le_mul y3 y4 (by omega) (by omega)
    have p0 : a1 * 1 ≤ a1 * a2 := Int.mul_le_mul_of_nonneg_left y2 (by omega)
    have p2 : a1 * (a2 - 1) = a1 * a2 - a1 := by rw [Int.mul_sub, Int.mul_one]
    have BT := fun k => base_between a1 a2 k y1 y2
    obtain ⟨pk, hpk⟩ : ∃ pk, a1 * a2 = pk := ⟨_, rfl⟩
    obtain ⟨qk, hqk⟩ : ∃ qk, a1 * (a2 - 1) = qk := ⟨_, rfl⟩
    rw [hpk] at p0 p1 p2
    rw [hqk] at p2
    have BT' : ∀ k, frL pk k ≤ frB a1 a2 k ∧ frB a1 a2 k ≤ frL (qk + 1) k := fun k => by have := BT k; rwa [hpk, hqk] at this
    have p3 : 0 ≤ qk := by omega
    have p4 : qk ≤ 1152921504606846976 := by omega
    have p5 : 1 ≤ pk := by omega
    have p6 : pk ≤ 1152921504606846976 := by omega
    clear hout BT p0 p1 p2
    go_enter Try.func6, Try.ntmps6
    go_wp2_with (first
      | (go_at_call 14; refine (alive_any _).mono ?_; rintro e v1 ⟨rfl, B1⟩; have r1 := hz.kept B1)
      | (go_at_call 12; refine (base_any _ _ z0 a1 a2 _ r1 (by omega) y1 (by omega) y2 (by omega)).mono ?_; rintro e v2 ⟨R2, O2, n2, rfl, k2, g2, b2⟩; have r2 := r1.kept b2; have B2 := bthen B1 b2; clear r1 b2 B1)
      | (go_at_call 9; refine (min_any _ _ z0 pk _ r2 (by omega) (by omega) (by omega)).mono ?_; rintro e v3 ⟨R3, O3, n3, rfl, k3, g3, b3⟩; have r3 := r2.kept b3; have B3 := bthen B2 b3; have k2' := k2.kept b3; clear k2 b3 B2 r2)
      | (go_at_call 9; refine (min_any _ _ z0 (qk + 1) _ r3 (by omega) (by omega) (by omega)).mono ?_; rintro e v4 ⟨R4, O4, n4, rfl, k4, g4, b4⟩; have B4 := bthen B3 b4; have k2'' := k2'.kept b4; have k3' := k3.kept b4; clear k2' k3 b4 B3 r3))
    have N2 : Hid (R2.length = z0.length) := n2
    have N3 : Hid (R3.length = z0.length) := n3
    have N4 : Hid (R4.length = z0.length) := n4
    clear n2 n3 n4 hpk hqk
    go_loopw [64] (fun i wr => ∃ k n : Nat, k ≤ z0.length ∧ i = .int .i64 k ∧ wr = v4.drewN n) (fun i _ => z0.length - (intOf i).toNat)
    case atStart => exact ⟨0, 0, Nat.zero_le _, rfl, rfl⟩
    case round =>
      obtain ⟨k, n, hk, rfl, rfl⟩ := hrel
      by_cases hlt : k < z0.length
      · have ca := k2''.cell k (by have := N2.out; omega)
        have cb := k3'.cell k (by have := N3.out; omega)
        have cc := k4.cell k (by have := N4.out; omega)
        have hab := best_wider (g2 k hlt) (g3 k hlt) (BT' k).1
        have hac := best_wider (g4 k hlt) (g2 k hlt) (BT' k).2
        generalize hxa : R2.getD k 0 = xa at ca hab hac
        generalize hxb : R3.getD k 0 = xb at cb hab
        generalize hxc : R4.getD k 0 = xc at cc hac
        clear hxa hxb hxc
        have hd1 : decide (xa < xb) = false := decide_eq_false (by omega)
        have hd2 : decide (xc < xa) = false := decide_eq_false (by omega)
        go_wp2
        go_quiet (fail)
        go_wp2
        go_roundw
        case rel => exact ⟨k + 1, _, by omega, by go_num, rfl⟩
        case measure => simp [intOf]; omega
      · go_wp2
        go_ret
        exact ⟨rfl, below_drewN B4 n⟩

end Go.Proofs.Ytdnhanaeamnddaa
namespace Go.Proofs.Ytdnhanaeamnddaa.windowBase
open Go.ChangeShapes Go.WideShapes Go.ChangeAt Go.RowKit
set_option linter.unusedVariables false

theorem contract (H : Type) (enc : TypeId × Value → H) (W : World) (base : Nat) (args : Array Value) (ds gs : List (DataW H)) (before : List MemPlace)
    (hval : ∀ (j : Nat) t v, Try.f6.params[j]? = some t → args[j]? = some v → Value.okWide Try.prog W .any base t v)
    (hW : DataW.Whole enc Try.prog Try.f6.params.toList Rows.windowBaseSpec.vars false W args.toList ds gs before) (hk : Rows.uptoSmall H (ds ++ gs) = true) :
    Calls Try.prog 6 args W fun e W' => ∃ v, e = .returned v ∧ Rows.windowBaseSpec.post enc Try.prog Try.f6 false true false false W args v W' := by
  have hW' := hW
  obtain ⟨p, q, hA0, hV, rfl, hfz, hnd⟩ := hW
  have hA : DataW.TrodAll enc Try.prog W 0 (fun _ => true) true Try.f6.params.toList args.toList ds p := hA0
  rw [Try.params6] at hA hval
  obtain ⟨v0, vs0, d0, ds0, p0, q0, hargs, rfl, rfl, h0, r0⟩ := trodAll_cons hA
  obtain ⟨v1, vs1, d1, ds1, p1, q1, rfl, rfl, rfl, h1, r1⟩ := trodAll_cons r0
  obtain ⟨v2, vs2, d2, ds2, p2, q2, rfl, rfl, rfl, h2, r2⟩ := trodAll_cons r1
  obtain ⟨rfl, rfl, rfl⟩ := trodAll_nil r2
  obtain rfl : args = #[v0, v1, v2] := by cases args; simp_all
  obtain ⟨rfl, rfl⟩ := trodVars_none hV
  obtain ⟨a0, len0, cap0, rfl⟩ := okWide_slice Try.underlying22 (hval 0 22 v0 rfl rfl)
  have k0 := h0
  have lt0 : ∀ x ∈ p0, x.block < W.heap.size := by obtain ⟨m, hm⟩ := k0; exact DataW.trod_lt m _ _ _ hm
  obtain ⟨z0, rfl, w0⟩ := came h0 (bulk_head hk)
  obtain ⟨a1, rfl, rfl, rfl, w1⟩ := open_int Try.underlying3 (hval 1 3 v1 rfl rfl) h1
  obtain ⟨a2, rfl, rfl, rfl, w2⟩ := open_int Try.underlying3 (hval 2 3 v2 rfl rfl) h2
  clear hA0
  refine (windowBase_walk a0 cap0 z0 a1 a2 W w0 (fits w1) (fits w2)).mono fun e W' ⟨he, bel⟩ => ?_
  subst he
  exact ⟨_, rfl, _, _, _, [], _, [], hW', trodAll_mk1 (shut_bool Try.underlying4 _), (trodAll_cons_mk (Below.trod laidOut (by kernel_rfl) (of_decide_eq_true (by kernel_rfl)) k0 bel lt0) (trodAll_cons_mk (shut_int Try.underlying3 w1) (trodAll_cons_mk (shut_int Try.underlying3 w2) trodAll_mk0))), rfl, bel.frame _, fun h => by cases h⟩

set_option maxRecDepth 100000 in
theorem lifted (os : Os) (started : os.Started) (H : Type) (enc : TypeId × Value → H) (F : Stop.Interp) :
    ReturnsInHanded {} Try.checked os 6 .any ((Rows.OpenSpec.upto Rows.windowBaseSpec).pre6 enc Try.prog Try.f6 Rows.windowBaseUptoRow.domain false) (((Rows.OpenSpec.upto Rows.windowBaseSpec).at F).post enc Try.prog Try.f6 false true false false) := by
  refine returnsInHanded_of_cond (C := Try.checked) (s := Rows.OpenSpec.upto Rows.windowBaseSpec) (k := Rows.uptoSmall) rfl own started (by kernel_rfl) Try.func6
    (OpenSpec.witness (enc := enc) (C := Try.checked) (s := Rows.OpenSpec.upto Rows.windowBaseSpec) (k := Rows.uptoSmall) rfl false ⟨#[], #[.slice none 0 0, .int .i64 0, .int .i64 0], []⟩ 8 (by kernel_rfl) (by kernel_rfl) (by kernel_rfl)
      (x := ([.nil, .lit (.int .i64 0), .lit (.int .i64 0)], [], [])) (by kernel_rfl) rfl (by kernel_rfl)) ?_
  intro W base args ds gs before hval hW _ hk _
  exact contract H enc W base args ds gs before hval hW hk

theorem proved : Rows.WindowBaseUptoSaid :=
  OpenClaim.holds_of_cond 6 Try.f6 rfl rfl rfl rfl rfl rfl rfl ⟨rfl, rfl, rfl, rfl, rfl⟩ rfl rfl rfl rfl rfl (by kernel_rfl) Try.func6 (by kernel_rfl)
    (of_decide_eq_true (by kernel_rfl)) (by unfold Func.isWrapper; first | (rw [if_pos (by decide +kernel)]; kernel_rfl) | (rw [if_neg (by decide +kernel)]; exact ⟨rfl, rfl⟩))
    (fun os started H enc _ F => lifted os started H enc F)

end Go.Proofs.Ytdnhanaeamnddaa.windowBase
namespace Go.Proofs.Ytdnhanaeamnddaa
theorem windowBaseUpto_holds : Rows.WindowBaseUptoSaid := windowBase.proved
#print axioms windowBaseUpto_holds
end Go.Proofs.Ytdnhanaeamnddaa
