/- PROVED: for every row of numbers and every two windows WindowMore returns true, and the row reads as before. CONDITIONS: the arguments hold together at most 1048576 values. -/
import Derived.Test.YtdnhanaeamnddaaCame
namespace Go.Proofs.Ytdnhanaeamnddaa
open Go.RowKit
set_option linter.unusedVariables false

theorem Row.cell {w : World} {O : Nat} {R : List Int} (h : Row w (some ⟨O, 0, none⟩) R) (j : Nat) (hj : j < R.length) : w.cell? ⟨O, j, none⟩ = some (.int .i64 (R.getD j 0)) := by
  rcases h with e | ⟨b, off, e, k⟩
  · subst e; simp at hj
  · cases e
    have := k j hj
    rwa [Nat.zero_add] at this

/-- a wider window sees no less -/
theorem best_wider {f : Nat → Int} {a a' b : Nat} {x y : Int} (h : Best true f a b x) (k : Best true f a' b y) (ha : a' ≤ a) : y ≤ x := by
  obtain ⟨⟨i, i1, i2, rfl⟩, _⟩ := h
  have := k.2 i (by omega) i2
  simp [bt] at this
  exact this

set_option maxHeartbeats 3200000 in
theorem windowMore_walk (a0 : Option Addr) (cap0 : Nat) (z0 : List Int) (a1 a2 : Int) (w : World) (h0 : Came w a0 z0) (w1 : -9223372036854775808 ≤ a1 ∧ a1 ≤ 9223372036854775807) (w2 : -9223372036854775808 ≤ a2 ∧ a2 ≤ 9223372036854775807) :
    Calls Try.prog 7 #[.slice a0 z0.length cap0, .int .i64 a1, .int .i64 a2] w fun e w' => e = .returned (.bool true) ∧ Below w.heap.size w w' := by
  obtain ⟨hz, hl, hfit⟩ := h0
  by_cases x1 : a1 < 1
  · have d1 : decide (a1 < 1) = true := by simpa using x1
    go_enter Try.func7, Try.ntmps7
    go_wp2_with (go_at_call 14; refine (alive_any _).mono ?_; rintro e w' ⟨rfl, hb⟩)
    go_ret
    exact ⟨rfl, hb⟩
  · have d1 : decide (a1 < 1) = false := by simpa using x1
    by_cases x2 : a2 < a1
    · have d2 : decide (a2 < a1) = true := by simpa using x2
      go_enter Try.func7, Try.ntmps7
      go_wp2_with (go_at_call 14; refine (alive_any _).mono ?_; rintro e w' ⟨rfl, hb⟩)
      go_ret
      exact ⟨rfl, hb⟩
    · have d2 : decide (a2 < a1) = false := by simpa using x2
      have y1 : 1 ≤ a1 := by omega
      have y2 : 1 ≤ a2 := by omega
      go_enter Try.func7, Try.ntmps7
      go_wp2_with (first
        | (go_at_call 14; refine (alive_any _).mono ?_; rintro e v1 ⟨rfl, B1⟩; have r1 := hz.kept B1)
        | (go_at_call 9; refine (min_any _ _ z0 a1 _ r1 (by omega) y1 (by omega)).mono ?_; rintro e v2 ⟨R2, O2, n2, rfl, k2, g2, b2⟩; have r2 := r1.kept b2; have B2 := bthen B1 b2; clear r1 b2 B1)
        | (go_at_call 9; refine (min_any _ _ z0 a2 _ r2 (by omega) y2 (by omega)).mono ?_; rintro e v3 ⟨R3, O3, n3, rfl, k3, g3, b3⟩; have B3 := bthen B2 b3; have k2' := k2.kept b3; clear k2 b3 B2 r2))
      have N2 : Hid (R2.length = z0.length) := n2
      have N3 : Hid (R3.length = z0.length) := n3
      clear n2 n3
      go_loopw [39] (fun i wr => ∃ k n : Nat, k ≤ z0.length ∧ i = .int .i64 k ∧ wr = v3.drewN n) (fun i _ => z0.length - (intOf i).toNat)
      case atStart => exact ⟨0, 0, Nat.zero_le _, rfl, rfl⟩
      case round =>
        obtain ⟨k, n, hk, rfl, rfl⟩ := hrel
        by_cases hlt : k < z0.length
        · have ca := k2'.cell k (by have := N2.out; omega)
          have cb := k3.cell k (by have := N3.out; omega)
          have hab := best_wider (g2 k hlt) (g3 k hlt) (by unfold frL; omega)
          generalize hxa : R2.getD k 0 = xa at ca hab
          clear hxa
          have hd1 : decide (xa < R3.getD k 0) = false := decide_eq_false (by omega)
          have hwk : IntKind.i64.wrap (k : Int) = k := wrap_in (by omega)
          by_cases hw : (z0.length : Int) ≤ a2
          · have hd2 : decide ((z0.length : Int) ≤ a2) = true := by simpa using hw
            cases k with
            | zero =>
              generalize hxb : R3.getD 0 0 = xb at cb hd1
              clear hxb
              have hd3 : decide ((0 : Int) < ((0 : Nat) : Int)) = false := by simp
              go_wp2
              go_quiet (fail)
              go_wp2
              go_roundw
              case rel => exact ⟨0 + 1, _, by omega, by go_num, rfl⟩
              case measure => simp [intOf]; omega
            | succ m =>
              have cc := k3.cell m (by have := N3.out; omega)
              have hbc : R3.getD (m + 1) 0 ≤ R3.getD m 0 := by
                have e1 : frL a2 (m + 1) = 0 := by unfold frL; omega
                have e2 : frL a2 m = 0 := by unfold frL; omega
                have q1 := g3 (m + 1) hlt
                have q2 := g3 m (by omega)
                rw [e1] at q1
                rw [e2] at q2
                obtain ⟨⟨i, i1, i2, i3⟩, _⟩ := q2
                have := q1.2 i i1 (by omega)
                simp only [bt, if_true, decide_eq_false_iff_not] at this
                have i3' : z0.getD i 0 = R3.getD m 0 := i3
                omega
              generalize hxb : R3.getD (m + 1) 0 = xb at cb hd1 hbc
              generalize hxc : R3.getD m 0 = xc at cc hbc
              clear hxb hxc
              have hwm : IntKind.i64.wrap (m : Int) = m := wrap_in (by omega)
              have hd3 : decide ((0 : Int) < ((m + 1 : Nat) : Int)) = true := by simp
              have hd4 : decide (xc < xb) = false := decide_eq_false (by omega)
              have hm1 : m < z0.length := by omega
              go_wp2
              go_quiet (fail)
              go_wp2
              go_roundw
              case rel => exact ⟨m + 1 + 1, _, by omega, by go_num, rfl⟩
              case measure => simp [intOf]; omega
          · have hd2 : decide ((z0.length : Int) ≤ a2) = false := by simpa using hw
            generalize hxb : R3.getD k 0 = xb at cb hd1
            clear hxb
            go_wp2
            go_quiet (fail)
            go_wp2
            go_roundw
            case rel => exact ⟨k + 1, _, by omega, by go_num, rfl⟩
            case measure => simp [intOf]; omega
        · go_wp2
          go_ret
          exact ⟨rfl, below_drewN B3 n⟩

end Go.Proofs.Ytdnhanaeamnddaa
namespace Go.Proofs.Ytdnhanaeamnddaa.windowMore
open Go.ChangeShapes Go.WideShapes Go.ChangeAt Go.RowKit
set_option linter.unusedVariables false

theorem contract (H : Type) (enc : TypeId × Value → H) (W : World) (base : Nat) (args : Array Value) (ds gs : List (DataW H)) (before : List MemPlace)
    (hval : ∀ (j : Nat) t v, Try.f7.params[j]? = some t → args[j]? = some v → Value.okWide Try.prog W .any base t v)
    (hW : DataW.Whole enc Try.prog Try.f7.params.toList Rows.windowMoreSpec.vars false W args.toList ds gs before) (hk : Rows.uptoSmall H (ds ++ gs) = true) :
    Calls Try.prog 7 args W fun e W' => ∃ v, e = .returned v ∧ Rows.windowMoreSpec.post enc Try.prog Try.f7 false true false false W args v W' := by
  have hW' := hW
  obtain ⟨p, q, hA0, hV, rfl, hfz, hnd⟩ := hW
  have hA : DataW.TrodAll enc Try.prog W 0 (fun _ => true) true Try.f7.params.toList args.toList ds p := hA0
  rw [Try.params7] at hA hval
  obtain ⟨v0, vs0, d0, ds0, p0, q0, hargs, rfl, rfl, h0, r0⟩ := trodAll_cons hA
  obtain ⟨v1, vs1, d1, ds1, p1, q1, rfl, rfl, rfl, h1, r1⟩ := trodAll_cons r0
  obtain ⟨v2, vs2, d2, ds2, p2, q2, rfl, rfl, rfl, h2, r2⟩ := trodAll_cons r1
  obtain ⟨rfl, rfl, rfl⟩ := trodAll_nil r2
  obtain rfl : args = #[v0, v1, v2] := by cases args; simp_all
  obtain ⟨rfl, rfl⟩ := trodVars_none hV
  obtain ⟨a0, len0, cap0, rfl⟩ := okWide_slice Try.underlying22 (hval 0 22 v0 rfl rfl)
  have k0 := h0
  have lt0 : ∀ x ∈ p0, x.block < W.heap.size := by obtain ⟨m, hm⟩ := k0; exact DataW.trod_lt m _ _ _ hm
  obtain ⟨z0, rfl, w0⟩ := came h0 (bulk_head hk)
  obtain ⟨a1, rfl, rfl, rfl, w1⟩ := open_int Try.underlying3 (hval 1 3 v1 rfl rfl) h1
  obtain ⟨a2, rfl, rfl, rfl, w2⟩ := open_int Try.underlying3 (hval 2 3 v2 rfl rfl) h2
  clear hA0
  refine (windowMore_walk a0 cap0 z0 a1 a2 W w0 (fits w1) (fits w2)).mono fun e W' ⟨he, bel⟩ => ?_
  subst he
  exact ⟨_, rfl, _, _, _, [], _, [], hW', trodAll_mk1 (shut_bool Try.underlying4 _), (trodAll_cons_mk (Below.trod laidOut (by kernel_rfl) (of_decide_eq_true (by kernel_rfl)) k0 bel lt0) (trodAll_cons_mk (shut_int Try.underlying3 w1) (trodAll_cons_mk (shut_int Try.underlying3 w2) trodAll_mk0))), rfl, bel.frame _, fun h => by cases h⟩

set_option maxRecDepth 100000 in
theorem lifted (os : Os) (started : os.Started) (H : Type) (enc : TypeId × Value → H) (F : Stop.Interp) :
    ReturnsInHanded {} Try.checked os 7 .any ((Rows.OpenSpec.upto Rows.windowMoreSpec).pre6 enc Try.prog Try.f7 Rows.windowMoreUptoRow.domain false) (((Rows.OpenSpec.upto Rows.windowMoreSpec).at F).post enc Try.prog Try.f7 false true false false) := by
  refine returnsInHanded_of_cond (C := Try.checked) (s := Rows.OpenSpec.upto Rows.windowMoreSpec) (k := Rows.uptoSmall) rfl own started (by kernel_rfl) Try.func7
    (OpenSpec.witness (enc := enc) (C := Try.checked) (s := Rows.OpenSpec.upto Rows.windowMoreSpec) (k := Rows.uptoSmall) rfl false ⟨#[], #[.slice none 0 0, .int .i64 0, .int .i64 0], []⟩ 8 (by kernel_rfl) (by kernel_rfl) (by kernel_rfl)
      (x := ([.nil, .lit (.int .i64 0), .lit (.int .i64 0)], [], [])) (by kernel_rfl) rfl (by kernel_rfl)) ?_
  intro W base args ds gs before hval hW _ hk _
  exact contract H enc W base args ds gs before hval hW hk

theorem proved : Rows.WindowMoreUptoSaid :=
  OpenClaim.holds_of_cond 7 Try.f7 rfl rfl rfl rfl rfl rfl rfl ⟨rfl, rfl, rfl, rfl, rfl⟩ rfl rfl rfl rfl rfl (by kernel_rfl) Try.func7 (by kernel_rfl)
    (of_decide_eq_true (by kernel_rfl)) (by unfold Func.isWrapper; first | (rw [if_pos (by decide +kernel)]; kernel_rfl) | (rw [if_neg (by decide +kernel)]; exact ⟨rfl, rfl⟩))
    (fun os started H enc _ F => lifted os started H enc F)

end Go.Proofs.Ytdnhanaeamnddaa.windowMore
namespace Go.Proofs.Ytdnhanaeamnddaa
theorem windowMoreUpto_holds : Rows.WindowMoreUptoSaid := windowMore.proved
#print axioms windowMoreUpto_holds
end Go.Proofs.Ytdnhanaeamnddaa
