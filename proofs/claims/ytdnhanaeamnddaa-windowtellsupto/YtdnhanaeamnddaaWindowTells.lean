/- PROVED: for every row of numbers, every window, part and keep WindowTells returns true, and the row reads as before. CONDITIONS: the arguments hold together at most 1048576 values. -/
import Derived.Test.YtdnhanaeamnddaaCame
import Derived.Test.YtdnhanaeamnddaaRef
namespace Go.Proofs.Ytdnhanaeamnddaa
open Go.RowKit
set_option linter.unusedVariables false

theorem came_cap {H : Type} {enc : TypeId × Value → H} {W : World} {a : Option Addr} {len cap : Nat} {d : DataW H} {p : List MemPlace}
    (h : DataW.Trod enc Try.prog W 0 (fun _ => true) true 22 (.slice a len cap) d p) (hb : Rows.uptoBulk d ≤ 1048576) : len ≤ cap ∧ cap ≤ 1048576 := by
  obtain ⟨fuel, hf⟩ := h
  rcases Go.ChangeShapes.open_ints Try.underlying22 Try.underlying3 (by kernel_rfl) hf with ⟨hcs, _⟩ | ⟨x, l, c, zs, hcs, _, hl, hm, hz, hx, hcell, hwz⟩
  · simp [Value.cells] at hcs
    obtain ⟨rfl, rfl, rfl⟩ := hcs
    exact ⟨Nat.le_refl _, by omega⟩
  · simp [Value.cells] at hcs
    obtain ⟨rfl, rfl, rfl⟩ := hcs
    have hzl : zs.length = cap := by simpa using hz
    injection hx with hx _
    subst hx
    have hb1 := bulk_all (Go.ChangeShapes.lits (H := H) .i64 (zs.take len))
    have hb2 := bulk_all (Go.ChangeShapes.lits (H := H) .i64 (zs.drop len))
    have hb3 : (Go.ChangeShapes.lits (H := H) .i64 (zs.take len)).length = (zs.take len).length := by simp [Go.ChangeShapes.lits]
    have hb4 : (Go.ChangeShapes.lits (H := H) .i64 (zs.drop len)).length = (zs.drop len).length := by simp [Go.ChangeShapes.lits]
    simp only [Rows.uptoBulk] at hb
    simp only [List.length_take, List.length_drop] at hb3 hb4
    omega

set_option maxHeartbeats 3200000 in
theorem windowTells_walk (a0 : Option Addr) (cap0 : Nat) (z0 : List Int) (a1 a2 a3 : Int) (w : World) (h0 : Came w a0 z0) (w1 : -9223372036854775808 ≤ a1 ∧ a1 ≤ 9223372036854775807) (w2 : -9223372036854775808 ≤ a2 ∧ a2 ≤ 9223372036854775807) (w3 : -9223372036854775808 ≤ a3 ∧ a3 ≤ 9223372036854775807) (hcap : z0.length ≤ cap0 ∧ cap0 ≤ 1048576) :
    Calls Try.prog 3 #[.slice a0 z0.length cap0, .int .i64 a1, .int .i64 a2, .int .i64 a3] w fun e w' => e = .returned (.bool true) ∧ Below w.heap.size w w' := by
  obtain ⟨r0, hl, hfit⟩ := h0
  have B0 := Below.refl w.heap.size w
  go_enter Try.func3, Try.ntmps3
  go_wp2_with (first
    | (go_at_call 9; refine (min_ans _ _ z0 a1 _ r0 (by omega) w1.2).mono ?_; rintro e v1 ⟨R1, o1, c1, rfl, k1, g1, b1⟩; have r1 := r0.kept b1; have B1 := bthen B0 b1; clear r0 b1 B0)
    | (go_at_call 10; refine (bslide_ans _ _ z0 a1 true _ r1 hcap.1 (by omega) w1.2).mono ?_; rintro e v2 ⟨R2, o2, c2, rfl, k2, g2, b2⟩; obtain rfl := g1.uniq g2; have n2 := g1.len; have r2 := r1.kept b2; have B2 := bthen B1 b2; have k1' := k1.kept b2; clear r1 b2 B1 k1 g1 g2)
    | (go_at_call 8; refine (equal_same _ _ _ _ R1 _ k1' k2 (by omega)).mono ?_; rintro e v3 ⟨rfl, q3, rfl⟩; have r3 := r2.drewN q3; have B3 := below_drewN B2 q3; clear r2 B2 k1' k2 n2)
    | (go_at_call 11; refine (max_ans _ _ z0 a1 _ r3 (by omega) w1.2).mono ?_; rintro e v4 ⟨R4, o4, c4, rfl, k4, g4, b4⟩; have r4 := r3.kept b4; have B4 := bthen B3 b4; clear r3 b4 B3)
    | (go_at_call 10; refine (bslide_ans _ _ z0 a1 false _ r4 hcap.1 (by omega) w1.2).mono ?_; rintro e v5 ⟨R5, o5, c5, rfl, k5, g5, b5⟩; obtain rfl := g4.uniq g5; have n5 := g4.len; have r5 := r4.kept b5; have B5 := bthen B4 b5; have k4' := k4.kept b5; clear r4 b5 B4 k4 g4 g5)
    | (go_at_call 8; refine (equal_same _ _ _ _ R4 _ k4' k5 (by omega)).mono ?_; rintro e v6 ⟨rfl, q6, rfl⟩; have r6 := r5.drewN q6; have B6 := below_drewN B5 q6; clear r5 B5 k4' k5 n5)
    | (go_at_call 12; refine (base_ans _ _ z0 a2 a3 _ r6 (by omega) w2.2 w3.2).mono ?_; rintro e v7 ⟨R7, o7, c7, rfl, k7, g7, b7⟩; have r7 := r6.kept b7; have B7 := bthen B6 b7; clear r6 b7 B6)
    | (go_at_call 13; refine (bbase_ans _ _ z0 a2 a3 _ r7 hcap.1 (by omega) w2.2 w3.2).mono ?_; rintro e v8 ⟨R8, o8, c8, rfl, k8, g8, b8⟩; obtain rfl := g7.uniq g8; have n8 := g7.len; have B8 := bthen B7 b8; have k7' := k7.kept b8; clear r7 b8 B7 k7 g7 g8)
    | (go_at_call 8; refine (equal_same _ _ _ _ R7 _ k7' k8 (by omega)).mono ?_; rintro e v9 ⟨rfl, q9, rfl⟩; have B9 := below_drewN B8 q9; clear B8 k7' k8 n8))
  go_ret
  exact ⟨rfl, B9⟩

end Go.Proofs.Ytdnhanaeamnddaa
namespace Go.Proofs.Ytdnhanaeamnddaa.windowTells
open Go.ChangeShapes Go.WideShapes Go.ChangeAt Go.RowKit
set_option linter.unusedVariables false

theorem contract (H : Type) (enc : TypeId × Value → H) (W : World) (base : Nat) (args : Array Value) (ds gs : List (DataW H)) (before : List MemPlace)
    (hval : ∀ (j : Nat) t v, Try.f3.params[j]? = some t → args[j]? = some v → Value.okWide Try.prog W .any base t v)
    (hW : DataW.Whole enc Try.prog Try.f3.params.toList Rows.windowTellsSpec.vars false W args.toList ds gs before) (hk : Rows.uptoSmall H (ds ++ gs) = true) :
    Calls Try.prog 3 args W fun e W' => ∃ v, e = .returned v ∧ Rows.windowTellsSpec.post enc Try.prog Try.f3 false true false false W args v W' := by
  have hW' := hW
  obtain ⟨p, q, hA0, hV, rfl, hfz, hnd⟩ := hW
  have hA : DataW.TrodAll enc Try.prog W 0 (fun _ => true) true Try.f3.params.toList args.toList ds p := hA0
  rw [Try.params3] at hA hval
  obtain ⟨v0, vs0, d0, ds0, p0, q0, hargs, rfl, rfl, h0, r0⟩ := trodAll_cons hA
  obtain ⟨v1, vs1, d1, ds1, p1, q1, rfl, rfl, rfl, h1, r1⟩ := trodAll_cons r0
  obtain ⟨v2, vs2, d2, ds2, p2, q2, rfl, rfl, rfl, h2, r2⟩ := trodAll_cons r1
  obtain ⟨v3, vs3, d3, ds3, p3, q3, rfl, rfl, rfl, h3, r3⟩ := trodAll_cons r2
  obtain ⟨rfl, rfl, rfl⟩ := trodAll_nil r3
  obtain rfl : args = #[v0, v1, v2, v3] := by cases args; simp_all
  obtain ⟨rfl, rfl⟩ := trodVars_none hV
  obtain ⟨a0, len0, cap0, rfl⟩ := okWide_slice Try.underlying22 (hval 0 22 v0 rfl rfl)
  have k0 := h0
  have lt0 : ∀ x ∈ p0, x.block < W.heap.size := by obtain ⟨m, hm⟩ := k0; exact DataW.trod_lt m _ _ _ hm
  obtain ⟨z0, rfl, w0⟩ := came h0 (bulk_head hk)
  obtain ⟨a1, rfl, rfl, rfl, w1⟩ := open_int Try.underlying3 (hval 1 3 v1 rfl rfl) h1
  obtain ⟨a2, rfl, rfl, rfl, w2⟩ := open_int Try.underlying3 (hval 2 3 v2 rfl rfl) h2
  obtain ⟨a3, rfl, rfl, rfl, w3⟩ := open_int Try.underlying3 (hval 3 3 v3 rfl rfl) h3
  clear hA0
  refine (windowTells_walk a0 cap0 z0 a1 a2 a3 W w0 (fits w1) (fits w2) (fits w3) (came_cap k0 (bulk_head hk))).mono fun e W' ⟨he, bel⟩ => ?_
  subst he
  exact ⟨_, rfl, _, _, _, [], _, [], hW', trodAll_mk1 (shut_bool Try.underlying4 _), (trodAll_cons_mk (Below.trod laidOut (by kernel_rfl) (of_decide_eq_true (by kernel_rfl)) k0 bel lt0) (trodAll_cons_mk (shut_int Try.underlying3 w1) (trodAll_cons_mk (shut_int Try.underlying3 w2) (trodAll_cons_mk (shut_int Try.underlying3 w3) trodAll_mk0)))), rfl, bel.frame _, fun h => by cases h⟩

set_option maxRecDepth 100000 in
theorem lifted (os : Os) (started : os.Started) (H : Type) (enc : TypeId × Value → H) (F : Stop.Interp) :
    ReturnsInHanded {} Try.checked os 3 .any ((Rows.OpenSpec.upto Rows.windowTellsSpec).pre6 enc Try.prog Try.f3 Rows.windowTellsUptoRow.domain false) (((Rows.OpenSpec.upto Rows.windowTellsSpec).at F).post enc Try.prog Try.f3 false true false false) := by
  refine returnsInHanded_of_cond (C := Try.checked) (s := Rows.OpenSpec.upto Rows.windowTellsSpec) (k := Rows.uptoSmall) rfl own started (by kernel_rfl) Try.func3
    (OpenSpec.witness (enc := enc) (C := Try.checked) (s := Rows.OpenSpec.upto Rows.windowTellsSpec) (k := Rows.uptoSmall) rfl false ⟨#[], #[.slice none 0 0, .int .i64 0, .int .i64 0, .int .i64 0], []⟩ 8 (by kernel_rfl) (by kernel_rfl) (by kernel_rfl)
      (x := ([.nil, .lit (.int .i64 0), .lit (.int .i64 0), .lit (.int .i64 0)], [], [])) (by kernel_rfl) rfl (by kernel_rfl)) ?_
  intro W base args ds gs before hval hW _ hk _
  exact contract H enc W base args ds gs before hval hW hk

theorem proved : Rows.WindowTellsUptoSaid :=
  OpenClaim.holds_of_cond 3 Try.f3 rfl rfl rfl rfl rfl rfl rfl ⟨rfl, rfl, rfl, rfl, rfl⟩ rfl rfl rfl rfl rfl (by kernel_rfl) Try.func3 (by kernel_rfl)
    (of_decide_eq_true (by kernel_rfl)) (by unfold Func.isWrapper; first | (rw [if_pos (by decide +kernel)]; kernel_rfl) | (rw [if_neg (by decide +kernel)]; exact ⟨rfl, rfl⟩))
    (fun os started H enc _ F => lifted os started H enc F)

end Go.Proofs.Ytdnhanaeamnddaa.windowTells
namespace Go.Proofs.Ytdnhanaeamnddaa
theorem windowTellsUpto_holds : Rows.WindowTellsUptoSaid := windowTells.proved
#print axioms windowTellsUpto_holds
end Go.Proofs.Ytdnhanaeamnddaa
