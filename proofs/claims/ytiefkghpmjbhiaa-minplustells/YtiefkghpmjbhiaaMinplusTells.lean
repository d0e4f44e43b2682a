/- PROVED: minplus.Unit, Conv and Over answer what E1 says, at every argument. CONDITIONS: none. -/
import Derived.Test.YtiefkghpmjbhiaaLast
namespace Go.Proofs.Ytiefkghpmjbhiaa
open Go.RowKit
set_option linter.unusedVariables false

set_option maxHeartbeats 4000000 in
theorem tells_go (n : Int) (u : Nat) (hu0 : Hid (min (max n 0) 300 = (u : Int))) (hu : u ≤ 35184372088832) (a0 : Option Addr) (cap0 n0 : Nat) (z0 : List Int) (a1 : Option Addr) (cap1 n1 : Nat) (z1 : List Int) (w : World) (r0 : Row w a0 z0) (r1 : Row w a1 z1)
    (e0 : z0.length = n0) (e1 : z1.length = n1) (h0 : n0 ≤ 17592186044416) (h1 : n1 ≤ 17592186044416) (k0 : n0 ≤ cap0) (m : Nat) (hm0 : Hid (min n0 n1 = m)) (hm : m ≤ 35184372088832) (hh : n0 ≤ 35184372088832) (U V O : List Int) (hU : Hid (unit u = U)) (hV : Hid (conv z0 z1 = V)) (hO : Hid (over z0 z1 = O)) (lU : U.length = u) (lV : V.length = m) (lO : O.length = n0) :
    Calls Try.prog 3 #[.int .i64 n, .slice a0 n0 cap0, .slice a1 n1 cap1] w fun e w' => e = .returned (.bool true) ∧ Below w.heap.size w w' := by
  have B : Below w.heap.size w w := Below.refl _ _
  have T1 := tok
  have T2 := tok
  have T3 := tok
  have T4 := tok
  have T5 := tok
  have T6 := tok
  have T7 := tok
  have T8 := tok
  have T9 := tok
  go_enter Try.func3, Try.ntmps3
  go_wp2_with (first
      | (clear T1; go_at_call 10; refine (unit_g n u hu0.out U hU.out _).mono ?_; rintro e v1 ⟨x1, d1, rfl, l1, p1, b1⟩; replace B := bthen B b1; clear b1)
      | (clear T2; go_at_call 11; refine (eunit_g n u hu0.out U hU.out _).mono ?_; rintro e v2 ⟨x2, d2, rfl, l2, p2, b2⟩; replace B := bthen B b2; replace p1 := p1.kept b2; clear b2)
      | (clear T3; go_at_call 9; refine (equal_open _ _ _ _ u U _ p1 p2 lU hu).mono ?_; rintro e v3 ⟨rfl, b3⟩; replace B := bthen B b3; clear b3 p1 p2)
      | (clear T4; go_at_call 12; refine (conv_m _ _ _ _ n0 n1 m z0 z1 V hV.out _ (r0.kept B) (r1.kept B) e0 e1 hm0.out h0 h1).mono ?_; rintro e v4 ⟨x4, d4, rfl, l4, p4, b4⟩; replace B := bthen B b4; clear b4)
      | (clear T5; go_at_call 13; refine (econv_m _ _ _ _ n0 n1 m z0 z1 V hV.out _ (r0.kept B) (r1.kept B) e0 e1 hm0.out h0 h1).mono ?_; rintro e v5 ⟨x5, d5, rfl, l5, p5, b5⟩; replace B := bthen B b5; replace p4 := p4.kept b5; clear b5)
      | (clear T6; go_at_call 9; refine (equal_open _ _ _ _ m V _ p4 p5 lV hm).mono ?_; rintro e v6 ⟨rfl, b6⟩; replace B := bthen B b6; clear b6 p4 p5)
      | (clear T7; go_at_call 14; refine (over_m _ _ _ _ n0 n1 z0 z1 O hO.out _ (r0.kept B) (r1.kept B) e0 e1 h0 h1 k0).mono ?_; rintro e v7 ⟨x7, d7, rfl, l7, p7, b7⟩; replace B := bthen B b7; clear b7)
      | (clear T8; go_at_call 15; refine (eover_m _ _ _ _ n0 n1 z0 z1 O hO.out _ (r0.kept B) (r1.kept B) e0 e1 h0 h1).mono ?_; rintro e v8 ⟨x8, d8, rfl, l8, p8, b8⟩; replace B := bthen B b8; replace p7 := p7.kept b8; clear b8)
      | (clear T9; go_at_call 9; refine (equal_open _ _ _ _ n0 O _ p7 p8 lO hh).mono ?_; rintro e v9 ⟨rfl, b9⟩; replace B := bthen B b9; clear b9 p7 p8))
  go_ret
  exact ⟨rfl, B⟩

set_option maxHeartbeats 1600000 in
theorem minplusTells_walk (a0 : Int) (a1 : Option Addr) (cap1 : Nat) (z1 : List Int) (a2 : Option Addr) (cap2 : Nat) (z2 : List Int) (w : World) (h0 : -9223372036854775808 ≤ a0 ∧ a0 ≤ 9223372036854775807) (h1 : FarIn w a1 cap1 z1) (h2 : FarIn w a2 cap2 z2) :
    Calls Try.prog 3 #[.int .i64 a0, .slice a1 z1.length cap1, .slice a2 z2.length cap2] w fun e w' => e = .returned (.bool true) ∧ Below w.heap.size w w' := by
  obtain ⟨r1, l1, k1, _⟩ := h1
  obtain ⟨r2, l2, _, _⟩ := h2
  exact tells_go a0 (min (max a0 0) 300).toNat (show min (max a0 0) 300 = (((min (max a0 0) 300).toNat : Nat) : Int) by omega) (by omega) a1 cap1 _ z1 a2 cap2 _ z2 w r1 r2 rfl rfl (by omega) (by omega) k1 _ rfl (by omega) (by omega) _ _ _ rfl rfl rfl (unit_len _) (conv_len _ _) (over_len _ _)

end Go.Proofs.Ytiefkghpmjbhiaa
namespace Go.Proofs.Ytiefkghpmjbhiaa.minplusTells
open Go.ChangeShapes Go.WideShapes Go.ChangeAt Go.RowKit
set_option linter.unusedVariables false

set_option maxRecDepth 100000 in
theorem lifted (os : Os) (started : os.Started) (H : Type) (enc : TypeId × Value → H) :
    ReturnsInHanded {} Try.checked os 3 .any (Rows.minplusTellsSpec.pre6 enc Try.prog Try.f3 Rows.minplusTellsRow.domain false) (Rows.minplusTellsSpec.post enc Try.prog Try.f3 false true false false) := by
  refine returnsInHanded_of_change_sized (C := Try.checked) own started (by kernel_rfl) Try.func3
    (ChangeSpec.witness6 (enc := enc) (C := Try.checked) false ⟨#[], #[.int .i64 0, .slice none 0 0, .slice none 0 0], []⟩ 8 (by kernel_rfl) (by kernel_rfl) (by kernel_rfl) (by kernel_rfl)) ?_
  intro W base args ds gs before hval0 hW _ hsz0 _
  have hsz : (DataW.weightsEach Try.prog (Try.f3.params.toList ++ Rows.minplusTellsSpec.plain.varTypes Try.prog) (ds ++ gs)).all (· ≤ reachBytes) = true := hsz0
  have hval : ∀ (j : Nat) t v, Try.f3.params[j]? = some t → args[j]? = some v → Value.okWide Try.prog W .any base t v := hval0
  have hW' := hW
  obtain ⟨p, q, hA0, hV, rfl, hfz, hnd⟩ := hW
  have hA : DataW.TrodAll enc Try.prog W 0 (fun _ => true) true Try.f3.params.toList args.toList ds p := hA0
  rw [Try.params3] at hA hval hsz
  obtain ⟨v0, vs0, d0, ds0, p0, q0, hargs, rfl, rfl, h0, r0⟩ := trodAll_cons hA
  obtain ⟨v1, vs1, d1, ds1, p1, q1, rfl, rfl, rfl, h1, r1⟩ := trodAll_cons r0
  obtain ⟨v2, vs2, d2, ds2, p2, q2, rfl, rfl, rfl, h2, r2⟩ := trodAll_cons r1
  obtain ⟨rfl, rfl, rfl⟩ := trodAll_nil r2
  obtain rfl : args = #[v0, v1, v2] := by cases args; simp_all
  obtain ⟨rfl, rfl⟩ := trodVars_none hV
  obtain ⟨a0, rfl, rfl, rfl, w0⟩ := open_int Try.underlying3 (hval 0 3 v0 rfl rfl) h0
  obtain ⟨a1, len1, cap1, rfl⟩ := okWide_slice Try.underlying22 (hval 1 22 v1 rfl rfl)
  have k1 := h1
  have lt1 : ∀ x ∈ p1, x.block < W.heap.size := by obtain ⟨m, hm⟩ := k1; exact DataW.trod_lt m _ _ _ hm
  obtain ⟨z1, rfl, w1⟩ := farIn h1 (fun elems spare e => by
    subst e
    have := sized_slice hsz (j := 1) (t := 22) (e := 3) rfl rfl Try.underlying22
    rw [Try.bytes3] at this
    exact this)
  obtain ⟨a2, len2, cap2, rfl⟩ := okWide_slice Try.underlying22 (hval 2 22 v2 rfl rfl)
  have k2 := h2
  have lt2 : ∀ x ∈ p2, x.block < W.heap.size := by obtain ⟨m, hm⟩ := k2; exact DataW.trod_lt m _ _ _ hm
  obtain ⟨z2, rfl, w2⟩ := farIn h2 (fun elems spare e => by
    subst e
    have := sized_slice hsz (j := 2) (t := 22) (e := 3) rfl rfl Try.underlying22
    rw [Try.bytes3] at this
    exact this)
  clear hA0 hval0 hsz0 hsz
  refine (minplusTells_walk a0 a1 cap1 z1 a2 cap2 z2 W (fits w0) w1 w2).mono fun e W' ⟨he, bel⟩ => ?_
  subst he
  exact ⟨_, rfl, _, _, _, [], _, [], hW', trodAll_mk1 (shut_bool Try.underlying4 _), (trodAll_cons_mk (shut_int Try.underlying3 w0) (trodAll_cons_mk (Below.trod laidOut (by kernel_rfl) (of_decide_eq_true (by kernel_rfl)) k1 bel lt1) (trodAll_cons_mk (Below.trod laidOut (by kernel_rfl) (of_decide_eq_true (by kernel_rfl)) k2 bel lt2) trodAll_mk0))), rfl, bel.frame _, fun h => by cases h⟩

theorem proved : Rows.MinplusTellsSaid :=
  OpenClaim.holds_of_wide 3 Try.f3 rfl rfl rfl rfl rfl rfl rfl ⟨rfl, rfl, rfl, rfl, rfl⟩ rfl rfl rfl rfl rfl (by kernel_rfl) Try.func3 (by kernel_rfl)
    (of_decide_eq_true (by kernel_rfl)) (by unfold Func.isWrapper; first | (rw [if_pos (by decide +kernel)]; kernel_rfl) | (rw [if_neg (by decide +kernel)]; exact ⟨rfl, rfl⟩))
    (fun os started H enc _ => lifted os started H enc)

end Go.Proofs.Ytiefkghpmjbhiaa.minplusTells
namespace Go.Proofs.Ytiefkghpmjbhiaa
theorem minplusTells_holds : Rows.MinplusTellsSaid := minplusTells.proved
#print axioms minplusTells_holds
end Go.Proofs.Ytiefkghpmjbhiaa
