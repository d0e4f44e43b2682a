/- PROVED: BoundTells, at every size. CONDITIONS: none. -/
import Derived.Test.YtmijlmidlddcpaaAlive
import Derived.Test.YtmijlmidlddcpaaRefTop
import Derived.Test.YtmijlmidlddcpaaRefKeep
namespace Go.Proofs.Ytmijlmidlddcpaa
open Go.RowKit
set_option linter.unusedVariables false

theorem hhigh_n (a1 a2 : Option Addr) (c1 c2 n m : Nat) (f g : List Int) (w : World) (k1 : Row w a1 f) (k2 : Row w a2 g) (e1 : f.length = n) (e2 : g.length = m) (h : n ≤ 17592186044415) (h2 : m ≤ 17592186044415) (X : Int) (hX : high f g = X) :
    Calls Try.prog 11 #[.slice a1 n c1, .slice a2 m c2] w fun e w' => e = .returned (.int .i64 X) ∧ Below w.heap.size w w' := by
  subst e1; subst e2; subst hX
  exact hhigh_any a1 a2 c1 c2 f g h h2 w k1 k2
theorem hfar_n (a1 a2 : Option Addr) (c1 c2 n m : Nat) (f g : List Int) (w : World) (k1 : Row w a1 f) (k2 : Row w a2 g) (e1 : f.length = n) (e2 : g.length = m) (h : n ≤ 17592186044415) (h2 : m ≤ 17592186044415) (X : Nat) (hX : far f g = X) (b : Bool) (hb : decide (reach f g) = b) :
    Calls Try.prog 9 #[.slice a1 n c1, .slice a2 m c2] w fun e w' => e = .returned (.tuple #[.int .i64 X, .bool b]) ∧ Below w.heap.size w w' := by
  subst e1; subst e2; subst hX; subst hb
  exact (hfar_any a1 a2 c1 c2 f g w k1 k2 h h2).mono fun _ _ ⟨he, hw⟩ => ⟨he, hw ▸ Below.refl _ _⟩
theorem hserves_n (R L n : Int) (hL : -9223372036854775808 ≤ L ∧ L ≤ 9223372036854775807) (S : List Int) (l : Nat) (hS : serves R L n = S) (hl : S.length = l) (w : World) :
    Calls Try.prog 14 #[.int .i64 R, .int .i64 L, .int .i64 n] w (AnsN w l S) :=
  (hserves_any R L n hL w).mono fun e w' q => q.told (by rw [hS]; exact hl) hS
theorem hkeeps_n (a1 a2 : Option Addr) (c1 c2 n m : Nat) (f g : List Int) (w : World) (k1 : Row w a1 f) (k2 : Row w a2 g) (e1 : f.length = n) (e2 : g.length = m) (h : n ≤ 17592186044415) (h2 : m ≤ 17592186044415) (b : Bool) (hb : decide (holds f g) = b) :
    Calls Try.prog 16 #[.slice a1 n c1, .slice a2 m c2] w fun e w' => e = .returned (.bool b) ∧ Below w.heap.size w w' := by
  subst e1; subst e2; subst hb
  exact (hkeeps_any a1 a2 c1 c2 f g w k1 k2 h h2).mono fun _ _ ⟨he, hw⟩ => ⟨he, hw ▸ Below.refl _ _⟩
theorem serves_top (R L n : Int) : (serves R L n).length ≤ 300 := by
  unfold serves
  split
  · rw [outs_len]; unfold many; omega
  · simp

set_option maxHeartbeats 3200000 in
theorem tells_go (a0 a1 : Option Addr) (c0 c1 n m : Nat) (f g : List Int) (R L k : Int) (w : World) (r0 : Row w a0 f) (r1 : Row w a1 g) (e0 : Hid (f.length = n)) (e1 : Hid (g.length = m)) (hn : n ≤ 17592186044415) (hm : m ≤ 17592186044415) (hc : n ≤ c0)
    (w2 : Hid (-9223372036854775808 ≤ R ∧ R ≤ 9223372036854775807)) (w3 : Hid (-9223372036854775808 ≤ L ∧ L ≤ 9223372036854775807)) (w4 : Hid (-9223372036854775808 ≤ k ∧ k ≤ 9223372036854775807))
    (X : Int) (hX : Hid (high f g = X)) (F : Nat) (hF : Hid (far f g = F)) (ok : Bool) (hok : Hid (decide (reach f g) = ok)) (S : List Int) (l : Nat) (hS : Hid (serves R L k = S)) (hl : Hid (S.length = l)) (l3 : l ≤ 300) (yes : Bool) (hy : Hid (decide (holds f g) = yes)) :
    Calls Try.prog 3 #[.slice a0 n c0, .slice a1 m c1, .int .i64 R, .int .i64 L, .int .i64 k] w fun e w' => e = .returned (.bool true) ∧ Below w.heap.size w w' := by
  have B : Below w.heap.size w w := Below.refl _ _
  have hXX : (X == X) = true := beq_self_eq_true X
  have hFF : ((F : Int) == (F : Int)) = true := beq_self_eq_true _
  have ho : (ok == ok) = true := by cases ok <;> rfl
  have hyy : (yes == yes) = true := by cases yes <;> rfl
  have T1 := tok
  have T2 := tok
  have T3 := tok
  have T4 := tok
  have T5 := tok
  have T6 := tok
  have T7 := tok
  have T8 := tok
  have T9 := tok
  go_enter Try.func3, Try.ntmps3
  go_wp2_with (first
    | (clear T1; go_at_call 8; refine (far_n a0 a1 _ _ n m f g _ r0 r1 e0.out e1.out hn hm F hF.out ok hok.out).mono ?_; rintro e v1 ⟨rfl, b1⟩; replace B := bthen B b1; replace r0 := r0.kept b1; replace r1 := r1.kept b1; clear b1)
    | (clear T2; go_at_call 9; refine (hfar_n a0 a1 _ _ n m f g _ r0 r1 e0.out e1.out hn hm F hF.out ok hok.out).mono ?_; rintro e v2 ⟨rfl, b2⟩; replace B := bthen B b2; replace r0 := r0.kept b2; replace r1 := r1.kept b2; clear b2)
    | (clear T3; go_at_call 10; refine (high_n a0 a1 _ _ n m f g _ r0 r1 e0.out e1.out hn hm X hX.out).mono ?_; rintro e v3 ⟨rfl, b3⟩; replace B := bthen B b3; replace r0 := r0.kept b3; replace r1 := r1.kept b3; clear b3)
    | (clear T4; go_at_call 11; refine (hhigh_n a0 a1 _ _ n m f g _ r0 r1 e0.out e1.out hn hm X hX.out).mono ?_; rintro e v4 ⟨rfl, b4⟩; replace B := bthen B b4; replace r0 := r0.kept b4; replace r1 := r1.kept b4; clear b4)
    | (clear T5; go_at_call 13; refine (serves_n R L k w2.out w3.out w4.out S l hS.out hl.out _).mono ?_; rintro e v5 ⟨a5, c5, rfl, _, r5, b5⟩; replace B := bthen B b5; replace r0 := r0.kept b5; replace r1 := r1.kept b5; clear b5)
    | (clear T6; go_at_call 14; refine (hserves_n R L k w3.out S l hS.out hl.out _).mono ?_; rintro e v6 ⟨a6, c6, rfl, _, r6, b6⟩; replace B := bthen B b6; replace r0 := r0.kept b6; replace r1 := r1.kept b6; replace r5 := r5.kept b6; clear b6)
    | (clear T7; go_at_call 12; refine (equal_n a5 a6 _ _ l l S S _ r5 r6 hl.out hl.out (by omega) (by omega) true (eqRow _)).mono ?_; rintro e v7 ⟨rfl, b7⟩; replace B := bthen B b7; replace r0 := r0.kept b7; replace r1 := r1.kept b7; clear b7 r5 r6)
    | (clear T8; go_at_call 15; refine (holds_n a0 a1 _ _ n m f g _ r0 r1 e0.out e1.out hn hm hc yes hy.out).mono ?_; rintro e v8 ⟨rfl, b8⟩; replace B := bthen B b8; replace r0 := r0.kept b8; replace r1 := r1.kept b8; clear b8)
    | (clear T9; go_at_call 16; refine (hkeeps_n a0 a1 _ _ n m f g _ r0 r1 e0.out e1.out hn hm yes hy.out).mono ?_; rintro e v9 ⟨rfl, b9⟩; replace B := bthen B b9; clear b9 r0 r1))
  go_ret
  exact ⟨rfl, B⟩

theorem boundTells_walk (a0 : Option Addr) (cap0 : Nat) (z0 : List Int) (a1 : Option Addr) (cap1 : Nat) (z1 : List Int) (a2 a3 a4 : Int) (w : World) (h0 : FarIn w a0 cap0 z0) (h1 : FarIn w a1 cap1 z1) (w2 : -9223372036854775808 ≤ a2 ∧ a2 ≤ 9223372036854775807) (w3 : -9223372036854775808 ≤ a3 ∧ a3 ≤ 9223372036854775807) (w4 : -9223372036854775808 ≤ a4 ∧ a4 ≤ 9223372036854775807) :
    Calls Try.prog 3 #[.slice a0 z0.length cap0, .slice a1 z1.length cap1, .int .i64 a2, .int .i64 a3, .int .i64 a4] w fun e w' => e = .returned (.bool true) ∧ Below w.heap.size w w' :=
  tells_go a0 a1 cap0 cap1 z0.length z1.length z0 z1 a2 a3 a4 w h0.1 h1.1 rfl rfl (by have := h0.2.1; omega) (by have := h1.2.1; omega) h0.2.2.1 w2 w3 w4 _ rfl _ rfl _ rfl _ _ rfl rfl (serves_top a2 a3 a4) _ rfl

end Go.Proofs.Ytmijlmidlddcpaa
namespace Go.Proofs.Ytmijlmidlddcpaa.boundTells
open Go.ChangeShapes Go.WideShapes Go.ChangeAt Go.RowKit
set_option linter.unusedVariables false

set_option maxRecDepth 100000 in
theorem lifted (os : Os) (started : os.Started) (H : Type) (enc : TypeId × Value → H) :
    ReturnsInHanded {} Try.checked os 3 .any (Rows.boundTellsSpec.pre6 enc Try.prog Try.f3 Rows.boundTellsRow.domain false) (Rows.boundTellsSpec.post enc Try.prog Try.f3 false true false false) := by
  refine returnsInHanded_of_change_sized (C := Try.checked) own started (by kernel_rfl) Try.func3
    (ChangeSpec.witness6 (enc := enc) (C := Try.checked) false ⟨#[], #[.slice none 0 0, .slice none 0 0, .int .i64 0, .int .i64 0, .int .i64 0], []⟩ 8 (by kernel_rfl) (by kernel_rfl) (by kernel_rfl) (by kernel_rfl)) ?_
  intro W base args ds gs before hval0 hW _ hsz0 _
  have hsz : (DataW.weightsEach Try.prog (Try.f3.params.toList ++ Rows.boundTellsSpec.plain.varTypes Try.prog) (ds ++ gs)).all (· ≤ reachBytes) = true := hsz0
  have hval : ∀ (j : Nat) t v, Try.f3.params[j]? = some t → args[j]? = some v → Value.okWide Try.prog W .any base t v := hval0
  have hW' := hW
  obtain ⟨p, q, hA0, hV, rfl, hfz, hnd⟩ := hW
  have hA : DataW.TrodAll enc Try.prog W 0 (fun _ => true) true Try.f3.params.toList args.toList ds p := hA0
  rw [Try.params3] at hA hval hsz
  obtain ⟨v0, vs0, d0, ds0, p0, q0, hargs, rfl, rfl, h0, r0⟩ := trodAll_cons hA
  obtain ⟨v1, vs1, d1, ds1, p1, q1, rfl, rfl, rfl, h1, r1⟩ := trodAll_cons r0
  obtain ⟨v2, vs2, d2, ds2, p2, q2, rfl, rfl, rfl, h2, r2⟩ := trodAll_cons r1
  obtain ⟨v3, vs3, d3, ds3, p3, q3, rfl, rfl, rfl, h3, r3⟩ := trodAll_cons r2
  obtain ⟨v4, vs4, d4, ds4, p4, q4, rfl, rfl, rfl, h4, r4⟩ := trodAll_cons r3
  obtain ⟨rfl, rfl, rfl⟩ := trodAll_nil r4
  obtain rfl : args = #[v0, v1, v2, v3, v4] := by cases args; simp_all
  obtain ⟨rfl, rfl⟩ := trodVars_none hV
  obtain ⟨a0, len0, cap0, rfl⟩ := okWide_slice Try.underlying22 (hval 0 22 v0 rfl rfl)
  have k0 := h0
  have lt0 : ∀ x ∈ p0, x.block < W.heap.size := by obtain ⟨m, hm⟩ := k0; exact DataW.trod_lt m _ _ _ hm
  obtain ⟨z0, rfl, w0⟩ := farIn h0 (fun elems spare e => by
    subst e
    have := sized_slice hsz (j := 0) (t := 22) (e := 3) rfl rfl Try.underlying22
    rw [Try.bytes3] at this
    exact this)
  obtain ⟨a1, len1, cap1, rfl⟩ := okWide_slice Try.underlying22 (hval 1 22 v1 rfl rfl)
  have k1 := h1
  have lt1 : ∀ x ∈ p1, x.block < W.heap.size := by obtain ⟨m, hm⟩ := k1; exact DataW.trod_lt m _ _ _ hm
  obtain ⟨z1, rfl, w1⟩ := farIn h1 (fun elems spare e => by
    subst e
    have := sized_slice hsz (j := 1) (t := 22) (e := 3) rfl rfl Try.underlying22
    rw [Try.bytes3] at this
    exact this)
  obtain ⟨a2, rfl, rfl, rfl, w2⟩ := open_int Try.underlying3 (hval 2 3 v2 rfl rfl) h2
  obtain ⟨a3, rfl, rfl, rfl, w3⟩ := open_int Try.underlying3 (hval 3 3 v3 rfl rfl) h3
  obtain ⟨a4, rfl, rfl, rfl, w4⟩ := open_int Try.underlying3 (hval 4 3 v4 rfl rfl) h4
  clear hA0 hval0 hsz0 hsz
  refine (boundTells_walk a0 cap0 z0 a1 cap1 z1 a2 a3 a4 W w0 w1 (fits w2) (fits w3) (fits w4)).mono fun e W' ⟨he, bel⟩ => ?_
  subst he
  exact ⟨_, rfl, _, _, _, [], _, [], hW', trodAll_mk1 (shut_bool Try.underlying4 _), (trodAll_cons_mk (Below.trod laidOut (by kernel_rfl) (of_decide_eq_true (by kernel_rfl)) k0 bel lt0) (trodAll_cons_mk (Below.trod laidOut (by kernel_rfl) (of_decide_eq_true (by kernel_rfl)) k1 bel lt1) (trodAll_cons_mk (shut_int Try.underlying3 w2) (trodAll_cons_mk (shut_int Try.underlying3 w3) (trodAll_cons_mk (shut_int Try.underlying3 w4) trodAll_mk0))))), rfl, bel.frame _, fun h => by cases h⟩

theorem proved : Rows.BoundTellsSaid :=
  OpenClaim.holds_of_wide 3 Try.f3 rfl rfl rfl rfl rfl rfl rfl ⟨rfl, rfl, rfl, rfl, rfl⟩ rfl rfl rfl rfl rfl (by kernel_rfl) Try.func3 (by kernel_rfl)
    (of_decide_eq_true (by kernel_rfl)) (by unfold Func.isWrapper; first | (rw [if_pos (by decide +kernel)]; kernel_rfl) | (rw [if_neg (by decide +kernel)]; exact ⟨rfl, rfl⟩))
    (fun os started H enc _ => lifted os started H enc)

end Go.Proofs.Ytmijlmidlddcpaa.boundTells
namespace Go.Proofs.Ytmijlmidlddcpaa
theorem boundTells_holds : Rows.BoundTellsSaid := boundTells.proved
#print axioms boundTells_holds
end Go.Proofs.Ytmijlmidlddcpaa
