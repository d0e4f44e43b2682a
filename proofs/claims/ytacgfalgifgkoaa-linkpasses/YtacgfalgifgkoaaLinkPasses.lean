/- PROVED: tidewaitlaw.LinkPasses answers true at every input: link.Right and Pass answer what the verifier's own row of packets says. CONDITIONS: none. -/
import Derived.Test.YtacgfalgifgkoaaTold
import Derived.Test.YtacgfalgifgkoaaFar
import Derived.Test.YtacgfalgifgkoaaRefPass
namespace Go.Proofs.Ytacgfalgifgkoaa
open Go.RowKit
set_option linter.unusedVariables false

attribute [local go_sem ↓] eqA eqR

/-- both pairs that came in, boxed -/
theorem boxes (w : World) (a b s t : Int) : Arr ((w.alloc (.cells #[.int .i64 a, .int .i64 b] 22)).alloc (.cells #[.int .i64 s, .int .i64 t] 22)) w.heap.size a b ∧ Arr ((w.alloc (.cells #[.int .i64 a, .int .i64 b] 22)).alloc (.cells #[.int .i64 s, .int .i64 t] 22)) (w.heap.size + 1) s t ∧
    Below w.heap.size w ((w.alloc (.cells #[.int .i64 a, .int .i64 b] 22)).alloc (.cells #[.int .i64 s, .int .i64 t] 22)) :=
  ⟨(Arr.new w _ rfl a b).alloc _, Arr.new (w.alloc _) _ (by simp) s t, balloc (balloc (Below.refl _ _) _) _⟩
/-- what a call of Pass told, put down -/
abbrev put (v : World) (s t c0 c1 l0 l1 k0 k1 : Int) : World := (v.alloc (.cells #[.int .i64 s, .int .i64 t, .int .i64 c0, .int .i64 c1, .int .i64 l0, .int .i64 l1] 24)).alloc (.cells #[.int .i64 k0, .int .i64 k1] 22)
theorem put_is (v : World) (s t c0 c1 l0 l1 k0 k1 : Int) : Rnd (put v s t c0 c1 l0 l1 k0 k1) v.heap.size s t c0 c1 l0 l1 ∧ Arr (put v s t c0 c1 l0 l1 k0 k1) (v.heap.size + 1) k0 k1 ∧ Below v.heap.size v (put v s t c0 c1 l0 l1 k0 k1) :=
  ⟨(Rnd.new v _ rfl s t c0 c1 l0 l1).alloc _, Arr.new (v.alloc _) _ (by simp) k0 k1, balloc (balloc (Below.refl _ _) _) _⟩
/-- all that lies there -/
structure All (w : World) (B C : Nat) (a b s t x0 x1 x2 x3 x4 x5 k0 k1 : Int) (W : World) : Prop where
  hA : Arr W w.heap.size a b
  hS : Arr W (w.heap.size + 1) s t
  h1 : Rnd W B x0 x1 x2 x3 x4 x5
  h2 : Arr W (B + 1) k0 k1
  h3 : Rnd W C x0 x1 x2 x3 x4 x5
  h4 : Arr W (C + 1) k0 k1
  hB : Below w.heap.size w W
theorem All.kept {w : World} {B C : Nat} {a b s t x0 x1 x2 x3 x4 x5 k0 k1 : Int} {W W' : World} (h : All w B C a b s t x0 x1 x2 x3 x4 x5 k0 k1 W) (g : Below W.heap.size W W') : All w B C a b s t x0 x1 x2 x3 x4 x5 k0 k1 W' :=
  ⟨h.hA.kept g, h.hS.kept g, h.h1.kept g, h.h2.kept g, h.h3.kept g, h.h4.kept g, bthen h.hB g⟩
theorem All.cells {w : World} {B C : Nat} {a b s t x0 x1 x2 x3 x4 x5 k0 k1 : Int} {w' : World} (h : All w B C a b s t x0 x1 x2 x3 x4 x5 k0 k1 w') :
    w'.cell? ⟨w.heap.size, 0, none⟩ = some (.int .i64 a) ∧ w'.cell? ⟨w.heap.size, 1, none⟩ = some (.int .i64 b) ∧ w'.cell? ⟨w.heap.size + 1, 0, none⟩ = some (.int .i64 s) ∧ w'.cell? ⟨w.heap.size + 1, 1, none⟩ = some (.int .i64 t) ∧
    w'.cell? ⟨B, 0, none⟩ = some (.int .i64 x0) ∧ w'.cell? ⟨B, 1, none⟩ = some (.int .i64 x1) ∧ w'.cell? ⟨B, 2, none⟩ = some (.int .i64 x2) ∧ w'.cell? ⟨B, 3, none⟩ = some (.int .i64 x3) ∧ w'.cell? ⟨B, 4, none⟩ = some (.int .i64 x4) ∧ w'.cell? ⟨B, 5, none⟩ = some (.int .i64 x5) ∧
    w'.cell? ⟨B + 1, 0, none⟩ = some (.int .i64 k0) ∧ w'.cell? ⟨B + 1, 1, none⟩ = some (.int .i64 k1) ∧
    w'.cell? ⟨C, 0, none⟩ = some (.int .i64 x0) ∧ w'.cell? ⟨C, 1, none⟩ = some (.int .i64 x1) ∧ w'.cell? ⟨C, 2, none⟩ = some (.int .i64 x2) ∧ w'.cell? ⟨C, 3, none⟩ = some (.int .i64 x3) ∧ w'.cell? ⟨C, 4, none⟩ = some (.int .i64 x4) ∧ w'.cell? ⟨C, 5, none⟩ = some (.int .i64 x5) ∧
    w'.cell? ⟨C + 1, 0, none⟩ = some (.int .i64 k0) ∧ w'.cell? ⟨C + 1, 1, none⟩ = some (.int .i64 k1) :=
  ⟨h.hA.c0, h.hA.c1, h.hS.c0, h.hS.c1, h.h1.c0, h.h1.c1, h.h1.c2, h.h1.c3, h.h1.c4, h.h1.c5, h.h2.c0, h.h2.c1, h.h3.c0, h.h3.c1, h.h3.c2, h.h3.c3, h.h3.c4, h.h3.c5, h.h4.c0, h.h4.c1⟩

set_option maxHeartbeats 6400000 in
theorem passes_of (r m a b s t x0 x1 x2 x3 x4 x5 k0 k1 e : Int) (T : Bool) (w : World)
    (p : ∀ v, Calls Try.prog 7 #[.int .i64 r, .int .i64 m, .agg #[.int .i64 a, .int .i64 b], .agg #[.int .i64 s, .int .i64 t]] v fun e' w' => e' = .returned (.tuple #[.agg #[.int .i64 x0, .int .i64 x1, .int .i64 x2, .int .i64 x3, .int .i64 x4, .int .i64 x5], .agg #[.int .i64 k0, .int .i64 k1], .int .i64 e]) ∧ Below v.heap.size v w')
    (q : ∀ v, Calls Try.prog 8 #[.int .i64 r, .int .i64 m, .agg #[.int .i64 a, .int .i64 b], .agg #[.int .i64 s, .int .i64 t]] v fun e' w' => e' = .returned (.tuple #[.agg #[.int .i64 x0, .int .i64 x1, .int .i64 x2, .int .i64 x3, .int .i64 x4, .int .i64 x5], .agg #[.int .i64 k0, .int .i64 k1], .int .i64 e]) ∧ Below v.heap.size v w')
    (f : ∀ v, Calls Try.prog 9 #[.int .i64 r, .int .i64 m, .agg #[.int .i64 a, .int .i64 b], .agg #[.int .i64 s, .int .i64 t]] v fun e' w' => e' = .returned (.bool T) ∧ Below v.heap.size v w')
    (g : ∀ v, Calls Try.prog 10 #[.int .i64 r, .int .i64 m, .agg #[.int .i64 a, .int .i64 b], .agg #[.int .i64 s, .int .i64 t]] v fun e' w' => e' = .returned (.bool T) ∧ Below v.heap.size v w') :
    Calls Try.prog 3 #[.int .i64 r, .int .i64 m, .agg #[.int .i64 a, .int .i64 b], .agg #[.int .i64 s, .int .i64 t]] w fun e w' => e = .returned (.bool true) ∧ Below w.heap.size w w' := by
  have s1 := sameR_self x0 x1 x2 x3 x4 x5
  have s2 := sameA_self k0 k1
  obtain ⟨A, B, C⟩ := boxes w a b s t
  obtain ⟨c0, c1, _, _⟩ := id A
  obtain ⟨c2, c3, _, _⟩ := id B
  cases T
  all_goals
    go_enter Try.func3, Try.ntmps3
    go_wp2_with (first
      | (go_at_call 7; refine (p _).mono ?_; clear p c0 c1 c2 c3; rintro e v1 ⟨rfl, b1⟩; obtain ⟨R, K, b2⟩ := put_is v1 x0 x1 x2 x3 x4 x5 k0 k1; replace A := (A.kept b1).kept b2; replace B := (B.kept b1).kept b2; replace C := bthen (bthen C b1) b2; clear b1 b2; obtain ⟨c0, c1, _, _⟩ := id A; obtain ⟨c2, c3, _, _⟩ := id B)
      | (go_at_call 8; refine (q _).mono ?_; clear q c0 c1 c2 c3; rintro e v2 ⟨rfl, b1⟩; obtain ⟨R2, K2, b2⟩ := put_is v2 x0 x1 x2 x3 x4 x5 k0 k1; replace A := (A.kept b1).kept b2; replace B := (B.kept b1).kept b2; replace R := (R.kept b1).kept b2; replace K := (K.kept b1).kept b2; replace C := bthen (bthen C b1) b2; clear b1 b2))
    have Z : All w v1.heap.size v2.heap.size a b s t x0 x1 x2 x3 x4 x5 k0 k1 _ := ⟨A, B, R, K, R2, K2, C⟩
    clear A B R K R2 K2 C
    have T1 := tok
    go_region_held3 (fun w' => w'.cell? ⟨w.heap.size, 0, none⟩ = some (.int .i64 a) ∧ w'.cell? ⟨w.heap.size, 1, none⟩ = some (.int .i64 b) ∧ w'.cell? ⟨w.heap.size + 1, 0, none⟩ = some (.int .i64 s) ∧ w'.cell? ⟨w.heap.size + 1, 1, none⟩ = some (.int .i64 t) ∧
      w'.cell? ⟨v1.heap.size, 0, none⟩ = some (.int .i64 x0) ∧ w'.cell? ⟨v1.heap.size, 1, none⟩ = some (.int .i64 x1) ∧ w'.cell? ⟨v1.heap.size, 2, none⟩ = some (.int .i64 x2) ∧ w'.cell? ⟨v1.heap.size, 3, none⟩ = some (.int .i64 x3) ∧ w'.cell? ⟨v1.heap.size, 4, none⟩ = some (.int .i64 x4) ∧ w'.cell? ⟨v1.heap.size, 5, none⟩ = some (.int .i64 x5) ∧
      w'.cell? ⟨v1.heap.size + 1, 0, none⟩ = some (.int .i64 k0) ∧ w'.cell? ⟨v1.heap.size + 1, 1, none⟩ = some (.int .i64 k1) ∧
      w'.cell? ⟨v2.heap.size, 0, none⟩ = some (.int .i64 x0) ∧ w'.cell? ⟨v2.heap.size, 1, none⟩ = some (.int .i64 x1) ∧ w'.cell? ⟨v2.heap.size, 2, none⟩ = some (.int .i64 x2) ∧ w'.cell? ⟨v2.heap.size, 3, none⟩ = some (.int .i64 x3) ∧ w'.cell? ⟨v2.heap.size, 4, none⟩ = some (.int .i64 x4) ∧ w'.cell? ⟨v2.heap.size, 5, none⟩ = some (.int .i64 x5) ∧
      w'.cell? ⟨v2.heap.size + 1, 0, none⟩ = some (.int .i64 k0) ∧ w'.cell? ⟨v2.heap.size + 1, 1, none⟩ = some (.int .i64 k1)) (exact Z.cells)
      (first
      | (clear T1; go_at_call 9; refine (f _).mono ?_; rintro e v3 ⟨rfl, b1⟩; replace Z := (Z.kept (Below.drew (Below.refl _ _))).kept b1; clear b1)
      | (go_at_call 10; refine (g _).mono ?_; rintro e v4 ⟨rfl, b1⟩; replace Z := Z.kept b1; clear b1))
    all_goals
      go_wp2
      go_ret
      exact ⟨rfl, Z.hB⟩

theorem linkPasses_walk (a0 a1 : Int) (x2 y2 x3 y3 : Int) (w : World) (w0 : -9223372036854775808 ≤ a0 ∧ a0 ≤ 9223372036854775807) (w1 : -9223372036854775808 ≤ a1 ∧ a1 ≤ 9223372036854775807) (u2 : -9223372036854775808 ≤ x2 ∧ x2 ≤ 9223372036854775807) (v2 : -9223372036854775808 ≤ y2 ∧ y2 ≤ 9223372036854775807) (u3 : -9223372036854775808 ≤ x3 ∧ x3 ≤ 9223372036854775807) (v3 : -9223372036854775808 ≤ y3 ∧ y3 ≤ 9223372036854775807) :
    Calls Try.prog 3 #[.int .i64 a0, .int .i64 a1, .agg #[.int .i64 x2, .int .i64 y2], .agg #[.int .i64 x3, .int .i64 y3]] w fun e w' => e = .returned (.bool true) ∧ Below w.heap.size w w' := by
  have f : ∀ v, Calls Try.prog 9 #[.int .i64 a0, .int .i64 a1, .agg #[.int .i64 x2, .int .i64 y2], .agg #[.int .i64 x3, .int .i64 y3]] v fun e' w' => e' = .returned (.bool (decide (lr a0 a1 x2 y2 x3 y3))) ∧ Below v.heap.size v w' := fun v => (right_any a0 a1 x2 y2 x3 y3 v).mono fun e w' h => ⟨h.1, by rw [h.2]; exact balloc (balloc (Below.refl _ _) _) _⟩
  have g : ∀ v, Calls Try.prog 10 #[.int .i64 a0, .int .i64 a1, .agg #[.int .i64 x2, .int .i64 y2], .agg #[.int .i64 x3, .int .i64 y3]] v fun e' w' => e' = .returned (.bool (decide (lr a0 a1 x2 y2 x3 y3))) ∧ Below v.heap.size v w' := fun v => (oright_any a0 a1 x2 y2 x3 y3 v).mono fun e w' h => ⟨h.1, by rw [h.2]; exact balloc (balloc (Below.refl _ _) _) _⟩
  by_cases h : lr a0 a1 x2 y2 x3 y3
  · exact passes_of a0 a1 x2 y2 x3 y3 _ _ _ _ _ _ _ _ _ _ w (fun v => pass_yes a0 a1 x2 y2 x3 y3 h v) (fun v => opass_yes a0 a1 x2 y2 x3 y3 h v) f g
  · exact passes_of a0 a1 x2 y2 x3 y3 _ _ _ _ _ _ _ _ _ _ w (fun v => pass_no a0 a1 x2 y2 x3 y3 h v) (fun v => opass_no a0 a1 x2 y2 x3 y3 h v) f g

end Go.Proofs.Ytacgfalgifgkoaa
namespace Go.Proofs.Ytacgfalgifgkoaa.linkPasses
open Go.ChangeShapes Go.WideShapes Go.ChangeAt Go.RowKit
set_option linter.unusedVariables false

set_option maxRecDepth 100000 in
theorem lifted (os : Os) (started : os.Started) (H : Type) (enc : TypeId × Value → H) :
    ReturnsInHanded {} Try.checked os 3 .any (Rows.linkPassesSpec.pre6 enc Try.prog Try.f3 Rows.linkPassesRow.domain false) (Rows.linkPassesSpec.post enc Try.prog Try.f3 false true false false) := by
  refine returnsInHanded_of_change_sized (C := Try.checked) own started (by kernel_rfl) Try.func3
    (ChangeSpec.witness6 (enc := enc) (C := Try.checked) false ⟨#[], #[.int .i64 0, .int .i64 0, .agg #[.int .i64 0, .int .i64 0], .agg #[.int .i64 0, .int .i64 0]], []⟩ 8 (by kernel_rfl) (by kernel_rfl) (by kernel_rfl) (by kernel_rfl)) ?_
  intro W base args ds gs before hval0 hW _ hsz0 _
  have hsz : (DataW.weightsEach Try.prog (Try.f3.params.toList ++ Rows.linkPassesSpec.plain.varTypes Try.prog) (ds ++ gs)).all (· ≤ reachBytes) = true := hsz0
  have hval : ∀ (j : Nat) t v, Try.f3.params[j]? = some t → args[j]? = some v → Value.okWide Try.prog W .any base t v := hval0
  have hW' := hW
  obtain ⟨p, q, hA0, hV, rfl, hfz, hnd⟩ := hW
  have hA : DataW.TrodAll enc Try.prog W 0 (fun _ => true) true Try.f3.params.toList args.toList ds p := hA0
  rw [Try.params3] at hA hval hsz
  obtain ⟨v0, vs0, d0, ds0, p0, q0, hargs, rfl, rfl, h0, r0⟩ := trodAll_cons hA
  obtain ⟨v1, vs1, d1, ds1, p1, q1, rfl, rfl, rfl, h1, r1⟩ := trodAll_cons r0
  obtain ⟨v2, vs2, d2, ds2, p2, q2, rfl, rfl, rfl, h2, r2⟩ := trodAll_cons r1
  obtain ⟨v3, vs3, d3, ds3, p3, q3, rfl, rfl, rfl, h3, r3⟩ := trodAll_cons r2
  obtain ⟨rfl, rfl, rfl⟩ := trodAll_nil r3
  obtain rfl : args = #[v0, v1, v2, v3] := by cases args; simp_all
  obtain ⟨rfl, rfl⟩ := trodVars_none hV
  obtain ⟨a0, rfl, rfl, rfl, w0⟩ := open_int Try.underlying3 (hval 0 3 v0 rfl rfl) h0
  obtain ⟨a1, rfl, rfl, rfl, w1⟩ := open_int Try.underlying3 (hval 1 3 v1 rfl rfl) h1
  obtain ⟨x2, y2, rfl, rfl, rfl, wx2, wy2⟩ := openA (hval 2 22 v2 rfl rfl) h2
  obtain ⟨x3, y3, rfl, rfl, rfl, wx3, wy3⟩ := openA (hval 3 22 v3 rfl rfl) h3
  clear hA0 hval0 hsz0 hsz
  refine (linkPasses_walk a0 a1 x2 y2 x3 y3 W (fits w0) (fits w1) (fits wx2) (fits wy2) (fits wx3) (fits wy3)).mono fun e W' ⟨he, bel⟩ => ?_
  subst he
  exact ⟨_, rfl, _, _, _, [], _, [], hW', trodAll_mk1 (shut_bool Try.underlying4 _), (trodAll_cons_mk (shut_int Try.underlying3 w0) (trodAll_cons_mk (shut_int Try.underlying3 w1) (trodAll_cons_mk (shutA wx2 wy2) (trodAll_cons_mk (shutA wx3 wy3) trodAll_mk0)))), rfl, bel.frame _, fun h => by cases h⟩

theorem proved : Rows.LinkPassesSaid :=
  OpenClaim.holds_of_wide 3 Try.f3 rfl rfl rfl rfl rfl rfl rfl ⟨rfl, rfl, rfl, rfl, rfl⟩ rfl rfl rfl rfl rfl (by kernel_rfl) Try.func3 (by kernel_rfl)
    (of_decide_eq_true (by kernel_rfl)) (by unfold Func.isWrapper; first | (rw [if_pos (by decide +kernel)]; kernel_rfl) | (rw [if_neg (by decide +kernel)]; exact ⟨rfl, rfl⟩))
    (fun os started H enc _ => lifted os started H enc)

end Go.Proofs.Ytacgfalgifgkoaa.linkPasses
namespace Go.Proofs.Ytacgfalgifgkoaa
theorem linkPasses_holds : Rows.LinkPassesSaid := linkPasses.proved
#print axioms linkPasses_holds
end Go.Proofs.Ytacgfalgifgkoaa
