/- PROVED: PotentialEither: either there is a bound, or a way round: never both, never neither. CONDITIONS: none. -/
import Derived.Test.YtikcjlignnfkdaaTold
import Derived.Test.YtikcjlignnfkdaaFar
import Derived.Test.YtikcjlignnfkdaaAlv
namespace Go.Proofs.Ytikcjlignnfkdaa.Z
open Go.RowKit
set_option linter.unusedVariables false

set_option maxHeartbeats 6400000 in
theorem either_w (N : Int) (a : Option Addr) (cap : Nat) (L : List Ed) (w : World) (hE : ERow w a L) (hl : L.length ≤ 9223372036854775807) (hg : ¬ grt N L) :
    Calls Try.prog 7 #[.agg #[.int .i64 N, .slice a L.length cap]] w fun e w' => e = .returned (.bool true) ∧ Below w.heap.size w w' := by
  have c11 : Hid (∀ v, ERow v a L → Calls Try.prog 11 #[.agg #[.int .i64 N, .slice a L.length cap]] v fun e w' => e = .returned (.tuple #[.slice none 0 0, .int .i64 2]) ∧ Below v.heap.size v w') := fun v h => most_wrong N a cap L v h hl hg
  have c16 : Hid (∀ v, ERow v a L → Calls Try.prog 16 #[.agg #[.int .i64 N, .slice a L.length cap]] v fun e w' => e = .returned (.tuple #[.slice none 0 0, .int .i64 2]) ∧ Below v.heap.size v w') := fun v h => cycle_wrong N a cap L v h hl hg
  have c12 : Hid (∀ v, ERow v a L → Calls Try.prog 12 #[.agg #[.int .i64 N, .slice a L.length cap]] v fun e w' => e = .returned (.int .i64 2) ∧ Below v.heap.size v w') := fun v h => by have := wrong_any N a cap L v h hl; rw [gwr_no hg] at this; exact this
  generalize L.length = m at *
  have B : Below w.heap.size w (w.alloc (.cells #[.int .i64 N, .slice a m cap] 24)) := balloc (Below.refl _ _) _
  have E := hE.kept B
  have K := Gb.new w N a m cap
  have c17 : Hid (∀ v : World, True → Calls Try.prog 17 #[] v fun e w' => e = .returned (.bool true) ∧ Below v.heap.size v w') := fun v _ => alive_any v
  obtain ⟨w0, hw0⟩ : ∃ w0, w.alloc (.cells #[.int .i64 N, .slice a m cap] 24) = w0 := ⟨_, rfl⟩
  rw [hw0] at B E K
  obtain ⟨g0, g1⟩ := id K
  clear hE hg
  go_enter Try.func7, Try.ntmps7
  go_wp2_with (first
    | (go_at_call 17; refine (c17.out _ trivial).mono ?_; rintro e v17 ⟨rfl, bb⟩; clear c17; replace E := E.kept bb; replace K := K.kept bb; replace B := bthen B bb; clear g0 g1; obtain ⟨g0, g1⟩ := id K)
    | (go_at_call 11; refine (c11.out _ E).mono ?_; rintro e v11 ⟨rfl, bb⟩; clear c11; replace E := E.kept bb; replace K := K.kept bb; replace B := bthen B bb; clear g0 g1; obtain ⟨g0, g1⟩ := id K)
    | (go_at_call 16; refine (c16.out _ E).mono ?_; rintro e v16 ⟨rfl, bb⟩; clear c16; replace E := E.kept bb; replace K := K.kept bb; replace B := bthen B bb; clear g0 g1; obtain ⟨g0, g1⟩ := id K)
    | (go_at_call 12; refine (c12.out _ E).mono ?_; rintro e v12 ⟨rfl, bb⟩; clear c12; replace E := E.kept bb; replace K := K.kept bb; replace B := bthen B bb; clear g0 g1; obtain ⟨g0, g1⟩ := id K))
  go_ret
  exact ⟨rfl, B⟩

set_option maxHeartbeats 6400000 in
theorem either_y (n : Nat) (es : List Eg) (hG : Gph n es) (hp : noPos es) (a : Option Addr) (cap m : Nat) (hm : es.length = m) (w : World) (hE : GRow w a es) :
    Calls Try.prog 7 #[.agg #[.int .i64 n, .slice a m cap]] w fun e w' => e = .returned (.bool true) ∧ Below w.heap.size w w' := by
  have n3 := hG.n3
  have m4 : m ≤ 4800 := by rw [← hm]; exact hG.m4
  have c11 : Hid (∀ v, GRow v a es → Calls Try.prog 11 #[.agg #[.int .i64 n, .slice a m cap]] v fun e w' => ∃ M d, e = .returned (.tuple #[.slice (some ⟨M, 0, none⟩) n n, .int .i64 0]) ∧ Cells w' M n d ∧ Mst es d ∧ Below v.heap.size v w') := fun v h => most_yes n es hG a cap m hm hp v h
  have c16 : Hid (∀ v, GRow v a es → Calls Try.prog 16 #[.agg #[.int .i64 n, .slice a m cap]] v fun e w' => e = .returned (.tuple #[.slice none 0 0, .int .i64 3]) ∧ Below v.heap.size v w') := fun v h => cycle_yes n es hG a cap m hm hp v h
  have c12 : Hid (∀ v, GRow v a es → Calls Try.prog 12 #[.agg #[.int .i64 n, .slice a m cap]] v fun e w' => e = .returned (.int .i64 0) ∧ Below v.heap.size v w') := fun v h => wrong_yes n es hG a cap m hm v h
  have c9 : Hid (∀ v, GRow v a es → Calls Try.prog 9 #[.agg #[.int .i64 n, .slice a m cap], .slice none 0 0] v fun e w' => e = .returned (.tuple #[.int .i64 0, .int .i64 0]) ∧ Below v.heap.size v w') := fun v h => weigh_n n es hG a cap m hm none 0 0 [] rfl (by omega) v h (.inl rfl) 0 0 (wge_yes (fun j hj => by simp at hj))
  have B : Below w.heap.size w (w.alloc (.cells #[.int .i64 n, .slice a m cap] 24)) := balloc (Below.refl _ _) _
  have E := hE.kept B
  have K := Gb.new w n a m cap
  have c17 : Hid (∀ v : World, True → Calls Try.prog 17 #[] v fun e w' => e = .returned (.bool true) ∧ Below v.heap.size v w') := fun v _ => alive_any v
  obtain ⟨w0, hw0⟩ : ∃ w0, w.alloc (.cells #[.int .i64 n, .slice a m cap] 24) = w0 := ⟨_, rfl⟩
  rw [hw0] at B E K
  obtain ⟨g0, g1⟩ := id K
  clear hE hG hp hm
  go_enter Try.func7, Try.ntmps7
  go_wp2_with (first
    | (go_at_call 17; refine (c17.out _ trivial).mono ?_; rintro e v17 ⟨rfl, bb⟩; clear c17; replace E := E.kept bb; replace K := K.kept bb; replace B := bthen B bb; clear g0 g1; obtain ⟨g0, g1⟩ := id K)
    | (go_at_call 11; refine (c11.out _ E).mono ?_; rintro e v11 ⟨M, d, rfl, C, S, bb⟩; clear c11; replace E := E.kept bb; replace K := K.kept bb; replace B := bthen B bb; clear g0 g1; obtain ⟨g0, g1⟩ := id K)
    | (go_at_call 16; refine (c16.out _ E).mono ?_; rintro e v16 ⟨rfl, bb⟩; clear c16; replace E := E.kept bb; replace K := K.kept bb; replace B := bthen B bb; clear g0 g1; obtain ⟨g0, g1⟩ := id K)
    | (go_at_call 12; refine (c12.out _ E).mono ?_; rintro e v12 ⟨rfl, bb⟩; clear c12; replace E := E.kept bb; replace K := K.kept bb; replace B := bthen B bb; clear g0 g1; obtain ⟨g0, g1⟩ := id K)
    | (go_at_call 9; refine (c9.out _ E).mono ?_; rintro e v9 ⟨rfl, bb⟩; clear c9; replace E := E.kept bb; replace K := K.kept bb; replace B := bthen B bb; clear g0 g1; obtain ⟨g0, g1⟩ := id K))
  go_ret
  exact ⟨rfl, B⟩

set_option maxHeartbeats 6400000 in
theorem either_n (n : Nat) (es : List Eg) (hG : Gph n es) (hp : ¬ noPos es) (a : Option Addr) (cap m : Nat) (hm : es.length = m) (w : World) (hE : GRow w a es) :
    Calls Try.prog 7 #[.agg #[.int .i64 n, .slice a m cap]] w fun e w' => e = .returned (.bool true) ∧ Below w.heap.size w w' := by
  have n3 := hG.n3
  have m4 : m ≤ 4800 := by rw [← hm]; exact hG.m4
  have c11 : Hid (∀ v, GRow v a es → Calls Try.prog 11 #[.agg #[.int .i64 n, .slice a m cap]] v fun e w' => e = .returned (.tuple #[.slice none 0 0, .int .i64 3]) ∧ Below v.heap.size v w') := fun v h => most_no n es hG a cap m hm hp v h
  have c16 : Hid (∀ v, GRow v a es → Calls Try.prog 16 #[.agg #[.int .i64 n, .slice a m cap]] v fun e w' => ∃ g p c R, e = .returned (.tuple #[.slice (some ⟨g, 0, none⟩) p c, .int .i64 0]) ∧ Rgo n es R p ∧ p ≤ c ∧ Cells w' g p (fun j => (R j : Int)) ∧ Below v.heap.size v w') := fun v h => cycle_no n es hG a cap m hm hp v h
  have c12 : Hid (∀ v, GRow v a es → Calls Try.prog 12 #[.agg #[.int .i64 n, .slice a m cap]] v fun e w' => e = .returned (.int .i64 0) ∧ Below v.heap.size v w') := fun v h => wrong_yes n es hG a cap m hm v h
  have c9 : Hid (∀ (g p c : Nat) (R : Nat → Nat), Rgo n es R p → ∀ v, GRow v a es → Cells v g p (fun j => (R j : Int)) → Calls Try.prog 9 #[.agg #[.int .i64 n, .slice a m cap], .slice (some ⟨g, 0, none⟩) p c] v fun e w' => e = .returned (.tuple #[.int .i64 (nsum es R p), .int .i64 0]) ∧ Below v.heap.size v w') := fun g p c R hR v h k => weigh_n n es hG a cap m hm (some ⟨g, 0, none⟩) c p _ (outs_len _ _) (by have := hR.pn; omega) v h k.row _ _ (wge_wok hG (by have := hR.pn; omega) hR.wok)
  have B : Below w.heap.size w (w.alloc (.cells #[.int .i64 n, .slice a m cap] 24)) := balloc (Below.refl _ _) _
  have E := hE.kept B
  have K := Gb.new w n a m cap
  have c17 : Hid (∀ v : World, True → Calls Try.prog 17 #[] v fun e w' => e = .returned (.bool true) ∧ Below v.heap.size v w') := fun v _ => alive_any v
  obtain ⟨w0, hw0⟩ : ∃ w0, w.alloc (.cells #[.int .i64 n, .slice a m cap] 24) = w0 := ⟨_, rfl⟩
  rw [hw0] at B E K
  obtain ⟨g0, g1⟩ := id K
  clear hE hG hp hm
  go_enter Try.func7, Try.ntmps7
  go_wp2_with (first
    | (go_at_call 17; refine (c17.out _ trivial).mono ?_; rintro e v17 ⟨rfl, bb⟩; clear c17; replace E := E.kept bb; replace K := K.kept bb; replace B := bthen B bb; clear g0 g1; obtain ⟨g0, g1⟩ := id K)
    | (go_at_call 11; refine (c11.out _ E).mono ?_; rintro e v11 ⟨rfl, bb⟩; clear c11; replace E := E.kept bb; replace K := K.kept bb; replace B := bthen B bb; clear g0 g1; obtain ⟨g0, g1⟩ := id K)
    | (go_at_call 16; refine (c16.out _ E).mono ?_; rintro e v16 ⟨g, p, c, R, rfl, hR, hpc, C, bb⟩; clear c16; replace E := E.kept bb; replace K := K.kept bb; replace B := bthen B bb; clear g0 g1; obtain ⟨g0, g1⟩ := id K)
    | (go_at_call 12; refine (c12.out _ E).mono ?_; rintro e v12 ⟨rfl, bb⟩; replace C := C.kept bb; clear c12; replace E := E.kept bb; replace K := K.kept bb; replace B := bthen B bb; clear g0 g1; obtain ⟨g0, g1⟩ := id K)
    | (go_at_call 9; refine (c9.out g p c R hR _ E C).mono ?_; rintro e v9 ⟨rfl, bb⟩; have d4 : decide (0 < nsum es R p) = true := decide_eq_true hR.pos; clear c9; replace E := E.kept bb; replace K := K.kept bb; replace B := bthen B bb; clear g0 g1; obtain ⟨g0, g1⟩ := id K))
  go_ret
  exact ⟨rfl, B⟩

theorem potentialEither_walk (N : Int) (a : Option Addr) (cap : Nat) (L : List Ed) (w : World) (hE : FarE w a cap L) :
    Calls Try.prog 7 #[.agg #[.int .i64 N, .slice a L.length cap]] w fun e w' => e = .returned (.bool true) ∧ Below w.heap.size w w' := by
  by_cases hg : grt N L
  · obtain ⟨n, es, rfl, rfl, hG⟩ := grt_gph hg
    rw [List.length_map]
    by_cases hp : noPos es
    · exact either_y n es hG hp a cap _ rfl w hE.1
    · exact either_n n es hG hp a cap _ rfl w hE.1
  · exact either_w N a cap L w hE.1 (by have := hE.2; omega) hg

end Go.Proofs.Ytikcjlignnfkdaa.Z
namespace Go.Proofs.Ytikcjlignnfkdaa.potentialEither
open Go.ChangeShapes Go.WideShapes Go.ChangeAt Go.RowKit Z
set_option linter.unusedVariables false

set_option maxRecDepth 100000 in
theorem lifted (os : Os) (started : os.Started) (H : Type) (enc : TypeId × Value → H) :
    ReturnsInHanded {} Try.checked os 7 .any (Rows.potentialEitherSpec.pre6 enc Try.prog Try.f7 Rows.potentialEitherRow.domain false) (Rows.potentialEitherSpec.post enc Try.prog Try.f7 false true false false) := by
  refine returnsInHanded_of_change_sized (C := Try.checked) own started (by kernel_rfl) Try.func7
    (ChangeSpec.witness6 (enc := enc) (C := Try.checked) false ⟨#[], #[.agg #[.int .i64 0, .slice none 0 0]], []⟩ 8 (by kernel_rfl) (by kernel_rfl) (by kernel_rfl) (by kernel_rfl)) ?_
  intro W base args ds gs before hval0 hW _ hsz0 _
  have hval : ∀ (j : Nat) t v, Try.f7.params[j]? = some t → args[j]? = some v → Value.okWide Try.prog W .any base t v := hval0
  have hW' := hW
  obtain ⟨p, q, hA0, hV, rfl, hfz, hnd⟩ := hW
  have hA : DataW.TrodAll enc Try.prog W 0 (fun _ => true) true Try.f7.params.toList args.toList ds p := hA0
  rw [Try.params7] at hA hval
  obtain ⟨v0, vs0, d0, ds0, p0, q0, hargs, rfl, rfl, h0, r0⟩ := trodAll_cons hA
  obtain ⟨rfl, rfl, rfl⟩ := trodAll_nil r0
  obtain rfl : args = #[v0] := by cases args; simp_all
  obtain ⟨rfl, rfl⟩ := trodVars_none hV
  have k0 := h0
  have lt0 : ∀ x ∈ p0, x.block < W.heap.size := by obtain ⟨m, hm⟩ := k0; exact DataW.trod_lt m _ _ _ hm
  obtain ⟨x0_0, a0, cap0, z0, rfl, w0⟩ := openG (hval 0 24 v0 rfl rfl) h0
  clear hA0 hval0 hsz0
  refine (potentialEither_walk x0_0 a0 cap0 z0 W w0).mono fun e W' ⟨he, bel⟩ => ?_
  subst he
  exact ⟨_, rfl, _, _, _, [], _, [], hW', trodAll_mk1 (shut_bool Try.underlying4 _), (trodAll_cons_mk (Below.trod laidOut (by kernel_rfl) (of_decide_eq_true (by kernel_rfl)) k0 bel lt0) trodAll_mk0), rfl, bel.frame _, fun h => by cases h⟩

theorem proved : Rows.PotentialEitherSaid :=
  OpenClaim.holds_of_wide 7 Try.f7 rfl rfl rfl rfl rfl rfl rfl ⟨rfl, rfl, rfl, rfl, rfl⟩ rfl rfl rfl rfl rfl (by kernel_rfl) Try.func7 (by kernel_rfl)
    (of_decide_eq_true (by kernel_rfl)) (by unfold Func.isWrapper; first | (rw [if_pos (by decide +kernel)]; kernel_rfl) | (rw [if_neg (by decide +kernel)]; exact ⟨rfl, rfl⟩))
    (fun os started H enc _ => lifted os started H enc)

end Go.Proofs.Ytikcjlignnfkdaa.potentialEither
namespace Go.Proofs.Ytikcjlignnfkdaa
theorem potentialEither_holds : Rows.PotentialEitherSaid := potentialEither.proved
#print axioms potentialEither_holds
end Go.Proofs.Ytikcjlignnfkdaa
