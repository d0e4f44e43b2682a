/- PROVED: PotentialCycle: potential.Cycle answers what the document says, at every argument: a cycle that weighs more than nothing just if there is one. CONDITIONS: none. -/
import Derived.Test.YtikcjlignnfkdaaTold
import Derived.Test.YtikcjlignnfkdaaFar
namespace Go.Proofs.Ytikcjlignnfkdaa.Z
open Go.RowKit
set_option linter.unusedVariables false

set_option maxHeartbeats 6400000 in
theorem cycle_w (N : Int) (a : Option Addr) (cap : Nat) (L : List Ed) (w : World) (hE : ERow w a L) (hl : L.length ≤ 9223372036854775807) (hg : ¬ grt N L) :
    Calls Try.prog 4 #[.agg #[.int .i64 N, .slice a L.length cap]] w fun e w' => e = .returned (.bool true) ∧ Below w.heap.size w w' := by
  have c16 : Hid (∀ v, ERow v a L → Calls Try.prog 16 #[.agg #[.int .i64 N, .slice a L.length cap]] v fun e w' => e = .returned (.tuple #[.slice none 0 0, .int .i64 2]) ∧ Below v.heap.size v w') := fun v h => cycle_wrong N a cap L v h hl hg
  have c13 : Hid (∀ v, ERow v a L → Calls Try.prog 13 #[.agg #[.int .i64 N, .slice a L.length cap]] v fun e w' => e = .returned (.int .i64 2) ∧ Below v.heap.size v w') := fun v h => by have := qwrong_any N a cap L v h hl; rw [gwr_no hg] at this; exact this
  generalize L.length = m at *
  have B : Below w.heap.size w (w.alloc (.cells #[.int .i64 N, .slice a m cap] 24)) := balloc (Below.refl _ _) _
  have E := hE.kept B
  have K := Gb.new w N a m cap
  obtain ⟨w0, hw0⟩ : ∃ w0, w.alloc (.cells #[.int .i64 N, .slice a m cap] 24) = w0 := ⟨_, rfl⟩
  rw [hw0] at B E K
  obtain ⟨g0, g1⟩ := id K
  clear hE hg
  go_enter Try.func4, Try.ntmps4
  go_wp2_with (first
    | (go_at_call 16; refine (c16.out _ E).mono ?_; rintro e v16 ⟨rfl, bb⟩; clear c16; replace E := E.kept bb; replace K := K.kept bb; replace B := bthen B bb; clear g0 g1; obtain ⟨g0, g1⟩ := id K)
    | (go_at_call 13; refine (c13.out _ E).mono ?_; rintro e v13 ⟨rfl, bb⟩; clear c13; replace E := E.kept bb; replace K := K.kept bb; replace B := bthen B bb; clear g0 g1; obtain ⟨g0, g1⟩ := id K))
  go_ret
  exact ⟨rfl, B⟩

set_option maxHeartbeats 6400000 in
theorem cycle_y (n : Nat) (es : List Eg) (hG : Gph n es) (hp : noPos es) (a : Option Addr) (cap m : Nat) (hm : es.length = m) (w : World) (hE : GRow w a es) :
    Calls Try.prog 4 #[.agg #[.int .i64 n, .slice a m cap]] w fun e w' => e = .returned (.bool true) ∧ Below w.heap.size w w' := by
  have n3 := hG.n3
  have m4 : m ≤ 4800 := by rw [← hm]; exact hG.m4
  have c16 : Hid (∀ v, GRow v a es → Calls Try.prog 16 #[.agg #[.int .i64 n, .slice a m cap]] v fun e w' => e = .returned (.tuple #[.slice none 0 0, .int .i64 3]) ∧ Below v.heap.size v w') := fun v h => cycle_yes n es hG a cap m hm hp v h
  have c13 : Hid (∀ v, GRow v a es → Calls Try.prog 13 #[.agg #[.int .i64 n, .slice a m cap]] v fun e w' => e = .returned (.int .i64 0) ∧ Below v.heap.size v w') := fun v h => qwrong_yes n es hG a cap m hm v h
  have c14 : Hid (∀ v, GRow v a es → Calls Try.prog 14 #[.agg #[.int .i64 n, .slice a m cap]] v fun e w' => ∃ M c d, e = .returned (.tuple #[.slice (some ⟨M, 0, none⟩) n c, .bool true]) ∧ Cells w' M n d ∧ Mst es d ∧ Below v.heap.size v w') := fun v h => qmost_yes n es hG a cap m hm hp v h
  have B : Below w.heap.size w (w.alloc (.cells #[.int .i64 n, .slice a m cap] 24)) := balloc (Below.refl _ _) _
  have E := hE.kept B
  have K := Gb.new w n a m cap
  obtain ⟨w0, hw0⟩ : ∃ w0, w.alloc (.cells #[.int .i64 n, .slice a m cap] 24) = w0 := ⟨_, rfl⟩
  rw [hw0] at B E K
  obtain ⟨g0, g1⟩ := id K
  clear hE hG hp hm
  go_enter Try.func4, Try.ntmps4
  go_wp2_with (first
    | (go_at_call 16; refine (c16.out _ E).mono ?_; rintro e v16 ⟨rfl, bb⟩; clear c16; replace E := E.kept bb; replace K := K.kept bb; replace B := bthen B bb; clear g0 g1; obtain ⟨g0, g1⟩ := id K)
    | (go_at_call 13; refine (c13.out _ E).mono ?_; rintro e v13 ⟨rfl, bb⟩; clear c13; replace E := E.kept bb; replace K := K.kept bb; replace B := bthen B bb; clear g0 g1; obtain ⟨g0, g1⟩ := id K)
    | (go_at_call 14; refine (c14.out _ E).mono ?_; rintro e v14 ⟨M, c, d, rfl, C, S, bb⟩; clear c14; replace E := E.kept bb; replace K := K.kept bb; replace B := bthen B bb; clear g0 g1; obtain ⟨g0, g1⟩ := id K))
  go_ret
  exact ⟨rfl, B⟩

set_option maxHeartbeats 6400000 in
theorem cycle_n (n : Nat) (es : List Eg) (hG : Gph n es) (hp : ¬ noPos es) (a : Option Addr) (cap m : Nat) (hm : es.length = m) (w : World) (hE : GRow w a es) :
    Calls Try.prog 4 #[.agg #[.int .i64 n, .slice a m cap]] w fun e w' => e = .returned (.bool true) ∧ Below w.heap.size w w' := by
  have n3 := hG.n3
  have m4 : m ≤ 4800 := by rw [← hm]; exact hG.m4
  have c16 : Hid (∀ v, GRow v a es → Calls Try.prog 16 #[.agg #[.int .i64 n, .slice a m cap]] v fun e w' => ∃ g p c R, e = .returned (.tuple #[.slice (some ⟨g, 0, none⟩) p c, .int .i64 0]) ∧ Rgo n es R p ∧ p ≤ c ∧ Cells w' g p (fun j => (R j : Int)) ∧ Below v.heap.size v w') := fun v h => cycle_no n es hG a cap m hm hp v h
  have c13 : Hid (∀ v, GRow v a es → Calls Try.prog 13 #[.agg #[.int .i64 n, .slice a m cap]] v fun e w' => e = .returned (.int .i64 0) ∧ Below v.heap.size v w') := fun v h => qwrong_yes n es hG a cap m hm v h
  have c14 : Hid (∀ v, GRow v a es → Calls Try.prog 14 #[.agg #[.int .i64 n, .slice a m cap]] v fun e w' => e = .returned (.tuple #[.slice none 0 0, .bool false]) ∧ Below v.heap.size v w') := fun v h => qmost_no n es hG a cap m hm hp v h
  have c10 : Hid (∀ (g p c : Nat) (R : Nat → Nat), Rgo n es R p → ∀ v, GRow v a es → Cells v g p (fun j => (R j : Int)) → Calls Try.prog 10 #[.agg #[.int .i64 n, .slice a m cap], .slice (some ⟨g, 0, none⟩) p c] v fun e w' => e = .returned (.tuple #[.int .i64 (nsum es R p), .int .i64 0]) ∧ Below v.heap.size v w') := fun g p c R hR v h k => qweigh_n n es hG a cap m hm (some ⟨g, 0, none⟩) c p _ (outs_len _ _) (by have := hR.pn; omega) v h k.row _ _ (wge_wok hG (by have := hR.pn; omega) hR.wok)
  have hlm : Hid (es.length = m) := hm
  have B : Below w.heap.size w (w.alloc (.cells #[.int .i64 n, .slice a m cap] 24)) := balloc (Below.refl _ _) _
  have E := hE.kept B
  have K := Gb.new w n a m cap
  obtain ⟨w0, hw0⟩ : ∃ w0, w.alloc (.cells #[.int .i64 n, .slice a m cap] 24) = w0 := ⟨_, rfl⟩
  rw [hw0] at B E K
  obtain ⟨g0, g1⟩ := id K
  clear hE hG hp hm
  go_enter Try.func4, Try.ntmps4
  go_wp2_with (first
    | (go_at_call 16; refine (c16.out _ E).mono ?_; rintro e v16 ⟨g, p, c, R, rfl, hR, hpc, C, bb⟩; clear c16; replace E := E.kept bb; replace K := K.kept bb; replace B := bthen B bb; clear g0 g1; obtain ⟨g0, g1⟩ := id K)
    | (go_at_call 13; refine (c13.out _ E).mono ?_; rintro e v13 ⟨rfl, bb⟩; replace C := C.kept bb; clear c13; replace E := E.kept bb; replace K := K.kept bb; replace B := bthen B bb; clear g0 g1; obtain ⟨g0, g1⟩ := id K)
    | (go_at_call 14; refine (c14.out _ E).mono ?_; rintro e v14 ⟨rfl, bb⟩; replace C := C.kept bb; clear c14; replace E := E.kept bb; replace K := K.kept bb; replace B := bthen B bb; clear g0 g1; obtain ⟨g0, g1⟩ := id K)
    | (go_at_call 10; refine (c10.out g p c R hR _ E C).mono ?_; rintro e v10 ⟨rfl, bb⟩; replace C := C.kept bb; clear c10; replace E := E.kept bb; replace K := K.kept bb; replace B := bthen B bb; clear g0 g1; obtain ⟨g0, g1⟩ := id K))
  obtain ⟨p1, pn, hwk, hends, hpos⟩ := hR
  have q1 := hlm.out
  obtain ⟨pp, hpp⟩ : ∃ pp, p = pp + 1 := ⟨p - 1, by omega⟩
  obtain ⟨b, off, rfl, e1⟩ := E.at (by have := (hwk 0 (by omega)).1; omega)
  have r0 := (hwk 0 (by omega)).1
  have r1 := (hwk pp (by omega)).1
  obtain ⟨x0, _, _⟩ := e1 (R 0) r0
  obtain ⟨_, x1, _⟩ := e1 (R pp) r1
  have y0 := C.c 0 (by omega)
  have y1 := C.c pp (by omega)
  rw [show p - 1 = pp by omega] at hends
  rw [hends] at x0
  generalize nsum es R p = S at *
  generalize (eg es (R pp)).t = T at *
  generalize R 0 = R0 at *
  generalize R pp = R1 at *
  try simp only at y0 y1
  have i0 : (R0 : Int) < (m : Int) := by omega
  have i1 : (R1 : Int) < (m : Int) := by omega
  have i2 : (p : Int) - 1 = (pp : Int) := by omega
  have i3 : IntKind.i64.wrap (pp : Int) = (pp : Int) := wrap_in (by omega)
  have i4 : (pp : Int) < (p : Int) := by omega
  have i5 : (0 : Int) < (p : Int) := by omega
  have d0 : decide ((0 : Int) < (p : Int)) = true := decide_eq_true (by omega)
  have d1 : decide (0 < p) = true := decide_eq_true (by omega)
  have d2 : decide ((p : Int) ≤ (n : Int)) = true := decide_eq_true (by omega)
  have d3 : decide (p ≤ n) = true := decide_eq_true (by omega)
  have d4 : decide (0 < S) = true := decide_eq_true hpos
  have d5 : ((T : Int) == (T : Int)) = true := beq_self_eq_true _
  clear hwk hends e1 q1 E C hpos hpp
  go_quiet (fail)
  go_wp2
  go_ret
  exact ⟨rfl, below_drewN B _⟩

theorem potentialCycle_walk (N : Int) (a : Option Addr) (cap : Nat) (L : List Ed) (w : World) (hE : FarE w a cap L) :
    Calls Try.prog 4 #[.agg #[.int .i64 N, .slice a L.length cap]] w fun e w' => e = .returned (.bool true) ∧ Below w.heap.size w w' := by
  by_cases hg : grt N L
  · obtain ⟨n, es, rfl, rfl, hG⟩ := grt_gph hg
    rw [List.length_map]
    by_cases hp : noPos es
    · exact cycle_y n es hG hp a cap _ rfl w hE.1
    · exact cycle_n n es hG hp a cap _ rfl w hE.1
  · exact cycle_w N a cap L w hE.1 (by have := hE.2; omega) hg

end Go.Proofs.Ytikcjlignnfkdaa.Z
namespace Go.Proofs.Ytikcjlignnfkdaa.potentialCycle
open Go.ChangeShapes Go.WideShapes Go.ChangeAt Go.RowKit Z
set_option linter.unusedVariables false

set_option maxRecDepth 100000 in
theorem lifted (os : Os) (started : os.Started) (H : Type) (enc : TypeId × Value → H) :
    ReturnsInHanded {} Try.checked os 4 .any (Rows.potentialCycleSpec.pre6 enc Try.prog Try.f4 Rows.potentialCycleRow.domain false) (Rows.potentialCycleSpec.post enc Try.prog Try.f4 false true false false) := by
  refine returnsInHanded_of_change_sized (C := Try.checked) own started (by kernel_rfl) Try.func4
    (ChangeSpec.witness6 (enc := enc) (C := Try.checked) false ⟨#[], #[.agg #[.int .i64 0, .slice none 0 0]], []⟩ 8 (by kernel_rfl) (by kernel_rfl) (by kernel_rfl) (by kernel_rfl)) ?_
  intro W base args ds gs before hval0 hW _ hsz0 _
  have hval : ∀ (j : Nat) t v, Try.f4.params[j]? = some t → args[j]? = some v → Value.okWide Try.prog W .any base t v := hval0
  have hW' := hW
  obtain ⟨p, q, hA0, hV, rfl, hfz, hnd⟩ := hW
  have hA : DataW.TrodAll enc Try.prog W 0 (fun _ => true) true Try.f4.params.toList args.toList ds p := hA0
  rw [Try.params4] at hA hval
  obtain ⟨v0, vs0, d0, ds0, p0, q0, hargs, rfl, rfl, h0, r0⟩ := trodAll_cons hA
  obtain ⟨rfl, rfl, rfl⟩ := trodAll_nil r0
  obtain rfl : args = #[v0] := by cases args; simp_all
  obtain ⟨rfl, rfl⟩ := trodVars_none hV
  have k0 := h0
  have lt0 : ∀ x ∈ p0, x.block < W.heap.size := by obtain ⟨m, hm⟩ := k0; exact DataW.trod_lt m _ _ _ hm
  obtain ⟨x0_0, a0, cap0, z0, rfl, w0⟩ := openG (hval 0 24 v0 rfl rfl) h0
  clear hA0 hval0 hsz0
  refine (potentialCycle_walk x0_0 a0 cap0 z0 W w0).mono fun e W' ⟨he, bel⟩ => ?_
  subst he
  exact ⟨_, rfl, _, _, _, [], _, [], hW', trodAll_mk1 (shut_bool Try.underlying4 _), (trodAll_cons_mk (Below.trod laidOut (by kernel_rfl) (of_decide_eq_true (by kernel_rfl)) k0 bel lt0) trodAll_mk0), rfl, bel.frame _, fun h => by cases h⟩

theorem proved : Rows.PotentialCycleSaid :=
  OpenClaim.holds_of_wide 4 Try.f4 rfl rfl rfl rfl rfl rfl rfl ⟨rfl, rfl, rfl, rfl, rfl⟩ rfl rfl rfl rfl rfl (by kernel_rfl) Try.func4 (by kernel_rfl)
    (of_decide_eq_true (by kernel_rfl)) (by unfold Func.isWrapper; first | (rw [if_pos (by decide +kernel)]; kernel_rfl) | (rw [if_neg (by decide +kernel)]; exact ⟨rfl, rfl⟩))
    (fun os started H enc _ => lifted os started H enc)

end Go.Proofs.Ytikcjlignnfkdaa.potentialCycle
namespace Go.Proofs.Ytikcjlignnfkdaa
theorem potentialCycle_holds : Rows.PotentialCycleSaid := potentialCycle.proved
#print axioms potentialCycle_holds
end Go.Proofs.Ytikcjlignnfkdaa
