/- PROVED: PotentialTells: potential.Wrong, Weigh and Most answer what the document says, at every argument. CONDITIONS: none. -/
import Derived.Test.YtikcjlignnfkdaaTold
import Derived.Test.YtikcjlignnfkdaaFar
import Derived.Deep.RegionHeld3
namespace Go.Proofs.Ytikcjlignnfkdaa.Z
open Go.RowKit
set_option linter.unusedVariables false

set_option maxHeartbeats 6400000 in
theorem tells_wrong (N : Int) (a : Option Addr) (cap : Nat) (L : List Ed) (a1 : Option Addr) (cap1 p : Nat) (w : World) (hE : ERow w a L) (hl : L.length ≤ 9223372036854775807) (hg : ¬ grt N L) :
    Calls Try.prog 3 #[.agg #[.int .i64 N, .slice a L.length cap], .slice a1 p cap1] w fun e w' => e = .returned (.bool true) ∧ Below w.heap.size w w' := by
  have c9 : Hid (∀ v, ERow v a L → Calls Try.prog 9 #[.agg #[.int .i64 N, .slice a L.length cap], .slice a1 p cap1] v fun e w' => e = .returned (.tuple #[.int .i64 0, .int .i64 2]) ∧ Below v.heap.size v w') := fun v h => weigh_wrong N a a1 cap cap1 p L v h hl hg
  have c10 : Hid (∀ v, ERow v a L → Calls Try.prog 10 #[.agg #[.int .i64 N, .slice a L.length cap], .slice a1 p cap1] v fun e w' => e = .returned (.tuple #[.int .i64 0, .int .i64 2]) ∧ Below v.heap.size v w') := fun v h => qweigh_wrong N a a1 cap cap1 p L v h hl hg
  have c11 : Hid (∀ v, ERow v a L → Calls Try.prog 11 #[.agg #[.int .i64 N, .slice a L.length cap]] v fun e w' => e = .returned (.tuple #[.slice none 0 0, .int .i64 2]) ∧ Below v.heap.size v w') := fun v h => most_wrong N a cap L v h hl hg
  have c12 : Hid (∀ v, ERow v a L → Calls Try.prog 12 #[.agg #[.int .i64 N, .slice a L.length cap]] v fun e w' => e = .returned (.int .i64 2) ∧ Below v.heap.size v w') := fun v h => by have := wrong_any N a cap L v h hl; rw [gwr_no hg] at this; exact this
  have c13 : Hid (∀ v, ERow v a L → Calls Try.prog 13 #[.agg #[.int .i64 N, .slice a L.length cap]] v fun e w' => e = .returned (.int .i64 2) ∧ Below v.heap.size v w') := fun v h => by have := qwrong_any N a cap L v h hl; rw [gwr_no hg] at this; exact this
  generalize L.length = m at *
  have c13' := c13
  have B : Below w.heap.size w (w.alloc (.cells #[.int .i64 N, .slice a m cap] 24)) := balloc (Below.refl _ _) _
  have E := hE.kept B
  have K := Gb.new w N a m cap
  obtain ⟨w0, hw0⟩ : ∃ w0, w.alloc (.cells #[.int .i64 N, .slice a m cap] 24) = w0 := ⟨_, rfl⟩
  rw [hw0] at B E K
  obtain ⟨g0, g1⟩ := id K
  clear hE hg
  go_enter Try.func3, Try.ntmps3
  go_wp2_with (first
    | (go_at_call 9; refine (c9.out _ E).mono ?_; rintro e v9 ⟨rfl, bb⟩; clear c9; replace E := E.kept bb; replace K := K.kept bb; replace B := bthen B bb; clear g0 g1; obtain ⟨g0, g1⟩ := id K)
    | (go_at_call 10; refine (c10.out _ E).mono ?_; rintro e v10 ⟨rfl, bb⟩; clear c10; replace E := E.kept bb; replace K := K.kept bb; replace B := bthen B bb; clear g0 g1; obtain ⟨g0, g1⟩ := id K)
    | (go_at_call 11; refine (c11.out _ E).mono ?_; rintro e v11 ⟨rfl, bb⟩; clear c11; replace E := E.kept bb; replace K := K.kept bb; replace B := bthen B bb; clear g0 g1; obtain ⟨g0, g1⟩ := id K))
  clear hw0
  first | (go_region_held3 (fun w' => w'.cell? ⟨w.heap.size, 0, none⟩ = some (.int .i64 N) ∧ w'.cell? ⟨w.heap.size, 1, none⟩ = some (.slice a m cap)) (exact ⟨K.g, K.s⟩)
    (first
    | (go_at_call 12; with_reducible refine (c12.out _ E.drew).mono ?_; rintro e v12 ⟨rfl, bb⟩; clear c12; replace E := E.drew.kept bb; replace K := K.drew.kept bb; replace B := bthen B.drew bb; clear g0 g1; obtain ⟨g0, g1⟩ := id K)
    | (go_at_call 13; with_reducible refine (c13.out _ E.drew).mono ?_; rintro e v13 ⟨rfl, bb⟩; clear c13; replace E := E.drew.kept bb; replace K := K.drew.kept bb; replace B := bthen B.drew bb; clear g0 g1; obtain ⟨g0, g1⟩ := id K)
    | (go_at_call 12; with_reducible refine (c12.out _ E).mono ?_; rintro e v12 ⟨rfl, bb⟩; clear c12; replace E := E.kept bb; replace K := K.kept bb; replace B := bthen B bb; clear g0 g1; obtain ⟨g0, g1⟩ := id K)
    | (go_at_call 13; with_reducible refine (c13.out _ E).mono ?_; rintro e v13 ⟨rfl, bb⟩; clear c13; replace E := E.kept bb; replace K := K.kept bb; replace B := bthen B bb; clear g0 g1; obtain ⟨g0, g1⟩ := id K))) | fail
  all_goals
    go_wp2_with (go_at_call 13; refine (c13'.out _ E).mono ?_; rintro e v ⟨rfl, bb⟩; clear c13'; replace B := bthen B bb)
    go_ret
    exact ⟨rfl, B⟩

set_option maxHeartbeats 6400000 in
theorem tells_yes (n : Nat) (es : List Eg) (hG : Gph n es) (hp : noPos es) (a : Option Addr) (cap m : Nat) (hm : es.length = m) (a1 : Option Addr) (cap1 p : Nat) (z : List Int) (hzp : z.length = p) (hl : p ≤ 9223372036854775807) (w : World) (hE : GRow w a es) (hz : Row w a1 z) :
    Calls Try.prog 3 #[.agg #[.int .i64 n, .slice a m cap], .slice a1 p cap1] w fun e w' => e = .returned (.bool true) ∧ Below w.heap.size w w' := by
  obtain ⟨A1, A2, hA⟩ : ∃ A1 A2, wge es z = (A1, A2) := ⟨_, _, rfl⟩
  have c9 : Hid (∀ v, GRow v a es → Row v a1 z → Calls Try.prog 9 #[.agg #[.int .i64 n, .slice a m cap], .slice a1 p cap1] v fun e w' => e = .returned (.tuple #[.int .i64 A1, .int .i64 A2]) ∧ Below v.heap.size v w') := fun v h k => weigh_n n es hG a cap m hm a1 cap1 p z hzp hl v h k A1 A2 hA
  have c10 : Hid (∀ v, GRow v a es → Row v a1 z → Calls Try.prog 10 #[.agg #[.int .i64 n, .slice a m cap], .slice a1 p cap1] v fun e w' => e = .returned (.tuple #[.int .i64 A1, .int .i64 A2]) ∧ Below v.heap.size v w') := fun v h k => qweigh_n n es hG a cap m hm a1 cap1 p z hzp hl v h k A1 A2 hA
  have c12 : Hid (∀ v, GRow v a es → Calls Try.prog 12 #[.agg #[.int .i64 n, .slice a m cap]] v fun e w' => e = .returned (.int .i64 0) ∧ Below v.heap.size v w') := fun v h => wrong_yes n es hG a cap m hm v h
  have c13 : Hid (∀ v, GRow v a es → Calls Try.prog 13 #[.agg #[.int .i64 n, .slice a m cap]] v fun e w' => e = .returned (.int .i64 0) ∧ Below v.heap.size v w') := fun v h => qwrong_yes n es hG a cap m hm v h
  have n3 := hG.n3
  have e1 : (A1 != A1) = false := bne_self_eq_false _
  have e2 : (A2 != A2) = false := bne_self_eq_false _
  have c11 : Hid (∀ v, GRow v a es → Calls Try.prog 11 #[.agg #[.int .i64 n, .slice a m cap]] v fun e w' => ∃ M d, e = .returned (.tuple #[.slice (some ⟨M, 0, none⟩) n n, .int .i64 0]) ∧ Cells w' M n d ∧ Mst es d ∧ Below v.heap.size v w') := fun v h => most_yes n es hG a cap m hm hp v h
  have c14 : Hid (∀ v, GRow v a es → Calls Try.prog 14 #[.agg #[.int .i64 n, .slice a m cap]] v fun e w' => ∃ M c d, e = .returned (.tuple #[.slice (some ⟨M, 0, none⟩) n c, .bool true]) ∧ Cells w' M n d ∧ Mst es d ∧ Below v.heap.size v w') := fun v h => qmost_yes n es hG a cap m hm hp v h
  have c13' := c13
  have B : Below w.heap.size w (w.alloc (.cells #[.int .i64 n, .slice a m cap] 24)) := balloc (Below.refl _ _) _
  have E := hE.kept B
  have K := Gb.new w n a m cap
  have Z := hz.kept B
  obtain ⟨w0, hw0⟩ : ∃ w0, w.alloc (.cells #[.int .i64 n, .slice a m cap] 24) = w0 := ⟨_, rfl⟩
  rw [hw0] at B E K Z
  obtain ⟨g0, g1⟩ := id K
  clear hE hG hp hm hz hA hzp
  go_enter Try.func3, Try.ntmps3
  go_wp2_with (first
    | (go_at_call 9; refine (c9.out _ E Z).mono ?_; rintro e v9 ⟨rfl, bb⟩; replace Z := Z.kept bb; clear c9; replace E := E.kept bb; replace K := K.kept bb; replace B := bthen B bb; clear g0 g1; obtain ⟨g0, g1⟩ := id K)
    | (go_at_call 10; refine (c10.out _ E Z).mono ?_; rintro e v10 ⟨rfl, bb⟩; replace Z := Z.kept bb; clear c10; replace E := E.kept bb; replace K := K.kept bb; replace B := bthen B bb; clear g0 g1; obtain ⟨g0, g1⟩ := id K)
    | (go_at_call 11; refine (c11.out _ E).mono ?_; rintro e v11 ⟨M, d, rfl, C1, S1, bb⟩; replace C1 := C1; clear c11; replace E := E.kept bb; replace K := K.kept bb; replace B := bthen B bb; clear g0 g1; obtain ⟨g0, g1⟩ := id K))
  clear hw0
  first | (go_region_held3 (fun w' => w'.cell? ⟨w.heap.size, 0, none⟩ = some (.int .i64 n) ∧ w'.cell? ⟨w.heap.size, 1, none⟩ = some (.slice a m cap)) (exact ⟨K.g, K.s⟩)
    (first
    | (go_at_call 12; with_reducible refine (c12.out _ E.drew).mono ?_; rintro e v12 ⟨rfl, bb⟩; clear c12; replace C1 := C1.drew.kept bb; replace E := E.drew.kept bb; replace K := K.drew.kept bb; replace B := bthen B.drew bb; clear g0 g1; obtain ⟨g0, g1⟩ := id K)
    | (go_at_call 13; with_reducible refine (c13.out _ E.drew).mono ?_; rintro e v13 ⟨rfl, bb⟩; clear c13; replace C1 := C1.drew.kept bb; replace E := E.drew.kept bb; replace K := K.drew.kept bb; replace B := bthen B.drew bb; clear g0 g1; obtain ⟨g0, g1⟩ := id K)
    | (go_at_call 12; with_reducible refine (c12.out _ E).mono ?_; rintro e v12 ⟨rfl, bb⟩; clear c12; replace E := E.kept bb; replace K := K.kept bb; replace B := bthen B bb; clear g0 g1; obtain ⟨g0, g1⟩ := id K; replace C1 := C1.kept bb)
    | (go_at_call 13; with_reducible refine (c13.out _ E).mono ?_; rintro e v13 ⟨rfl, bb⟩; clear c13; replace E := E.kept bb; replace K := K.kept bb; replace B := bthen B bb; clear g0 g1; obtain ⟨g0, g1⟩ := id K; replace C1 := C1.kept bb))) | fail
  all_goals
    go_wp2_with (first
      | (go_at_call 13; refine (c13'.out _ E).mono ?_; rintro e v ⟨rfl, bb⟩; clear c13'; replace C1 := C1.kept bb; replace E := E.kept bb; replace K := K.kept bb; replace B := bthen B bb; clear g0 g1; obtain ⟨g0, g1⟩ := id K)
      | (go_at_call 14; refine (c14.out _ E).mono ?_; rintro e v14 ⟨M2, q, d2, rfl, C2, S2, bb⟩; clear c14; replace C1 := C1.kept bb; replace B := bthen B bb; have hq := equal_outs M M2 n q n d d2 v14 n3 C1 C2 (S1.same S2))
      | (go_at_call 15; refine hq.mono ?_; rintro e v15 ⟨rfl, dq, rfl⟩; clear hq; replace B := below_drewN B dq))
    go_ret
    exact ⟨rfl, B⟩

set_option maxHeartbeats 6400000 in
theorem tells_no (n : Nat) (es : List Eg) (hG : Gph n es) (hp : ¬ noPos es) (a : Option Addr) (cap m : Nat) (hm : es.length = m) (a1 : Option Addr) (cap1 p : Nat) (z : List Int) (hzp : z.length = p) (hl : p ≤ 9223372036854775807) (w : World) (hE : GRow w a es) (hz : Row w a1 z) :
    Calls Try.prog 3 #[.agg #[.int .i64 n, .slice a m cap], .slice a1 p cap1] w fun e w' => e = .returned (.bool true) ∧ Below w.heap.size w w' := by
  obtain ⟨A1, A2, hA⟩ : ∃ A1 A2, wge es z = (A1, A2) := ⟨_, _, rfl⟩
  have c9 : Hid (∀ v, GRow v a es → Row v a1 z → Calls Try.prog 9 #[.agg #[.int .i64 n, .slice a m cap], .slice a1 p cap1] v fun e w' => e = .returned (.tuple #[.int .i64 A1, .int .i64 A2]) ∧ Below v.heap.size v w') := fun v h k => weigh_n n es hG a cap m hm a1 cap1 p z hzp hl v h k A1 A2 hA
  have c10 : Hid (∀ v, GRow v a es → Row v a1 z → Calls Try.prog 10 #[.agg #[.int .i64 n, .slice a m cap], .slice a1 p cap1] v fun e w' => e = .returned (.tuple #[.int .i64 A1, .int .i64 A2]) ∧ Below v.heap.size v w') := fun v h k => qweigh_n n es hG a cap m hm a1 cap1 p z hzp hl v h k A1 A2 hA
  have c12 : Hid (∀ v, GRow v a es → Calls Try.prog 12 #[.agg #[.int .i64 n, .slice a m cap]] v fun e w' => e = .returned (.int .i64 0) ∧ Below v.heap.size v w') := fun v h => wrong_yes n es hG a cap m hm v h
  have c13 : Hid (∀ v, GRow v a es → Calls Try.prog 13 #[.agg #[.int .i64 n, .slice a m cap]] v fun e w' => e = .returned (.int .i64 0) ∧ Below v.heap.size v w') := fun v h => qwrong_yes n es hG a cap m hm v h
  have n3 := hG.n3
  have e1 : (A1 != A1) = false := bne_self_eq_false _
  have e2 : (A2 != A2) = false := bne_self_eq_false _
  have c11 : Hid (∀ v, GRow v a es → Calls Try.prog 11 #[.agg #[.int .i64 n, .slice a m cap]] v fun e w' => e = .returned (.tuple #[.slice none 0 0, .int .i64 3]) ∧ Below v.heap.size v w') := fun v h => most_no n es hG a cap m hm hp v h
  have c14 : Hid (∀ v, GRow v a es → Calls Try.prog 14 #[.agg #[.int .i64 n, .slice a m cap]] v fun e w' => e = .returned (.tuple #[.slice none 0 0, .bool false]) ∧ Below v.heap.size v w') := fun v h => qmost_no n es hG a cap m hm hp v h
  have c13' := c13
  have B : Below w.heap.size w (w.alloc (.cells #[.int .i64 n, .slice a m cap] 24)) := balloc (Below.refl _ _) _
  have E := hE.kept B
  have K := Gb.new w n a m cap
  have Z := hz.kept B
  obtain ⟨w0, hw0⟩ : ∃ w0, w.alloc (.cells #[.int .i64 n, .slice a m cap] 24) = w0 := ⟨_, rfl⟩
  rw [hw0] at B E K Z
  obtain ⟨g0, g1⟩ := id K
  clear hE hG hp hm hz hA hzp
  go_enter Try.func3, Try.ntmps3
  go_wp2_with (first
    | (go_at_call 9; refine (c9.out _ E Z).mono ?_; rintro e v9 ⟨rfl, bb⟩; replace Z := Z.kept bb; clear c9; replace E := E.kept bb; replace K := K.kept bb; replace B := bthen B bb; clear g0 g1; obtain ⟨g0, g1⟩ := id K)
    | (go_at_call 10; refine (c10.out _ E Z).mono ?_; rintro e v10 ⟨rfl, bb⟩; replace Z := Z.kept bb; clear c10; replace E := E.kept bb; replace K := K.kept bb; replace B := bthen B bb; clear g0 g1; obtain ⟨g0, g1⟩ := id K)
    | (go_at_call 11; refine (c11.out _ E).mono ?_; rintro e v11 ⟨rfl, bb⟩; clear c11; replace E := E.kept bb; replace K := K.kept bb; replace B := bthen B bb; clear g0 g1; obtain ⟨g0, g1⟩ := id K))
  clear hw0
  first | (go_region_held3 (fun w' => w'.cell? ⟨w.heap.size, 0, none⟩ = some (.int .i64 n) ∧ w'.cell? ⟨w.heap.size, 1, none⟩ = some (.slice a m cap)) (exact ⟨K.g, K.s⟩)
    (first
    | (go_at_call 12; with_reducible refine (c12.out _ E.drew).mono ?_; rintro e v12 ⟨rfl, bb⟩; clear c12; replace E := E.drew.kept bb; replace K := K.drew.kept bb; replace B := bthen B.drew bb; clear g0 g1; obtain ⟨g0, g1⟩ := id K)
    | (go_at_call 13; with_reducible refine (c13.out _ E.drew).mono ?_; rintro e v13 ⟨rfl, bb⟩; clear c13; replace E := E.drew.kept bb; replace K := K.drew.kept bb; replace B := bthen B.drew bb; clear g0 g1; obtain ⟨g0, g1⟩ := id K)
    | (go_at_call 12; with_reducible refine (c12.out _ E).mono ?_; rintro e v12 ⟨rfl, bb⟩; clear c12; replace E := E.kept bb; replace K := K.kept bb; replace B := bthen B bb; clear g0 g1; obtain ⟨g0, g1⟩ := id K)
    | (go_at_call 13; with_reducible refine (c13.out _ E).mono ?_; rintro e v13 ⟨rfl, bb⟩; clear c13; replace E := E.kept bb; replace K := K.kept bb; replace B := bthen B bb; clear g0 g1; obtain ⟨g0, g1⟩ := id K))) | fail
  all_goals
    go_wp2_with (first
      | (go_at_call 13; refine (c13'.out _ E).mono ?_; rintro e v ⟨rfl, bb⟩; clear c13'; replace E := E.kept bb; replace K := K.kept bb; replace B := bthen B bb; clear g0 g1; obtain ⟨g0, g1⟩ := id K)
      | (go_at_call 14; refine (c14.out _ E).mono ?_; rintro e v14 ⟨rfl, bb⟩; clear c14; replace B := bthen B bb; have hq := equal_nil v14)
      | (go_at_call 15; refine hq.mono ?_; rintro e v15 ⟨rfl, dq, rfl⟩; clear hq; replace B := below_drewN B dq))
    go_ret
    exact ⟨rfl, B⟩

theorem potentialTells_walk (N : Int) (a : Option Addr) (cap : Nat) (L : List Ed) (a1 : Option Addr) (cap1 : Nat) (z : List Int) (w : World) (hE : FarE w a cap L) (hz : FarS w a1 cap1 z) :
    Calls Try.prog 3 #[.agg #[.int .i64 N, .slice a L.length cap], .slice a1 z.length cap1] w fun e w' => e = .returned (.bool true) ∧ Below w.heap.size w w' := by
  by_cases hg : grt N L
  · obtain ⟨n, es, rfl, rfl, hG⟩ := grt_gph hg
    rw [List.length_map]
    by_cases hp : noPos es
    · exact tells_yes n es hG hp a cap _ rfl a1 cap1 _ z rfl (by have := hz.2; omega) w hE.1 hz.1
    · exact tells_no n es hG hp a cap _ rfl a1 cap1 _ z rfl (by have := hz.2; omega) w hE.1 hz.1
  · exact tells_wrong N a cap L a1 cap1 _ w hE.1 (by have := hE.2; omega) hg

end Go.Proofs.Ytikcjlignnfkdaa.Z
namespace Go.Proofs.Ytikcjlignnfkdaa.potentialTells
open Go.ChangeShapes Go.WideShapes Go.ChangeAt Go.RowKit Z
set_option linter.unusedVariables false

set_option maxRecDepth 100000 in
theorem lifted (os : Os) (started : os.Started) (H : Type) (enc : TypeId × Value → H) :
    ReturnsInHanded {} Try.checked os 3 .any (Rows.potentialTellsSpec.pre6 enc Try.prog Try.f3 Rows.potentialTellsRow.domain false) (Rows.potentialTellsSpec.post enc Try.prog Try.f3 false true false false) := by
  refine returnsInHanded_of_change_sized (C := Try.checked) own started (by kernel_rfl) Try.func3
    (ChangeSpec.witness6 (enc := enc) (C := Try.checked) false ⟨#[], #[.agg #[.int .i64 0, .slice none 0 0], .slice none 0 0], []⟩ 8 (by kernel_rfl) (by kernel_rfl) (by kernel_rfl) (by kernel_rfl)) ?_
  intro W base args ds gs before hval0 hW _ hsz0 _
  have hval : ∀ (j : Nat) t v, Try.f3.params[j]? = some t → args[j]? = some v → Value.okWide Try.prog W .any base t v := hval0
  have hW' := hW
  obtain ⟨p, q, hA0, hV, rfl, hfz, hnd⟩ := hW
  have hA : DataW.TrodAll enc Try.prog W 0 (fun _ => true) true Try.f3.params.toList args.toList ds p := hA0
  rw [Try.params3] at hA hval
  obtain ⟨v0, vs0, d0, ds0, p0, q0, hargs, rfl, rfl, h0, r0⟩ := trodAll_cons hA
  obtain ⟨v1, vs1, d1, ds1, p1, q1, rfl, rfl, rfl, h1, r1⟩ := trodAll_cons r0
  obtain ⟨rfl, rfl, rfl⟩ := trodAll_nil r1
  obtain rfl : args = #[v0, v1] := by cases args; simp_all
  obtain ⟨rfl, rfl⟩ := trodVars_none hV
  have k0 := h0
  have lt0 : ∀ x ∈ p0, x.block < W.heap.size := by obtain ⟨m, hm⟩ := k0; exact DataW.trod_lt m _ _ _ hm
  obtain ⟨x0_0, a0, cap0, z0, rfl, w0⟩ := openG (hval 0 24 v0 rfl rfl) h0
  have k1 := h1
  have lt1 : ∀ x ∈ p1, x.block < W.heap.size := by obtain ⟨m, hm⟩ := k1; exact DataW.trod_lt m _ _ _ hm
  obtain ⟨a1, len1, cap1, rfl⟩ := okWide_slice Try.underlying25 (hval 1 25 v1 rfl rfl)
  obtain ⟨z1, rfl, w1, e1⟩ := farS h1
  clear hA0 hval0 hsz0
  refine (potentialTells_walk x0_0 a0 cap0 z0 a1 cap1 z1 W w0 w1).mono fun e W' ⟨he, bel⟩ => ?_
  subst he
  exact ⟨_, rfl, _, _, _, [], _, [], hW', trodAll_mk1 (shut_bool Try.underlying4 _), (trodAll_cons_mk (Below.trod laidOut (by kernel_rfl) (of_decide_eq_true (by kernel_rfl)) k0 bel lt0) (trodAll_cons_mk (Below.trod laidOut (by kernel_rfl) (of_decide_eq_true (by kernel_rfl)) k1 bel lt1) trodAll_mk0)), rfl, bel.frame _, fun h => by cases h⟩

theorem proved : Rows.PotentialTellsSaid :=
  OpenClaim.holds_of_wide 3 Try.f3 rfl rfl rfl rfl rfl rfl rfl ⟨rfl, rfl, rfl, rfl, rfl⟩ rfl rfl rfl rfl rfl (by kernel_rfl) Try.func3 (by kernel_rfl)
    (of_decide_eq_true (by kernel_rfl)) (by unfold Func.isWrapper; first | (rw [if_pos (by decide +kernel)]; kernel_rfl) | (rw [if_neg (by decide +kernel)]; exact ⟨rfl, rfl⟩))
    (fun os started H enc _ => lifted os started H enc)

end Go.Proofs.Ytikcjlignnfkdaa.potentialTells
namespace Go.Proofs.Ytikcjlignnfkdaa
theorem potentialTells_holds : Rows.PotentialTellsSaid := potentialTells.proved
#print axioms potentialTells_holds
end Go.Proofs.Ytikcjlignnfkdaa
