/- PROVED: PotentialWalks: no walk weighs more than what is told for its end, whatever edges it goes along, and however often. CONDITIONS: the arguments hold together at most 1048576 values. -/
import Derived.Test.YtikcjlignnfkdaaTold
import Derived.Test.YtikcjlignnfkdaaFar
import Derived.Test.YtikcjlignnfkdaaAlv
namespace Go.Proofs.Ytikcjlignnfkdaa.Z
open Go.RowKit
set_option linter.unusedVariables false

set_option maxHeartbeats 6400000 in
theorem walks_w (N : Int) (a : Option Addr) (cap : Nat) (L : List Ed) (a1 : Option Addr) (cap1 p : Nat) (w : World) (hE : ERow w a L) (hl : L.length ≤ 9223372036854775807) (hg : ¬ grt N L) :
    Calls Try.prog 5 #[.agg #[.int .i64 N, .slice a L.length cap], .slice a1 p cap1] w fun e w' => e = .returned (.bool true) ∧ Below w.heap.size w w' := by
  have c11 : Hid (∀ v, ERow v a L → Calls Try.prog 11 #[.agg #[.int .i64 N, .slice a L.length cap]] v fun e w' => e = .returned (.tuple #[.slice none 0 0, .int .i64 2]) ∧ Below v.heap.size v w') := fun v h => most_wrong N a cap L v h hl hg
  have c9 : Hid (∀ v, ERow v a L → Calls Try.prog 9 #[.agg #[.int .i64 N, .slice a L.length cap], .slice a1 p cap1] v fun e w' => e = .returned (.tuple #[.int .i64 0, .int .i64 2]) ∧ Below v.heap.size v w') := fun v h => weigh_wrong N a a1 cap cap1 p L v h hl hg
  generalize L.length = m at *
  have B : Below w.heap.size w (w.alloc (.cells #[.int .i64 N, .slice a m cap] 24)) := balloc (Below.refl _ _) _
  have E := hE.kept B
  have K := Gb.new w N a m cap
  have c17 : Hid (∀ v : World, True → Calls Try.prog 17 #[] v fun e w' => e = .returned (.bool true) ∧ Below v.heap.size v w') := fun v _ => alive_any v
  obtain ⟨w0, hw0⟩ : ∃ w0, w.alloc (.cells #[.int .i64 N, .slice a m cap] 24) = w0 := ⟨_, rfl⟩
  rw [hw0] at B E K
  obtain ⟨g0, g1⟩ := id K
  clear hE hg
  go_enter Try.func5, Try.ntmps5
  go_wp2_with (first
    | (go_at_call 17; refine (c17.out _ trivial).mono ?_; rintro e v17 ⟨rfl, bb⟩; clear c17; replace E := E.kept bb; replace K := K.kept bb; replace B := bthen B bb; clear g0 g1; obtain ⟨g0, g1⟩ := id K)
    | (go_at_call 11; refine (c11.out _ E).mono ?_; rintro e v11 ⟨rfl, bb⟩; clear c11; replace E := E.kept bb; replace K := K.kept bb; replace B := bthen B bb; clear g0 g1; obtain ⟨g0, g1⟩ := id K)
    | (go_at_call 9; refine (c9.out _ E).mono ?_; rintro e v9 ⟨rfl, bb⟩; clear c9; replace E := E.kept bb; replace K := K.kept bb; replace B := bthen B bb; clear g0 g1; obtain ⟨g0, g1⟩ := id K))
  go_ret
  exact ⟨rfl, B⟩

set_option maxHeartbeats 6400000 in
theorem walks_n (n : Nat) (es : List Eg) (hG : Gph n es) (hp : ¬ noPos es) (a : Option Addr) (cap m : Nat) (hm : es.length = m) (a1 : Option Addr) (cap1 p : Nat) (z : List Int) (hzp : z.length = p) (hl : p ≤ 1048576) (w : World) (hE : GRow w a es) (hz : Row w a1 z) :
    Calls Try.prog 5 #[.agg #[.int .i64 n, .slice a m cap], .slice a1 p cap1] w fun e w' => e = .returned (.bool true) ∧ Below w.heap.size w w' := by
  have n3 := hG.n3
  have m4 : m ≤ 4800 := by rw [← hm]; exact hG.m4
  have hl' : p ≤ 9223372036854775807 := by omega
  obtain ⟨A1, A2, hA⟩ : ∃ A1 A2, wge es z = (A1, A2) := ⟨_, _, rfl⟩
  have c11 : Hid (∀ v, GRow v a es → Calls Try.prog 11 #[.agg #[.int .i64 n, .slice a m cap]] v fun e w' => e = .returned (.tuple #[.slice none 0 0, .int .i64 3]) ∧ Below v.heap.size v w') := fun v h => most_no n es hG a cap m hm hp v h
  have c9 : Hid (∀ v, GRow v a es → Row v a1 z → Calls Try.prog 9 #[.agg #[.int .i64 n, .slice a m cap], .slice a1 p cap1] v fun e w' => e = .returned (.tuple #[.int .i64 A1, .int .i64 A2]) ∧ Below v.heap.size v w') := fun v h k => weigh_n n es hG a cap m hm a1 cap1 p z hzp hl' v h k A1 A2 hA
  have B : Below w.heap.size w (w.alloc (.cells #[.int .i64 n, .slice a m cap] 24)) := balloc (Below.refl _ _) _
  have E := hE.kept B
  have K := Gb.new w n a m cap
  have Z := hz.kept B
  have c17 : Hid (∀ v : World, True → Calls Try.prog 17 #[] v fun e w' => e = .returned (.bool true) ∧ Below v.heap.size v w') := fun v _ => alive_any v
  obtain ⟨w0, hw0⟩ : ∃ w0, w.alloc (.cells #[.int .i64 n, .slice a m cap] 24) = w0 := ⟨_, rfl⟩
  rw [hw0] at B E K Z
  obtain ⟨g0, g1⟩ := id K
  clear hE hG hp hm hz hA hzp
  go_enter Try.func5, Try.ntmps5
  go_wp2_with (first
    | (go_at_call 17; refine (c17.out _ trivial).mono ?_; rintro e v17 ⟨rfl, bb⟩; replace Z := Z.kept bb; clear c17; replace E := E.kept bb; replace K := K.kept bb; replace B := bthen B bb; clear g0 g1; obtain ⟨g0, g1⟩ := id K)
    | (go_at_call 11; refine (c11.out _ E).mono ?_; rintro e v11 ⟨rfl, bb⟩; replace Z := Z.kept bb; clear c11; replace E := E.kept bb; replace K := K.kept bb; replace B := bthen B bb; clear g0 g1; obtain ⟨g0, g1⟩ := id K)
    | (go_at_call 9; refine (c9.out _ E Z).mono ?_; rintro e v9 ⟨rfl, bb⟩; clear c9; replace E := E.kept bb; replace K := K.kept bb; replace B := bthen B bb; clear g0 g1; obtain ⟨g0, g1⟩ := id K))
  go_ret
  exact ⟨rfl, B⟩

set_option maxHeartbeats 6400000 in
theorem walks_f (n : Nat) (es : List Eg) (hG : Gph n es) (hp : noPos es) (a : Option Addr) (cap m : Nat) (hm : es.length = m) (a1 : Option Addr) (cap1 p : Nat) (z : List Int) (hzp : z.length = p) (hl : p ≤ 1048576) (w : World) (hE : GRow w a es) (hz : Row w a1 z) (hf : ¬ wkz es z p) :
    Calls Try.prog 5 #[.agg #[.int .i64 n, .slice a m cap], .slice a1 p cap1] w fun e w' => e = .returned (.bool true) ∧ Below w.heap.size w w' := by
  have n3 := hG.n3
  have m4 : m ≤ 4800 := by rw [← hm]; exact hG.m4
  have hl' : p ≤ 9223372036854775807 := by omega
  obtain ⟨A1, A2, hA, hA2⟩ : ∃ A1 A2, wge es z = (A1, A2) ∧ A2 = 1 := ⟨_, _, wge_no (by rw [hzp]; exact hf), rfl⟩
  subst hA2
  have c11 : Hid (∀ v, GRow v a es → Calls Try.prog 11 #[.agg #[.int .i64 n, .slice a m cap]] v fun e w' => ∃ M d, e = .returned (.tuple #[.slice (some ⟨M, 0, none⟩) n n, .int .i64 0]) ∧ Cells w' M n d ∧ Mst es d ∧ Below v.heap.size v w') := fun v h => most_yes n es hG a cap m hm hp v h
  have c9 : Hid (∀ v, GRow v a es → Row v a1 z → Calls Try.prog 9 #[.agg #[.int .i64 n, .slice a m cap], .slice a1 p cap1] v fun e w' => e = .returned (.tuple #[.int .i64 A1, .int .i64 1]) ∧ Below v.heap.size v w') := fun v h k => weigh_n n es hG a cap m hm a1 cap1 p z hzp hl' v h k A1 1 hA
  have B : Below w.heap.size w (w.alloc (.cells #[.int .i64 n, .slice a m cap] 24)) := balloc (Below.refl _ _) _
  have E := hE.kept B
  have K := Gb.new w n a m cap
  have Z := hz.kept B
  have c17 : Hid (∀ v : World, True → Calls Try.prog 17 #[] v fun e w' => e = .returned (.bool true) ∧ Below v.heap.size v w') := fun v _ => alive_any v
  obtain ⟨w0, hw0⟩ : ∃ w0, w.alloc (.cells #[.int .i64 n, .slice a m cap] 24) = w0 := ⟨_, rfl⟩
  rw [hw0] at B E K Z
  obtain ⟨g0, g1⟩ := id K
  clear hE hG hp hm hz hA hzp hf
  go_enter Try.func5, Try.ntmps5
  go_wp2_with (first
    | (go_at_call 17; refine (c17.out _ trivial).mono ?_; rintro e v17 ⟨rfl, bb⟩; replace Z := Z.kept bb; clear c17; replace E := E.kept bb; replace K := K.kept bb; replace B := bthen B bb; clear g0 g1; obtain ⟨g0, g1⟩ := id K)
    | (go_at_call 11; refine (c11.out _ E).mono ?_; rintro e v11 ⟨M, d, rfl, C, S, bb⟩; replace Z := Z.kept bb; clear c11; replace E := E.kept bb; replace K := K.kept bb; replace B := bthen B bb; clear g0 g1; obtain ⟨g0, g1⟩ := id K)
    | (go_at_call 9; refine (c9.out _ E Z).mono ?_; rintro e v9 ⟨rfl, bb⟩; clear c9; replace E := E.kept bb; replace K := K.kept bb; replace B := bthen B bb; clear g0 g1; obtain ⟨g0, g1⟩ := id K))
  go_ret
  exact ⟨rfl, B⟩

set_option maxHeartbeats 6400000 in
theorem walks_y (n : Nat) (es : List Eg) (hG : Gph n es) (hp : noPos es) (a : Option Addr) (cap m : Nat) (hm : es.length = m) (a1 : Option Addr) (cap1 p : Nat) (z : List Int) (hzp : z.length = p) (hl : p ≤ 1048576) (w : World) (hE : GRow w a es) (hz : Row w a1 z) (hf : wkz es z p) :
    Calls Try.prog 5 #[.agg #[.int .i64 n, .slice a m cap], .slice a1 p cap1] w fun e w' => e = .returned (.bool true) ∧ Below w.heap.size w w' := by
  have n3 := hG.n3
  have m4 : m ≤ 4800 := by rw [← hm]; exact hG.m4
  have hl' : p ≤ 9223372036854775807 := by omega
  obtain ⟨A1, A2, hA, hA2, hA1⟩ : ∃ A1 A2, wge es z = (A1, A2) ∧ A2 = 0 ∧ A1 = wsz es z p := ⟨_, _, wge_yes (by rw [hzp]; exact hf), rfl, by rw [hzp]⟩
  subst hA2
  have hgh : Hid (Gph n es) := hG
  have hlm : Hid (es.length = m) := hm
  have hwk : Hid (wkz es z p) := hf
  have hzz : Hid (z.length = p) := hzp
  replace hA1 : Hid _ := hA1
  have c11 : Hid (∀ v, GRow v a es → Calls Try.prog 11 #[.agg #[.int .i64 n, .slice a m cap]] v fun e w' => ∃ M d, e = .returned (.tuple #[.slice (some ⟨M, 0, none⟩) n n, .int .i64 0]) ∧ Cells w' M n d ∧ Mst es d ∧ Below v.heap.size v w') := fun v h => most_yes n es hG a cap m hm hp v h
  have c9 : Hid (∀ v, GRow v a es → Row v a1 z → Calls Try.prog 9 #[.agg #[.int .i64 n, .slice a m cap], .slice a1 p cap1] v fun e w' => e = .returned (.tuple #[.int .i64 A1, .int .i64 0]) ∧ Below v.heap.size v w') := fun v h k => weigh_n n es hG a cap m hm a1 cap1 p z hzp hl' v h k A1 0 hA
  by_cases hp0 : p = 0
  · have d0 : ((p : Int) == 0) = true := beq_iff_eq.2 (by omega)
    clear hp0
    have B : Below w.heap.size w (w.alloc (.cells #[.int .i64 n, .slice a m cap] 24)) := balloc (Below.refl _ _) _
    have E := hE.kept B
    have K := Gb.new w n a m cap
    have Z := hz.kept B
    have c17 : Hid (∀ v : World, True → Calls Try.prog 17 #[] v fun e w' => e = .returned (.bool true) ∧ Below v.heap.size v w') := fun v _ => alive_any v
    obtain ⟨w0, hw0⟩ : ∃ w0, w.alloc (.cells #[.int .i64 n, .slice a m cap] 24) = w0 := ⟨_, rfl⟩
    rw [hw0] at B E K Z
    obtain ⟨g0, g1⟩ := id K
    clear hE hG hp hm hz hA hzp hf
    go_enter Try.func5, Try.ntmps5
    go_wp2_with (first
      | (go_at_call 17; refine (c17.out _ trivial).mono ?_; rintro e v17 ⟨rfl, bb⟩; replace Z := Z.kept bb; clear c17; replace E := E.kept bb; replace K := K.kept bb; replace B := bthen B bb; clear g0 g1; obtain ⟨g0, g1⟩ := id K)
      | (go_at_call 11; refine (c11.out _ E).mono ?_; rintro e v11 ⟨M, d, rfl, C, S, bb⟩; replace Z := Z.kept bb; clear c11; replace E := E.kept bb; replace K := K.kept bb; replace B := bthen B bb; clear g0 g1; obtain ⟨g0, g1⟩ := id K)
      | (go_at_call 9; refine (c9.out _ E Z).mono ?_; rintro e v9 ⟨rfl, bb⟩; replace C := C.kept bb; replace Z := Z.kept bb; clear c9; replace E := E.kept bb; replace K := K.kept bb; replace B := bthen B bb; clear g0 g1; obtain ⟨g0, g1⟩ := id K))
    go_ret
    exact ⟨rfl, B⟩
  · have d0 : ((p : Int) == 0) = false := beq_eq_false_iff_ne.2 (by omega)
    have B : Below w.heap.size w (w.alloc (.cells #[.int .i64 n, .slice a m cap] 24)) := balloc (Below.refl _ _) _
    have E := hE.kept B
    have K := Gb.new w n a m cap
    have Z := hz.kept B
    have c17 : Hid (∀ v : World, True → Calls Try.prog 17 #[] v fun e w' => e = .returned (.bool true) ∧ Below v.heap.size v w') := fun v _ => alive_any v
    obtain ⟨w0, hw0⟩ : ∃ w0, w.alloc (.cells #[.int .i64 n, .slice a m cap] 24) = w0 := ⟨_, rfl⟩
    rw [hw0] at B E K Z
    obtain ⟨g0, g1⟩ := id K
    clear hE hG hp hm hz hA hzp hf
    go_enter Try.func5, Try.ntmps5
    go_wp2_with (first
      | (go_at_call 17; refine (c17.out _ trivial).mono ?_; rintro e v17 ⟨rfl, bb⟩; replace Z := Z.kept bb; clear c17; replace E := E.kept bb; replace K := K.kept bb; replace B := bthen B bb; clear g0 g1; obtain ⟨g0, g1⟩ := id K)
      | (go_at_call 11; refine (c11.out _ E).mono ?_; rintro e v11 ⟨M, d, rfl, C, S, bb⟩; replace Z := Z.kept bb; clear c11; replace E := E.kept bb; replace K := K.kept bb; replace B := bthen B bb; clear g0 g1; obtain ⟨g0, g1⟩ := id K)
      | (go_at_call 9; refine (c9.out _ E Z).mono ?_; rintro e v9 ⟨rfl, bb⟩; replace C := C.kept bb; replace Z := Z.kept bb; clear c9; replace E := E.kept bb; replace K := K.kept bb; replace B := bthen B bb; clear g0 g1; obtain ⟨g0, g1⟩ := id K))
    obtain ⟨pp, hpp⟩ : ∃ pp, p = pp + 1 := ⟨p - 1, by omega⟩
    have q1 := hlm.out
    have q2 := hzz.out
    obtain ⟨zz0, zz1, _⟩ := hwk.out pp (by omega)
    obtain ⟨R, hR⟩ : ∃ R : Nat → Nat, ∀ j, R j = (z.getD j 0).toNat := ⟨fun j => (z.getD j 0).toNat, fun _ => rfl⟩
    have hW : Wok es R p := fun j hj => by
      obtain ⟨h1, h2, h3⟩ := hwk.out j hj
      exact ⟨by rw [hR]; omega, fun h => by rw [hR, hR]; exact h3 h⟩
    have hsum : A1 = nsum es R p := by
      rw [hA1.out]
      exact wsz_nsum hgh.out.wgt p (by omega) fun j hj => ⟨by rw [hR]; have := (hwk.out j hj).1; omega, (hW j hj).1⟩
    obtain ⟨l, hl1, hl2⟩ := wok_path hW pp (by omega)
    have hle : A1 ≤ d (eg es (R pp)).t := by
      have h1 := pots_walk S.1 hl1
      have h2 := S.2.1 (eg es (R 0)).f
      rw [hl2, ← hpp] at h1
      omega
    have rn : (eg es (R pp)).t < n := (hgh.out.inn _ (eg_mem (hW pp (by omega)).1)).2
    obtain ⟨b1, o1, rfl, e3⟩ := Z.at (by omega)
    have y1 := e3 pp (by omega)
    rw [show z.getD pp 0 = (R pp : Int) by rw [hR]; omega] at y1
    have rl := (hW pp (by omega)).1
    obtain ⟨b, off, rfl, e1⟩ := E.at (by omega)
    obtain ⟨_, x1, _⟩ := e1 (R pp) rl
    have y2 := C.c _ rn
    generalize (eg es (R pp)).t = T at *
    generalize R pp = R1 at *
    generalize d T = D at *
    have i1 : (R1 : Int) < (m : Int) := by omega
    have i2 : (p : Int) - 1 = (pp : Int) := by omega
    have i3 : IntKind.i64.wrap (pp : Int) = (pp : Int) := wrap_in (by omega)
    have i4 : (pp : Int) < (p : Int) := by omega
    have i5 : (T : Int) < (n : Int) := by omega
    have d4 : decide (A1 ≤ D) = true := decide_eq_true hle
    clear hW hl1 hl2 hsum e3 e1 q1 q2 hR hle hA1 hwk hzz hpp zz0 zz1 E C S Z
    go_quiet (fail)
    go_wp2
    go_ret
    exact ⟨rfl, below_drewN B _⟩

theorem potentialWalks_walk (N : Int) (a : Option Addr) (cap : Nat) (L : List Ed) (a1 : Option Addr) (cap1 : Nat) (z : List Int) (w : World) (hE : FarE w a cap L) (hz : FarS w a1 cap1 z) (hu : z.length ≤ 1048576) :
    Calls Try.prog 5 #[.agg #[.int .i64 N, .slice a L.length cap], .slice a1 z.length cap1] w fun e w' => e = .returned (.bool true) ∧ Below w.heap.size w w' := by
  by_cases hg : grt N L
  · obtain ⟨n, es, rfl, rfl, hG⟩ := grt_gph hg
    rw [List.length_map]
    by_cases hp : noPos es
    · by_cases hf : wkz es z z.length
      · exact walks_y n es hG hp a cap _ rfl a1 cap1 _ z rfl hu w hE.1 hz.1 hf
      · exact walks_f n es hG hp a cap _ rfl a1 cap1 _ z rfl hu w hE.1 hz.1 hf
    · exact walks_n n es hG hp a cap _ rfl a1 cap1 _ z rfl hu w hE.1 hz.1
  · exact walks_w N a cap L a1 cap1 _ w hE.1 (by have := hE.2; omega) hg

end Go.Proofs.Ytikcjlignnfkdaa.Z
namespace Go.Proofs.Ytikcjlignnfkdaa.potentialWalks
open Go.ChangeShapes Go.WideShapes Go.ChangeAt Go.RowKit Z
set_option linter.unusedVariables false

theorem contract (H : Type) (enc : TypeId × Value → H) (W : World) (base : Nat) (args : Array Value) (ds gs : List (DataW H)) (before : List MemPlace)
    (hval : ∀ (j : Nat) t v, Try.f5.params[j]? = some t → args[j]? = some v → Value.okWide Try.prog W .any base t v)
    (hW : DataW.Whole enc Try.prog Try.f5.params.toList Rows.potentialWalksSpec.vars false W args.toList ds gs before) (hk : Rows.uptoSmall H (ds ++ gs) = true) :
    Calls Try.prog 5 args W fun e W' => ∃ v, e = .returned v ∧ Rows.potentialWalksSpec.post enc Try.prog Try.f5 false true false false W args v W' := by
  have hW' := hW
  obtain ⟨p, q, hA0, hV, rfl, hfz, hnd⟩ := hW
  have hA : DataW.TrodAll enc Try.prog W 0 (fun _ => true) true Try.f5.params.toList args.toList ds p := hA0
  rw [Try.params5] at hA hval
  obtain ⟨v0, vs0, d0, ds0, p0, q0, hargs, rfl, rfl, h0, r0⟩ := trodAll_cons hA
  obtain ⟨v1, vs1, d1, ds1, p1, q1, rfl, rfl, rfl, h1, r1⟩ := trodAll_cons r0
  obtain ⟨rfl, rfl, rfl⟩ := trodAll_nil r1
  obtain rfl : args = #[v0, v1] := by cases args; simp_all
  obtain ⟨rfl, rfl⟩ := trodVars_none hV
  have k0 := h0
  have lt0 : ∀ x ∈ p0, x.block < W.heap.size := by obtain ⟨m, hm⟩ := k0; exact DataW.trod_lt m _ _ _ hm
  obtain ⟨x0_0, a0, cap0, z0, rfl, w0⟩ := openG (hval 0 24 v0 rfl rfl) h0
  have k1 := h1
  have lt1 : ∀ x ∈ p1, x.block < W.heap.size := by obtain ⟨m, hm⟩ := k1; exact DataW.trod_lt m _ _ _ hm
  obtain ⟨a1, len1, cap1, rfl⟩ := okWide_slice Try.underlying25 (hval 1 25 v1 rfl rfl)
  obtain ⟨z1, rfl, w1, e1⟩ := farS h1
  have l1 : z1.length ≤ 1048576 := by
    rcases e1 with ⟨_, e⟩ | ⟨elems, spare, e, hle⟩
    · omega
    · subst e
      exact Nat.le_trans hle (bulk_at (i := 1) (elems := elems) (spare := spare) hk rfl)
  clear hA0
  refine (potentialWalks_walk x0_0 a0 cap0 z0 a1 cap1 z1 W w0 w1 l1).mono fun e W' ⟨he, bel⟩ => ?_
  subst he
  exact ⟨_, rfl, _, _, _, [], _, [], hW', trodAll_mk1 (shut_bool Try.underlying4 _), (trodAll_cons_mk (Below.trod laidOut (by kernel_rfl) (of_decide_eq_true (by kernel_rfl)) k0 bel lt0) (trodAll_cons_mk (Below.trod laidOut (by kernel_rfl) (of_decide_eq_true (by kernel_rfl)) k1 bel lt1) trodAll_mk0)), rfl, bel.frame _, fun h => by cases h⟩

set_option maxRecDepth 100000 in
theorem lifted (os : Os) (started : os.Started) (H : Type) (enc : TypeId × Value → H) (F : Stop.Interp) :
    ReturnsInHanded {} Try.checked os 5 .any ((Rows.OpenSpec.upto Rows.potentialWalksSpec).pre6 enc Try.prog Try.f5 Rows.potentialWalksUptoRow.domain false) (((Rows.OpenSpec.upto Rows.potentialWalksSpec).at F).post enc Try.prog Try.f5 false true false false) := by
  refine returnsInHanded_of_cond (C := Try.checked) (s := Rows.OpenSpec.upto Rows.potentialWalksSpec) (k := Rows.uptoSmall) rfl own started (by kernel_rfl) Try.func5
    (OpenSpec.witness (enc := enc) (C := Try.checked) (s := Rows.OpenSpec.upto Rows.potentialWalksSpec) (k := Rows.uptoSmall) rfl false ⟨#[], #[.agg #[.int .i64 0, .slice none 0 0], .slice none 0 0], []⟩ 8 (by kernel_rfl) (by kernel_rfl) (by kernel_rfl)
      (x := ([.agg [.lit (.int .i64 0), .nil], .nil], [], [])) (by kernel_rfl) rfl (by kernel_rfl)) ?_
  intro W base args ds gs before hval hW _ hk _
  exact contract H enc W base args ds gs before hval hW hk

theorem proved : Rows.PotentialWalksUptoSaid :=
  OpenClaim.holds_of_cond 5 Try.f5 rfl rfl rfl rfl rfl rfl rfl ⟨rfl, rfl, rfl, rfl, rfl⟩ rfl rfl rfl rfl rfl (by kernel_rfl) Try.func5 (by kernel_rfl)
    (of_decide_eq_true (by kernel_rfl)) (by unfold Func.isWrapper; first | (rw [if_pos (by decide +kernel)]; kernel_rfl) | (rw [if_neg (by decide +kernel)]; exact ⟨rfl, rfl⟩))
    (fun os started H enc _ F => lifted os started H enc F)

end Go.Proofs.Ytikcjlignnfkdaa.potentialWalks
namespace Go.Proofs.Ytikcjlignnfkdaa
theorem potentialWalksUpto_holds : Rows.PotentialWalksUptoSaid := potentialWalks.proved
#print axioms potentialWalksUpto_holds
end Go.Proofs.Ytikcjlignnfkdaa
