/- PROVED: PotentialTight: potentials are their own proof: along each edge they rise by what it weighs at least; and each is nothing, or rises by just so much along some edge. CONDITIONS: none. -/
import Derived.Test.YtikcjlignnfkdaaTold
import Derived.Test.YtikcjlignnfkdaaFar
import Derived.Test.YtikcjlignnfkdaaAlv
namespace Go.Proofs.Ytikcjlignnfkdaa.Z
open Go.RowKit
set_option linter.unusedVariables false

/-- so many of the first edges are tight, of those that end at v -/
def cnt (es : List Eg) (d : Nat → Int) : Nat → Nat → Int
  | 0, _ => 0
  | j + 1, v => if (eg es j).t = v ∧ d (eg es j).t = d (eg es j).f + (eg es j).x then cnt es d j v + 1 else cnt es d j v
theorem cnt_range (es : List Eg) (d : Nat → Int) (j v : Nat) : 0 ≤ cnt es d j v ∧ cnt es d j v ≤ j := by
  induction j with
  | zero => exact ⟨Int.le_refl _, Int.le_refl _⟩
  | succ j ih => unfold cnt; split <;> omega
theorem cnt_up (es : List Eg) (d : Nat → Int) (v : Nat) {j k : Nat} (h : j ≤ k) : cnt es d j v ≤ cnt es d k v := by
  induction h with
  | refl => exact Int.le_refl _
  | @step k _ ih =>
    refine Int.le_trans ih ?_
    show cnt es d k v ≤ if (eg es k).t = v ∧ d (eg es k).t = d (eg es k).f + (eg es k).x then cnt es d k v + 1 else cnt es d k v
    split <;> omega
theorem cnt_some {es : List Eg} {d : Nat → Int} {i v : Nat} (hi : i < es.length) (h1 : (eg es i).t = v) (h2 : d v = d (eg es i).f + (eg es i).x) : 0 < cnt es d es.length v := by
  have h3 : cnt es d (i + 1) v = cnt es d i v + 1 := if_pos (show (eg es i).t = v ∧ d (eg es i).t = d (eg es i).f + (eg es i).x from ⟨h1, by rw [h1]; exact h2⟩)
  have h4 := cnt_up es d v (show i + 1 ≤ es.length by omega)
  have := (cnt_range es d i v).1
  omega
theorem wt_hi {es : List Eg} (hw : Wgt es) {u v : Nat} {l : List Eg} (h : Path es u l v) : wt l ≤ (l.length : Int) * 1048576 := by
  induction l generalizing u with
  | nil => exact Int.le_refl _
  | cons e l ih =>
    obtain ⟨h1, _, h3⟩ := h
    have := ih h3
    have := (hw e h1).2
    simp only [wt, List.length_cons]
    omega
theorem mst_range {n : Nat} {es : List Eg} (hG : Gph n es) {d : Nat → Int} (h : Mst es d) (v : Nat) : 0 ≤ d v ∧ d v ≤ 314572800 := by
  refine ⟨h.2.1 v, ?_⟩
  obtain ⟨u, l, g1, g2⟩ := h.2.2 v
  obtain ⟨l', q1, q2, q3⟩ := short hG.inn h.noPos _ u v l (Nat.le_refl _) g1
  have := wt_hi hG.wgt q1
  have := hG.n3
  omega

set_option maxHeartbeats 6400000 in
theorem tight_w (N : Int) (a : Option Addr) (cap : Nat) (L : List Ed) (w : World) (hE : ERow w a L) (hl : L.length ≤ 9223372036854775807) (hg : ¬ grt N L) :
    Calls Try.prog 6 #[.agg #[.int .i64 N, .slice a L.length cap]] w fun e w' => e = .returned (.bool true) ∧ Below w.heap.size w w' := by
  have c11 : Hid (∀ v, ERow v a L → Calls Try.prog 11 #[.agg #[.int .i64 N, .slice a L.length cap]] v fun e w' => e = .returned (.tuple #[.slice none 0 0, .int .i64 2]) ∧ Below v.heap.size v w') := fun v h => most_wrong N a cap L v h hl hg
  generalize L.length = m at *
  have B : Below w.heap.size w (w.alloc (.cells #[.int .i64 N, .slice a m cap] 24)) := balloc (Below.refl _ _) _
  have E := hE.kept B
  have K := Gb.new w N a m cap
  have c17 : Hid (∀ v : World, True → Calls Try.prog 17 #[] v fun e w' => e = .returned (.bool true) ∧ Below v.heap.size v w') := fun v _ => alive_any v
  obtain ⟨w0, hw0⟩ : ∃ w0, w.alloc (.cells #[.int .i64 N, .slice a m cap] 24) = w0 := ⟨_, rfl⟩
  rw [hw0] at B E K
  obtain ⟨g0, g1⟩ := id K
  clear hE hg
  go_enter Try.func6, Try.ntmps6
  go_wp2_with (first
    | (go_at_call 17; refine (c17.out _ trivial).mono ?_; rintro e v17 ⟨rfl, bb⟩; clear c17; replace E := E.kept bb; replace K := K.kept bb; replace B := bthen B bb; clear g0 g1; obtain ⟨g0, g1⟩ := id K)
    | (go_at_call 11; refine (c11.out _ E).mono ?_; rintro e v11 ⟨rfl, bb⟩; clear c11; replace E := E.kept bb; replace K := K.kept bb; replace B := bthen B bb; clear g0 g1; obtain ⟨g0, g1⟩ := id K))
  go_ret
  exact ⟨rfl, B⟩

set_option maxHeartbeats 6400000 in
theorem tight_n (n : Nat) (es : List Eg) (hG : Gph n es) (hp : ¬ noPos es) (a : Option Addr) (cap m : Nat) (hm : es.length = m) (w : World) (hE : GRow w a es) :
    Calls Try.prog 6 #[.agg #[.int .i64 n, .slice a m cap]] w fun e w' => e = .returned (.bool true) ∧ Below w.heap.size w w' := by
  have n3 := hG.n3
  have m4 : m ≤ 4800 := by rw [← hm]; exact hG.m4
  have c11 : Hid (∀ v, GRow v a es → Calls Try.prog 11 #[.agg #[.int .i64 n, .slice a m cap]] v fun e w' => e = .returned (.tuple #[.slice none 0 0, .int .i64 3]) ∧ Below v.heap.size v w') := fun v h => most_no n es hG a cap m hm hp v h
  have B : Below w.heap.size w (w.alloc (.cells #[.int .i64 n, .slice a m cap] 24)) := balloc (Below.refl _ _) _
  have E := hE.kept B
  have K := Gb.new w n a m cap
  have c17 : Hid (∀ v : World, True → Calls Try.prog 17 #[] v fun e w' => e = .returned (.bool true) ∧ Below v.heap.size v w') := fun v _ => alive_any v
  obtain ⟨w0, hw0⟩ : ∃ w0, w.alloc (.cells #[.int .i64 n, .slice a m cap] 24) = w0 := ⟨_, rfl⟩
  rw [hw0] at B E K
  obtain ⟨g0, g1⟩ := id K
  clear hE hG hp hm
  go_enter Try.func6, Try.ntmps6
  go_wp2_with (first
    | (go_at_call 17; refine (c17.out _ trivial).mono ?_; rintro e v17 ⟨rfl, bb⟩; clear c17; replace E := E.kept bb; replace K := K.kept bb; replace B := bthen B bb; clear g0 g1; obtain ⟨g0, g1⟩ := id K)
    | (go_at_call 11; refine (c11.out _ E).mono ?_; rintro e v11 ⟨rfl, bb⟩; clear c11; replace E := E.kept bb; replace K := K.kept bb; replace B := bthen B bb; clear g0 g1; obtain ⟨g0, g1⟩ := id K))
  go_ret
  exact ⟨rfl, B⟩

set_option maxHeartbeats 6400000 in
theorem tight_y (n : Nat) (es : List Eg) (hG : Gph n es) (hp : noPos es) (a : Option Addr) (cap m : Nat) (hm : es.length = m) (w : World) (hE : GRow w a es) :
    Calls Try.prog 6 #[.agg #[.int .i64 n, .slice a m cap]] w fun e w' => e = .returned (.bool true) ∧ Below w.heap.size w w' := by
  have n3 := hG.n3
  have m4 : m ≤ 4800 := by rw [← hm]; exact hG.m4
  have c11 : Hid (∀ v, GRow v a es → Calls Try.prog 11 #[.agg #[.int .i64 n, .slice a m cap]] v fun e w' => ∃ M d, e = .returned (.tuple #[.slice (some ⟨M, 0, none⟩) n n, .int .i64 0]) ∧ Cells w' M n d ∧ Mst es d ∧ Below v.heap.size v w') := fun v h => most_yes n es hG a cap m hm hp v h
  have hgh : Hid (Gph n es) := hG
  have hlm : Hid (es.length = m) := hm
  have hmk := run_make_row' (P := Try.prog) 25 3 (.int .i64 0) 8 Try.underlying25 Try.info3 rfl .i64 .i64 n (by omega) (by omega)
  have d0 : ((n : Int) != (n : Int)) = false := bne_self_eq_false _
  have B : Below w.heap.size w (w.alloc (.cells #[.int .i64 n, .slice a m cap] 24)) := balloc (Below.refl _ _) _
  have E := hE.kept B
  have K := Gb.new w n a m cap
  have c17 : Hid (∀ v : World, True → Calls Try.prog 17 #[] v fun e w' => e = .returned (.bool true) ∧ Below v.heap.size v w') := fun v _ => alive_any v
  obtain ⟨w0, hw0⟩ : ∃ w0, w.alloc (.cells #[.int .i64 n, .slice a m cap] 24) = w0 := ⟨_, rfl⟩
  rw [hw0] at B E K
  obtain ⟨g0, g1⟩ := id K
  clear hE hG hp hm
  go_enter Try.func6, Try.ntmps6
  go_wp2_with (first
    | (go_at_call 17; refine (c17.out _ trivial).mono ?_; rintro e v17 ⟨rfl, bb⟩; clear c17; replace E := E.kept bb; replace K := K.kept bb; replace B := bthen B bb; clear g0 g1; obtain ⟨g0, g1⟩ := id K)
    | (go_at_call 11; refine (c11.out _ E).mono ?_; rintro e v11 ⟨M, d, rfl, C, S, bb⟩; clear c11; replace E := E.kept bb; replace K := K.kept bb; replace B := bthen B bb; clear g0 g1; obtain ⟨g0, g1⟩ := id K; obtain ⟨g2, g3⟩ := id (K.alloc (.cells (madeCells #[.int .i64 0] n) 3))))
  clear hmk g2 g3 d0
  have hst : Cells (v11.alloc (.cells (madeCells #[.int .i64 0] n) 3)) v11.heap.size n (cnt es d 0) := Cells.start v11 n _ fun _ _ => rfl
  have hbs : Below v11.heap.size v11 (v11.alloc (.cells (madeCells #[.int .i64 0] n) 3)) := balloc (Below.refl _ _) _
  have hS : Hid (Mst es d) := S
  clear S g0 g1
  go_loopw [33] (fun i wr => ∃ j : Nat, j ≤ m ∧ i = .int .i64 j ∧ Cells wr v11.heap.size n (cnt es d j) ∧ Below v11.heap.size v11 wr) (fun i _ => m - (intOf i).toNat)
  case atStart => exact ⟨0, Nat.zero_le _, rfl, hst, hbs⟩
  case round =>
    obtain ⟨j, hj, rfl, hJ, hB⟩ := hrel
    clear hst hbs
    by_cases hlt : j < m
    · have q1 := hlm.out
      have G := hgh.out
      have hin := G.inn _ (eg_mem (es := es) (i := j) (by omega))
      have hx := G.wgt _ (eg_mem (es := es) (i := j) (by omega))
      have hP := hS.out.1 _ (eg_mem (es := es) (i := j) (by omega))
      obtain ⟨b, off, rfl, e1⟩ := (E.kept hB).at (by omega)
      obtain ⟨cx1, cy1, cz1⟩ := e1 j (by omega)
      have hjI : (j : Int) < (m : Int) := by omega
      have hnx : Hid (∀ v, cnt es d (j + 1) v = if (eg es j).t = v ∧ d (eg es j).t = d (eg es j).f + (eg es j).x then cnt es d j v + 1 else cnt es d j v) := fun v => rfl
      have rf := mst_range G hS.out (eg es j).f
      have rt := mst_range G hS.out (eg es j).t
      have rc := cnt_range es d j (eg es j).t
      have hC1 := C.kept hB
      obtain ⟨R1, hR1⟩ : ∃ R1, cnt es d (j + 1) = R1 := ⟨_, rfl⟩
      rw [hR1] at hnx
      replace hR1 : Hid _ := hR1
      obtain ⟨⟨f, t, x⟩, he⟩ : ∃ e, eg es j = e := ⟨_, rfl⟩
      rw [he] at cx1 cy1 cz1 hin hx hP hnx rf rt rc
      simp only at cx1 cy1 cz1 hin hx hP rf rt rc
      replace hnx : Hid (∀ v, R1 v = if t = v ∧ d t = d f + x then cnt es d j v + 1 else cnt es d j v) := hnx.out
      clear e1 q1 G he
      have x0 : (wr.alloc (.cells #[.int .i64 (f : Int), .int .i64 (t : Int), .int .i64 x] 37)).cell? ⟨wr.heap.size, 0, none⟩ = some (.int .i64 f) := by rw [World.cell?_alloc_at _ _ _ _ rfl]; rfl
      have x1 : (wr.alloc (.cells #[.int .i64 (f : Int), .int .i64 (t : Int), .int .i64 x] 37)).cell? ⟨wr.heap.size, 1, none⟩ = some (.int .i64 t) := by rw [World.cell?_alloc_at _ _ _ _ rfl]; rfl
      have x2 : (wr.alloc (.cells #[.int .i64 (f : Int), .int .i64 (t : Int), .int .i64 x] 37)).cell? ⟨wr.heap.size, 2, none⟩ = some (.int .i64 x) := by rw [World.cell?_alloc_at _ _ _ _ rfl]; rfl
      have hJ3 := hJ.alloc (.cells #[.int .i64 (f : Int), .int .i64 (t : Int), .int .i64 x] 37)
      have hC3 := hC1.alloc (.cells #[.int .i64 (f : Int), .int .i64 (t : Int), .int .i64 x] 37)
      have hB3 := hB.alloc hB.size (.cells #[.int .i64 (f : Int), .int .i64 (t : Int), .int .i64 x] 37)
      obtain ⟨W1, hW1⟩ : ∃ W1, wr.alloc (.cells #[.int .i64 (f : Int), .int .i64 (t : Int), .int .i64 x] 37) = W1 := ⟨_, rfl⟩
      rw [hW1] at x0 x1 x2 hJ3 hC3 hB3
      have ct := hC3.c t hin.2
      have cf := hC3.c f hin.1
      have cj := hJ3.c t hin.2
      have fj := hJ3.fz t hin.2
      have fI : (f : Int) < (n : Int) := by omega
      have tI : (t : Int) < (n : Int) := by omega
      obtain ⟨W, hW⟩ : ∃ W, d f + x = W := ⟨_, rfl⟩
      have hWw : IntKind.i64.wrap (d f + x) = W := by rw [← hW]; exact wrap_in (by omega)
      have hWv : wrap64 (d f + x) = W := by rw [← hW]; exact IntWalk.wrap64_in _ (by omega)
      have dlt : decide (d t < W) = false := decide_eq_false (by omega)
      by_cases heq : d t = W
      · have deq : (d t == W) = true := beq_iff_eq.2 heq
        have hN : ∀ q : Nat, Cells ((W1.drewN q).setCell ⟨v11.heap.size, t, none⟩ (.int .i64 (cnt es d j t + 1))) v11.heap.size n R1 := fun q => (hJ3.drewN q).put hin.2 (by rw [hnx.out, if_pos ⟨rfl, by rw [heq, hW]⟩]) (fun u _ hu => by rw [hnx.out, if_neg (fun q => hu q.1.symm)])
        have hBn := fun q : Nat => Below.setCell (p := ⟨v11.heap.size, t, none⟩) (below_drewN hB3 q) (Nat.le_refl _) (.int .i64 (cnt es d j t + 1))
        replace hN : Hid _ := hN
        replace hBn : Hid _ := hBn
        replace hW : Hid _ := hW
        clear hJ3 hC3 hJ hC1 hnx heq hP
        generalize cnt es d j t = cn at *
        generalize d t = dt at *
        generalize d f = df at *
        go_wp2
        go_quiet (fail)
        go_wp2
        go_quiet (fail)
        go_wp2
        go_roundw
        case rel => exact ⟨j + 1, by omega, by go_num, by rw [hR1.out]; exact hN.out _, hBn.out _⟩
        case measure => simp [intOf]; omega
      · have deq : (d t == W) = false := beq_eq_false_iff_ne.2 heq
        have hN : ∀ q : Nat, Cells (W1.drewN q) v11.heap.size n R1 := fun q => (hJ3.drewN q).ext fun u _ => by rw [hnx.out, if_neg (fun q => heq (by rw [q.2, hW]))]
        replace hN : Hid _ := hN
        replace hW : Hid _ := hW
        clear hJ3 hC3 hJ hC1 hnx heq hP cj fj
        generalize d t = dt at *
        generalize d f = df at *
        go_wp2
        go_quiet (fail)
        go_wp2
        go_quiet (fail)
        go_wp2
        go_roundw
        case rel => exact ⟨j + 1, by omega, by go_num, by rw [hR1.out]; exact hN.out _, by first | exact below_drewN hB3 _ | exact below_drewN (below_drewN hB3 _) _⟩
        case measure => simp [intOf]; omega
    · obtain rfl : j = m := by omega
      have hC1 := C.kept hB
      have hBB := bthen B hB
      have hpos : Hid (∀ v, d v = 0 ∨ 0 < cnt es d j v) := fun v => by
        rcases hS.out.tight v with h | ⟨i, h1, h2, h3⟩
        · exact .inl h
        · right; rw [← hlm.out]; exact cnt_some h1 h2 h3
      have hlo : Hid (∀ v, 0 ≤ d v) := hS.out.2.1
      obtain ⟨cc, hcc⟩ : ∃ cc, cnt es d j = cc := ⟨_, rfl⟩
      rw [hcc] at hJ hpos
      obtain ⟨W2, hW2⟩ : ∃ W2 : World, W2 = wr := ⟨_, rfl⟩
      clear hcc hlt
      go_wp2
      go_loopw [75] (fun i ws => ∃ k : Nat, k ≤ n ∧ i = .int .i64 k ∧ W2 = ws) (fun i _ => n - (intOf i).toNat)
      case atStart => exact ⟨0, Nat.zero_le _, rfl, hW2⟩
      case round =>
        obtain ⟨k, hk, rfl, rfl⟩ := hrel
        subst hW2
        by_cases hlt : k < n
        · have ck := hC1.c k hlt
          have cj := hJ.c k hlt
          have hkI : (k : Int) < (n : Int) := by omega
          have h0 := hlo.out k
          have h1 := hpos.out k
          have e0 : decide (d k < 0) = false := decide_eq_false (by omega)
          generalize d k = dk at *
          generalize cc k = ck1 at *
          by_cases hd : 0 < dk
          · have e1 : decide (0 < dk) = true := decide_eq_true hd
            have e2 : (ck1 == 0) = false := beq_eq_false_iff_ne.2 (by omega)
            clear h0 h1 hd
            go_wp2
            go_roundw
            case rel => exact ⟨k + 1, by omega, by go_num, by first | rfl | trivial⟩
            case measure => simp [intOf]; omega
          · have e1 : decide (0 < dk) = false := decide_eq_false hd
            clear h0 h1 hd cj
            go_wp2
            go_roundw
            case rel => exact ⟨k + 1, by omega, by go_num, by first | rfl | trivial⟩
            case measure => simp [intOf]; omega
        · obtain rfl : k = n := by omega
          go_wp2
          go_ret
          exact ⟨rfl, hBB⟩

theorem potentialTight_walk (N : Int) (a : Option Addr) (cap : Nat) (L : List Ed) (w : World) (hE : FarE w a cap L) :
    Calls Try.prog 6 #[.agg #[.int .i64 N, .slice a L.length cap]] w fun e w' => e = .returned (.bool true) ∧ Below w.heap.size w w' := by
  by_cases hg : grt N L
  · obtain ⟨n, es, rfl, rfl, hG⟩ := grt_gph hg
    rw [List.length_map]
    by_cases hp : noPos es
    · exact tight_y n es hG hp a cap _ rfl w hE.1
    · exact tight_n n es hG hp a cap _ rfl w hE.1
  · exact tight_w N a cap L w hE.1 (by have := hE.2; omega) hg

end Go.Proofs.Ytikcjlignnfkdaa.Z
namespace Go.Proofs.Ytikcjlignnfkdaa.potentialTight
open Go.ChangeShapes Go.WideShapes Go.ChangeAt Go.RowKit Z
set_option linter.unusedVariables false

set_option maxRecDepth 100000 in
theorem lifted (os : Os) (started : os.Started) (H : Type) (enc : TypeId × Value → H) :
    ReturnsInHanded {} Try.checked os 6 .any (Rows.potentialTightSpec.pre6 enc Try.prog Try.f6 Rows.potentialTightRow.domain false) (Rows.potentialTightSpec.post enc Try.prog Try.f6 false true false false) := by
  refine returnsInHanded_of_change_sized (C := Try.checked) own started (by kernel_rfl) Try.func6
    (ChangeSpec.witness6 (enc := enc) (C := Try.checked) false ⟨#[], #[.agg #[.int .i64 0, .slice none 0 0]], []⟩ 8 (by kernel_rfl) (by kernel_rfl) (by kernel_rfl) (by kernel_rfl)) ?_
  intro W base args ds gs before hval0 hW _ hsz0 _
  have hval : ∀ (j : Nat) t v, Try.f6.params[j]? = some t → args[j]? = some v → Value.okWide Try.prog W .any base t v := hval0
  have hW' := hW
  obtain ⟨p, q, hA0, hV, rfl, hfz, hnd⟩ := hW
  have hA : DataW.TrodAll enc Try.prog W 0 (fun _ => true) true Try.f6.params.toList args.toList ds p := hA0
  rw [Try.params6] at hA hval
  obtain ⟨v0, vs0, d0, ds0, p0, q0, hargs, rfl, rfl, h0, r0⟩ := trodAll_cons hA
  obtain ⟨rfl, rfl, rfl⟩ := trodAll_nil r0
  obtain rfl : args = #[v0] := by cases args; simp_all
  obtain ⟨rfl, rfl⟩ := trodVars_none hV
  have k0 := h0
  have lt0 : ∀ x ∈ p0, x.block < W.heap.size := by obtain ⟨m, hm⟩ := k0; exact DataW.trod_lt m _ _ _ hm
  obtain ⟨x0_0, a0, cap0, z0, rfl, w0⟩ := openG (hval 0 24 v0 rfl rfl) h0
  clear hA0 hval0 hsz0
  refine (potentialTight_walk x0_0 a0 cap0 z0 W w0).mono fun e W' ⟨he, bel⟩ => ?_
  subst he
  exact ⟨_, rfl, _, _, _, [], _, [], hW', trodAll_mk1 (shut_bool Try.underlying4 _), (trodAll_cons_mk (Below.trod laidOut (by kernel_rfl) (of_decide_eq_true (by kernel_rfl)) k0 bel lt0) trodAll_mk0), rfl, bel.frame _, fun h => by cases h⟩

theorem proved : Rows.PotentialTightSaid :=
  OpenClaim.holds_of_wide 6 Try.f6 rfl rfl rfl rfl rfl rfl rfl ⟨rfl, rfl, rfl, rfl, rfl⟩ rfl rfl rfl rfl rfl (by kernel_rfl) Try.func6 (by kernel_rfl)
    (of_decide_eq_true (by kernel_rfl)) (by unfold Func.isWrapper; first | (rw [if_pos (by decide +kernel)]; kernel_rfl) | (rw [if_neg (by decide +kernel)]; exact ⟨rfl, rfl⟩))
    (fun os started H enc _ => lifted os started H enc)

end Go.Proofs.Ytikcjlignnfkdaa.potentialTight
namespace Go.Proofs.Ytikcjlignnfkdaa
theorem potentialTight_holds : Rows.PotentialTightSaid := potentialTight.proved
#print axioms potentialTight_holds
end Go.Proofs.Ytikcjlignnfkdaa
