/- PROVED: ClockMore: who waits longer is seen so, at every size. CONDITIONS: none. -/
import Derived.Test.YtngmjmehkehbeaaTold
import Derived.Test.YtngmjmehkehbeaaPacks
namespace Go.Proofs.Ytngmjmehkehbeaa
open Go.RowKit
set_option linter.unusedVariables false

theorem PRow.one {w : World} {b o : Nat} {ps : Rs} (h : PRow w (some ⟨b, o, none⟩) ps) {n m : Nat} (hn : ps.length = n) (hm : m < n) : w.cell? ⟨b, o + m * 2, none⟩ = some (.int .i64 (ps.getD m (0, 0)).1) ∧ w.cell? ⟨b, o + m * 2 + 1, none⟩ = some (.int .i64 (ps.getD m (0, 0)).2) := by
  obtain ⟨b', o', e, k⟩ := h.at (by omega)
  cases e
  exact k m (by omega)
theorem clone_n (a : Option Addr) (c n : Nat) (ps : Rs) (w : World) (k : PRow w a ps) (e1 : ps.length = n) (h0 : 0 < n) (h : n ≤ 8796093022206) :
    Calls Try.prog 15 #[.slice a n c] w fun e w' => ∃ g c, e = .returned (.slice (some ⟨g, 0, none⟩) n c) ∧ n ≤ c ∧ w.heap.size ≤ g ∧ PCells w' g ps ∧ Below w.heap.size w w' := by
  obtain ⟨b, o, rfl, hc⟩ := k.at (by omega)
  exact clone_any b o c ps n w e1 h0 h hc
theorem Row.take {w : World} {a : Option Addr} {z : List Int} (h : Row w a z) (m : Nat) (hm : m ≤ z.length) : Row w a (z.take m) := by
  rcases h with e | ⟨b, o, e, k⟩
  · exact .inl (by subst e; simp)
  · refine .inr ⟨b, o, e, fun j hj => ?_⟩
    have hj' : j < m := by rw [List.length_take] at hj; omega
    rw [k j (by omega), List.getD_eq_getElem?_getD, List.getD_eq_getElem?_getD, List.getElem?_take_of_lt hj']
/-- the last one's time of coming is written anew -/
theorem PCells.put {w : World} {g : Nat} {ps : Rs} (h : PCells w g ps) {m : Nat} (hm : m < ps.length) (y : Int) : PRow (w.setCell ⟨g, m * 2 + 1, none⟩ (.int .i64 y)) (some ⟨g, 0, none⟩) (ps.set m ((ps.getD m (0, 0)).1, y)) := by
  refine .inr ⟨g, 0, rfl, fun j hj => ?_⟩
  rw [List.length_set] at hj
  rw [Nat.zero_add]
  have c1 : (w.setCell ⟨g, m * 2 + 1, none⟩ (.int .i64 y)).cell? ⟨g, j * 2, none⟩ = w.cell? ⟨g, j * 2, none⟩ := World.cell?_setCell_other _ _ _ _ (fun q => by injection q with _ q _; omega)
  rw [c1]
  by_cases e : j = m
  · subst e
    have gs : (ps.set j ((ps.getD j (0, 0)).1, y)).getD j (0, 0) = ((ps.getD j (0, 0)).1, y) := by
      rw [List.getD_eq_getElem?_getD, List.getElem?_set_self hj]; rfl
    rw [gs]
    exact ⟨(h.c j hj).1, World.cell?_setCell_same _ _ _ (h.c j hj).2⟩
  · have c2 : (w.setCell ⟨g, m * 2 + 1, none⟩ (.int .i64 y)).cell? ⟨g, j * 2 + 1, none⟩ = w.cell? ⟨g, j * 2 + 1, none⟩ := World.cell?_setCell_other _ _ _ _ (fun q => by injection q with _ q _; omega)
    have gs : (ps.set m ((ps.getD m (0, 0)).1, y)).getD j (0, 0) = ps.getD j (0, 0) := by
      rw [List.getD_eq_getElem?_getD, List.getElem?_set_ne (fun q => e q.symm), ← List.getD_eq_getElem?_getD]
    rw [c2, gs]
    exact h.c j hj

set_option maxHeartbeats 6400000 in
theorem more_any (x0 : Option Addr) (c0 n : Nat) (ps : Rs) (u v more : Int) (w : World) (r0 : PRow w x0 ps) (l0 : Hid (ps.length = n)) (hn : n ≤ 8796093021952) (hu : u ≤ 9223372036854775807) (hv : v ≤ 9223372036854775807)
    (hyes : Hid (∀ m x y, n = m + 1 → 1 ≤ u → 2 ≤ v → 0 ≤ more → more ≤ 1099511627776 → cright ps → ps.getD m (0, 0) = (x, y) → y + more ≤ 1099511627776 →
      (-1099511627776 ≤ y ∧ y ≤ 1099511627776) ∧ ∃ A B : List Int, waits ps u v = A ∧ waits (ps.set m (x, y + more)) u v = B ∧ A.length = n ∧ B.length = n ∧ A.take m = B.take m ∧ (0 ≤ A.getD m 0 ∧ A.getD m 0 ≤ 4398046511104) ∧ A.getD m 0 ≤ B.getD m 0 ∧ B.getD m 0 ≤ A.getD m 0 + more ∧ (A.getD m 0 = 0 ∨ B.getD m 0 = A.getD m 0 + more))) :
    Calls Try.prog 6 #[.slice x0 n c0, .int .i64 u, .int .i64 v, .int .i64 more] w fun e w' => e = .returned (.bool true) ∧ Below w.heap.size w w' := by
  by_cases h1 : (n : Int) - 1 < 1
  · have d1 : decide ((n : Int) - 1 < 1) = true := decide_eq_true h1
    clear r0 hyes
    go_enter Try.func6, Try.ntmps6
    go_wp2_with (go_at_call 13; refine (alive_any _).mono ?_; rintro e v1 ⟨rfl, b1⟩)
    go_ret
    exact ⟨rfl, b1⟩
  obtain ⟨m, hm⟩ : ∃ m, n = m + 1 := ⟨n - 1, by omega⟩
  have hf : (n : Int) - 1 = (m : Int) := by omega
  have d1 : decide ((m : Int) < 1) = false := decide_eq_false (by omega)
  have hmn : m < n := by omega
  have hmI : (m : Int) < n := by omega
  replace hm : Hid (n = m + 1) := hm
  clear h1
  by_cases h2 : u < 1
  · have d2 : decide (u < 1) = true := decide_eq_true h2
    clear r0 hyes
    go_enter Try.func6, Try.ntmps6
    go_wp2_with (go_at_call 13; refine (alive_any _).mono ?_; rintro e v1 ⟨rfl, b1⟩)
    go_ret
    exact ⟨rfl, b1⟩
  have d2 : decide (u < 1) = false := decide_eq_false h2
  by_cases h3 : v < 2
  · have d3 : decide (v < 2) = true := decide_eq_true h3
    clear r0 hyes
    go_enter Try.func6, Try.ntmps6
    go_wp2_with (go_at_call 13; refine (alive_any _).mono ?_; rintro e v1 ⟨rfl, b1⟩)
    go_ret
    exact ⟨rfl, b1⟩
  have d3 : decide (v < 2) = false := decide_eq_false h3
  by_cases h4 : more < 0
  · have d4 : decide (more < 0) = true := decide_eq_true h4
    clear r0 hyes
    go_enter Try.func6, Try.ntmps6
    go_wp2_with (go_at_call 13; refine (alive_any _).mono ?_; rintro e v1 ⟨rfl, b1⟩)
    go_ret
    exact ⟨rfl, b1⟩
  have d4 : decide (more < 0) = false := decide_eq_false h4
  by_cases h5 : 1099511627776 < more
  · have d5 : decide (1099511627776 < more) = true := decide_eq_true h5
    clear r0 hyes
    go_enter Try.func6, Try.ntmps6
    go_wp2_with (go_at_call 13; refine (alive_any _).mono ?_; rintro e v1 ⟨rfl, b1⟩)
    go_ret
    exact ⟨rfl, b1⟩
  have d5 : decide (1099511627776 < more) = false := decide_eq_false h5
  by_cases h6 : cright ps
  · have J1 : Hid (decide (cright ps) = true) := decide_eq_true h6
    obtain ⟨b0, o0, rfl, -⟩ := r0.at (by rw [l0.out]; omega)
    obtain ⟨⟨x, y⟩, hxy⟩ : ∃ p, ps.getD m (0, 0) = p := ⟨_, rfl⟩
    have hpo : Hid (∀ w', PRow w' (some ⟨b0, o0, none⟩) ps → w'.cell? ⟨b0, o0 + m * 2, none⟩ = some (.int .i64 x) ∧ w'.cell? ⟨b0, o0 + m * 2 + 1, none⟩ = some (.int .i64 y)) := fun w' h => by
      have := h.one l0.out hmn
      rw [hxy] at this; exact this
    have hy : -1099511627776 ≤ y ∧ y ≤ 1099511627776 := by
      have := (h6 m (by rw [l0.out]; exact hmn)).2
      rw [hxy] at this; exact this
    by_cases h7 : 1099511627776 < y + more
    · have d7 : decide (1099511627776 < y + more) = true := decide_eq_true h7
      clear hyes h6 hxy
      go_enter Try.func6, Try.ntmps6
      go_wp2_with (first
        | (go_at_call 13; refine (alive_any _).mono ?_; rintro e v1 ⟨rfl, b1⟩; replace r0 := r0.kept b1)
        | (go_at_call 8; refine (right_n _ _ n ps _ r0 l0.out (by omega) true J1.out).mono ?_; rintro e v2 ⟨rfl, b2⟩; replace r0 := r0.kept b2; replace b1 := bthen b1 b2; clear b2; obtain ⟨cx, cy⟩ := hpo.out _ r0; clear hpo))
      go_ret
      exact ⟨rfl, b1⟩
    · have d7 : decide (1099511627776 < y + more) = false := decide_eq_false h7
      obtain ⟨_, A, B, hA, hB, lA, lB, hAB, f1, f2, f3, f4⟩ := hyes.out m x y hm.out (by omega) (by omega) (by omega) (by omega) h6 hxy (by omega)
      have hput : Hid (∀ g w', PCells w' g ps → (w'.cell? ⟨g, m * 2 + 1, none⟩ = some (.int .i64 y) ∧ w'.frozen? ⟨g, m * 2 + 1, none⟩ = false) ∧ PRow (w'.setCell ⟨g, m * 2 + 1, none⟩ (.int .i64 (y + more))) (some ⟨g, 0, none⟩) (ps.set m (x, y + more))) := fun g w' h => by
        have hml : m < ps.length := by rw [l0.out]; exact hmn
        have c2 := (h.c m hml).2
        rw [hxy] at c2
        have := h.put hml (y + more)
        rw [hxy] at this
        exact ⟨⟨c2, h.fz _ (by omega)⟩, this⟩
      have lq : Hid ((ps.set m (x, y + more)).length = n) := by show _ = _; rw [List.length_set]; exact l0.out
      replace hA : Hid (waits ps u v = A) := hA
      replace hB : Hid (waits (ps.set m (x, y + more)) u v = B) := hB
      replace lA : Hid (A.length = n) := lA
      replace lB : Hid (B.length = n) := lB
      generalize ps.set m (x, y + more) = qs at *
      clear hyes h6 hxy
      have T1 := tok
      have T2 := tok
      have T3 := tok
      have T4 := tok
      have T5 := tok
      go_enter Try.func6, Try.ntmps6
      go_wp2_with (first
        | (clear T1; go_at_call 13; refine (alive_any _).mono ?_; rintro e v1 ⟨rfl, b1⟩; replace r0 := r0.kept b1)
        | (clear T2; go_at_call 8; refine (right_n _ _ n ps _ r0 l0.out (by omega) true J1.out).mono ?_; rintro e v2 ⟨rfl, b2⟩; replace r0 := r0.kept b2; replace b1 := bthen b1 b2; clear b2; obtain ⟨cx, cy⟩ := hpo.out _ r0; clear hpo)
        | (clear T3; go_at_call 11; refine (waits_n _ _ n ps u v A n _ r0 l0.out (by omega) hu hv hA.out lA.out).mono ?_; rintro e v3 ⟨a3, d3', rfl, hd3, p, b3⟩; replace r0 := r0.kept b3; replace b1 := bthen b1 b3; clear b3 cx cy)
        | (clear T4; go_at_call 15; refine (clone_n _ _ n ps _ r0 l0.out (by omega) (by omega)).mono ?_; rintro e v4 ⟨g, c4, rfl, hc4, hg, pc, b4⟩; obtain ⟨⟨cz, cf⟩, s⟩ := hput.out g v4 pc; replace b4 := b4.setCell (p := ⟨g, m * 2 + 1, none⟩) hg (.int .i64 (y + more)); replace p := p.kept b4; replace b1 := bthen b1 b4; clear b4 pc hput r0)
        | (clear T5; go_at_call 11; refine (waits_n _ _ n qs u v B n _ s lq.out (by omega) hu hv hB.out lB.out).mono ?_; rintro e v5 ⟨a5, d5', rfl, hd5, t, b5⟩; replace p := p.kept b5; replace b1 := bthen b1 b5; clear b5 s cz cf))
      obtain ⟨g1, o1, rfl, k1⟩ := p.at (by rw [lA.out]; omega)
      obtain ⟨g2, o2, rfl, k2⟩ := t.at (by rw [lB.out]; omega)
      have cA := k1 m (by rw [lA.out]; exact hmn)
      have cB := k2 m (by rw [lB.out]; exact hmn)
      have heq : Hid (∀ c1 c2 q, Calls Try.prog 9 #[.slice (some ⟨g1, o1, none⟩) m c1, .slice (some ⟨g2, o2, none⟩) m c2] (v5.drewN q) fun e w' => e = .returned (.bool true) ∧ ∃ z, w' = (v5.drewN q).drewN z) := fun c1 c2 q =>
        equal_q _ _ c1 c2 m m (A.take m) (B.take m) (v5.drewN q) ((p.take m (by rw [lA.out]; omega)).drewN q) ((t.take m (by rw [lB.out]; omega)).drewN q) (by rw [List.length_take, lA.out]; omega) (by rw [List.length_take, lB.out]; omega) (by omega) (by omega) true (decide_eq_true hAB)
      generalize A.getD m 0 = α at *
      generalize B.getD m 0 = β at *
      have e1 : ((n : Int) == (n : Int)) = true := by simp
      have e2 : decide (α ≤ β) = true := decide_eq_true f2
      have e3 : decide (β ≤ α + more) = true := decide_eq_true f3
      clear k1 k2 p t hAB lA lB hA hB
      go_quiet ((go_at_call 9; refine Calls.quiet_of (heq.out _ _ _)))
      go_wp2
      by_cases h8 : α = 0
      · have e4 : (α == 0) = true := by simpa using h8
        clear h8 f4
        go_quiet (fail)
        go_wp2
        go_ret
        exact ⟨rfl, by first | exact below_drewN (below_drewN b1 _) _ | exact below_drewN b1 _⟩
      · have e4 : (α == 0) = false := by simpa using h8
        obtain rfl : β = α + more := by
          rcases f4 with h | h
          · exact absurd h h8
          · exact h
        go_quiet (fail)
        go_wp2
        go_ret
        exact ⟨rfl, by first | exact below_drewN (below_drewN b1 _) _ | exact below_drewN b1 _⟩
  · have J1 : Hid (decide (cright ps) = false) := decide_eq_false h6
    clear hyes h6
    go_enter Try.func6, Try.ntmps6
    go_wp2_with (first
      | (go_at_call 13; refine (alive_any _).mono ?_; rintro e v1 ⟨rfl, b1⟩; replace r0 := r0.kept b1)
      | (go_at_call 8; refine (right_n _ _ n ps _ r0 l0.out (by omega) false J1.out).mono ?_; rintro e v2 ⟨rfl, b2⟩; replace b1 := bthen b1 b2; clear b2))
    go_ret
    exact ⟨rfl, b1⟩

theorem clockMore_walk (a0 : Option Addr) (cap0 : Nat) (z0 : Rs) (a1 a2 a3 : Int) (w : World) (h0 : FarP w a0 cap0 z0) (w1 : -9223372036854775808 ≤ a1 ∧ a1 ≤ 9223372036854775807) (w2 : -9223372036854775808 ≤ a2 ∧ a2 ≤ 9223372036854775807) (_ : -9223372036854775808 ≤ a3 ∧ a3 ≤ 9223372036854775807) :
    Calls Try.prog 6 #[.slice a0 z0.length cap0, .int .i64 a1, .int .i64 a2, .int .i64 a3] w fun e w' => e = .returned (.bool true) ∧ Below w.heap.size w w' := by
  refine more_any a0 cap0 z0.length z0 a1 a2 a3 w h0.1 rfl h0.2.1 w1.2 w2.2 fun m x y hm hu hv h1 h2 hr hxy h3 => ?_
  have hmy := hr m (by omega)
  rw [hxy] at hmy
  unfold okp at hmy
  simp only at hmy
  have gs : ∀ j, j ≠ m → (z0.set m (x, y + a3)).getD j (0, 0) = z0.getD j (0, 0) := fun j hj => by
    rw [List.getD_eq_getElem?_getD, List.getElem?_set_ne (fun q => hj q.symm), ← List.getD_eq_getElem?_getD]
  have gm : (z0.set m (x, y + a3)).getD m (0, 0) = (x, y + a3) := by
    rw [List.getD_eq_getElem?_getD, List.getElem?_set_self (by omega)]; rfl
  have hl : (z0.set m (x, y + a3)).length = m + 1 := by rw [List.length_set]; exact hm
  have hq : cright (z0.set m (x, y + a3)) := fun j hj => by
    by_cases e : j = m
    · subst e; rw [gm]; unfold okp; simp only; omega
    · rw [gs j e]; exact hr j (by rw [List.length_set] at hj; exact hj)
  have hw := waits_more (u := a1) (v := a2) hu (by omega) h1 hr hq hm hl (fun j hj => by unfold wy; rw [gs j (by omega)]) (by unfold wy; rw [gm, hxy]; simp only; omega)
  have la := waits_full hr hu (show 1 ≤ a2 by omega)
  have hb := wait_lo (ps := z0) (u := a1) (v := a2) m (by omega)
  refine ⟨by omega, _, _, rfl, rfl, la, ?_, hw.1, ⟨hb.2.1, ?_⟩, hw.2.1, hw.2.2.1, hw.2.2.2⟩
  · rw [waits_full hq hu (by omega), hl, hm]
  · rw [waits_at hr hu (by omega) m (by omega)]
    have b1 := wy_in hr m (by omega)
    have b2 := bs_in (f := fun j => (ways z0).getD j 0) hu (show 1 ≤ a2 by omega) (k := m) (a := -2199023255552) (b := 2199023255552) fun j hj => ways_in z0 j (by rw [ways_len hr]; omega)
    omega

end Go.Proofs.Ytngmjmehkehbeaa
namespace Go.Proofs.Ytngmjmehkehbeaa.clockMore
open Go.ChangeShapes Go.WideShapes Go.ChangeAt Go.RowKit
set_option linter.unusedVariables false

set_option maxRecDepth 100000 in
theorem lifted (os : Os) (started : os.Started) (H : Type) (enc : TypeId × Value → H) :
    ReturnsInHanded {} Try.checked os 6 .any (Rows.clockMoreSpec.pre6 enc Try.prog Try.f6 Rows.clockMoreRow.domain false) (Rows.clockMoreSpec.post enc Try.prog Try.f6 false true false false) := by
  refine returnsInHanded_of_change_sized (C := Try.checked) own started (by kernel_rfl) Try.func6
    (ChangeSpec.witness6 (enc := enc) (C := Try.checked) false ⟨#[], #[.slice none 0 0, .int .i64 0, .int .i64 0, .int .i64 0], []⟩ 8 (by kernel_rfl) (by kernel_rfl) (by kernel_rfl) (by kernel_rfl)) ?_
  intro W base args ds gs before hval0 hW _ hsz0 _
  have hsz : (DataW.weightsEach Try.prog (Try.f6.params.toList ++ Rows.clockMoreSpec.plain.varTypes Try.prog) (ds ++ gs)).all (· ≤ reachBytes) = true := hsz0
  have hval : ∀ (j : Nat) t v, Try.f6.params[j]? = some t → args[j]? = some v → Value.okWide Try.prog W .any base t v := hval0
  have hW' := hW
  obtain ⟨p, q, hA0, hV, rfl, hfz, hnd⟩ := hW
  have hA : DataW.TrodAll enc Try.prog W 0 (fun _ => true) true Try.f6.params.toList args.toList ds p := hA0
  rw [Try.params6] at hA hval hsz
  obtain ⟨v0, vs0, d0, ds0, p0, q0, hargs, rfl, rfl, h0, r0⟩ := trodAll_cons hA
  obtain ⟨v1, vs1, d1, ds1, p1, q1, rfl, rfl, rfl, h1, r1⟩ := trodAll_cons r0
  obtain ⟨v2, vs2, d2, ds2, p2, q2, rfl, rfl, rfl, h2, r2⟩ := trodAll_cons r1
  obtain ⟨v3, vs3, d3, ds3, p3, q3, rfl, rfl, rfl, h3, r3⟩ := trodAll_cons r2
  obtain ⟨rfl, rfl, rfl⟩ := trodAll_nil r3
  obtain rfl : args = #[v0, v1, v2, v3] := by cases args; simp_all
  obtain ⟨rfl, rfl⟩ := trodVars_none hV
  obtain ⟨a0, len0, cap0, rfl⟩ := okWide_slice Try.underlying22 (hval 0 22 v0 rfl rfl)
  have k0 := h0
  have lt0 : ∀ x ∈ p0, x.block < W.heap.size := by obtain ⟨m, hm⟩ := k0; exact DataW.trod_lt m _ _ _ hm
  obtain ⟨z0, rfl, w0⟩ := farP h0 (fun elems spare e => by
    subst e
    have := sized_slice hsz (j := 0) (t := 22) (e := 31) rfl rfl Try.underlying22
    rw [Try.bytes31] at this
    exact this)
  obtain ⟨a1, rfl, rfl, rfl, w1⟩ := open_int Try.underlying3 (hval 1 3 v1 rfl rfl) h1
  obtain ⟨a2, rfl, rfl, rfl, w2⟩ := open_int Try.underlying3 (hval 2 3 v2 rfl rfl) h2
  obtain ⟨a3, rfl, rfl, rfl, w3⟩ := open_int Try.underlying3 (hval 3 3 v3 rfl rfl) h3
  clear hA0 hval0 hsz0 hsz
  refine (clockMore_walk a0 cap0 z0 a1 a2 a3 W w0 (fits w1) (fits w2) (fits w3)).mono fun e W' ⟨he, bel⟩ => ?_
  subst he
  exact ⟨_, rfl, _, _, _, [], _, [], hW', trodAll_mk1 (shut_bool Try.underlying4 _), (trodAll_cons_mk (Below.trod laidOut (by kernel_rfl) (of_decide_eq_true (by kernel_rfl)) k0 bel lt0) (trodAll_cons_mk (shut_int Try.underlying3 w1) (trodAll_cons_mk (shut_int Try.underlying3 w2) (trodAll_cons_mk (shut_int Try.underlying3 w3) trodAll_mk0)))), rfl, bel.frame _, fun h => by cases h⟩

theorem proved : Rows.ClockMoreSaid :=
  OpenClaim.holds_of_wide 6 Try.f6 rfl rfl rfl rfl rfl rfl rfl ⟨rfl, rfl, rfl, rfl, rfl⟩ rfl rfl rfl rfl rfl (by kernel_rfl) Try.func6 (by kernel_rfl)
    (of_decide_eq_true (by kernel_rfl)) (by unfold Func.isWrapper; first | (rw [if_pos (by decide +kernel)]; kernel_rfl) | (rw [if_neg (by decide +kernel)]; exact ⟨rfl, rfl⟩))
    (fun os started H enc _ => lifted os started H enc)

end Go.Proofs.Ytngmjmehkehbeaa.clockMore
namespace Go.Proofs.Ytngmjmehkehbeaa
theorem clockMore_holds : Rows.ClockMoreSaid := clockMore.proved
#print axioms clockMore_holds
end Go.Proofs.Ytngmjmehkehbeaa
