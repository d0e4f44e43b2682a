/- PROVED: the walk of the law TopClock. what is known of rules, states, pairs and rows of pairs and numbers that came in. how long slices are where all arguments together are of so small a bulk; a slice of integers that came in. what is known of a slice of integers that came in, of whatever size. CONDITIONS: none beyond each theorem's own. -/
import Derived.Test.YtjageagnclmnjabGreatDoorC50Clm
import Derived.Test.YtjageagnclmnjabGreatDoorB07Fam
import Derived.ProofKit
import Derived.OpenShut
import Derived.ShutString
import Derived.ChangeOld
import Derived.Below
import Derived.SizedLaws
import Derived.ChangeSame
import Derived.Lib.SmallJoins
import Derived.Test.YtjageagnclmnjabGreatDoorRows
import Derived.Test.YtjageagnclmnjabGreatDoorB00Pw
import Derived.Test.YtjageagnclmnjabGreatDoorC48JLate
section
namespace Go.Proofs.YtjageagnclmnjabGreatDoor.Y
set_option maxRecDepth 100000
open Go.RowKit
set_option linter.unusedVariables false

theorem take_snoc (l : Rs) (k : Nat) (h : k < l.length) : l.take (k + 1) = l.take k ++ [l.getD k (0, 0)] := by
  rw [List.take_add_one, List.getD_eq_getElem?_getD, List.getElem?_eq_getElem h]; rfl
set_option maxHeartbeats 12800000 in
theorem clock_ok (a1 a2 : Option Addr) (c1 c2 n r : Nat) (t l P X W Bs : List Int) (M : Rs) (u v off Mx Ma Mi : Int) (w : World) (L : D.Lw w) (h1 : Row w a1 t) (h2 : Row w a2 l) (e1 : Hid (t.length = n)) (e2 : Hid (l.length = n)) (b1 : n ≤ 1048576) (hu : u ≤ 9223372036854775807) (hv : v ≤ 9223372036854775807)
    (eP : Hid (J.pass t l = P)) (lP : Hid (P.length = n)) (hb : Hid (decide (J.jright t l) = true)) (t1 : decide (274877906944 < off) = false) (t2 : decide (off < -274877906944) = false) (hM : Hid (Lib.maxOf ((P ++ [0]).take (n + 1)) = Mx)) (t3 : decide (549755813888 < Mx) = false)
    (hPk : Hid (∀ k, k < n → M.getD k (0, 0) = (t.getD k 0, P.getD k 0 + off))) (hPo : Hid (∀ k, k < n → -9223372036854775808 ≤ P.getD k 0 + off ∧ P.getD k 0 + off ≤ 9223372036854775807)) (lM : Hid (M.length = n))
    (eW : Hid (waits M u v = W)) (lW : Hid (W.length = r)) (eX : Hid (J.dl t P = X)) (lX : Hid (X.length = n)) (eB : Hid (base X u v = Bs)) (lB : Hid (Bs.length = r)) (hr : r ≤ n)
    (hMa : Hid (Lib.maxOf (l.take n) = Ma)) (hMi : Hid (Lib.minOf (l.take n) = Mi))
    (hall : Hid (∀ k, k < r → W.getD k 0 = X.getD k 0 - Bs.getD k 0 ∧ W.getD k 0 ≤ Ma - Mi ∧ (-9223372036854775808 ≤ X.getD k 0 - Bs.getD k 0 ∧ X.getD k 0 - Bs.getD k 0 ≤ 9223372036854775807) ∧ -9223372036854775808 ≤ Ma - Mi ∧ Ma - Mi ≤ 9223372036854775807))
    (hend : (r : Int) = n ∨ decide ((r : Int) = n) = false ∧ decide (u < 1) = true ∨ decide ((r : Int) = n) = false ∧ decide (u < 1) = false ∧ decide (v < 1) = true) :
    Calls Tryz.prog 5 #[.slice a1 n c1, .slice a2 n c2, .int .i64 u, .int .i64 v, .int .i64 off] w fun e w' => e = .returned (.bool true) ∧ Below w.heap.size w w' := by
  obtain ⟨i0, hi, hz0, hz1, hz2⟩ := info_parts Tryz.info3
  obtain ⟨i1, hi1, hy0, hy1, hy2⟩ := info_parts Tryz.info31
  have hsn := map_snoc P 0
  have hPl : (P ++ [0]).length = n + 1 := by simp [lP.out]
  replace hsn : Hid _ := hsn
  replace hPl : Hid _ := hPl
  go_enter Tryz.func5, Tryz.ntmps5
  go_wp2_with (first
      | (go_at_call 7; refine (D.alive_top _ L).mono ?_; clear L; rintro e v0 ⟨rfl, B⟩; replace h1 := h1.kept B; replace h2 := h2.kept B)
      | (go_at_call 17; refine (pass_r a1 a2 _ _ n n t l P n _ h1 h2 e1.out e2.out (by omega) (by omega) eP.out lP.out).mono ?_; rintro e v1 ⟨ao, cp, rfl, h4, b9⟩; replace h1 := h1.kept b9; replace h2 := h2.kept b9; replace B := bthen B b9; clear b9)
      | (go_at_call 18; refine (jright_r a1 a2 _ _ n n t l _ h1 h2 e1.out e2.out (by omega) (by omega) _ hb.out).mono ?_; rintro e v3 ⟨rfl, b9⟩; replace h1 := h1.kept b9; replace h2 := h2.kept b9; replace h4 := h4.kept b9; replace B := bthen B b9; clear b9)
      | (go_at_call 20; refine (clone_own ao _ n P _ h4 lP.out (by omega)).mono ?_; rintro e v4 ⟨x, rfl, ho, b9⟩; have hs4 := b9.size; have B4 := b9; clear b9)
      | (at_builtin; refine wpList_ran (by rfl) fun K hK => ?_; refine wp_append_own _ _ _ 24 rfl v3.heap.size 3 i0 (.int .i64 0) 1 8 Tryz.underlying24 hi hz0 hz1 hz2 rfl (by decide) _ _ _ rfl (ho.alloc _) ⟨v4.heap.size, 0, none⟩ 1 1 [.int .i64 0] rfl rfl (cell_one_new _ _ _) (by simp [Value.oneCell']) (by unfold maxLen; omega) (by omega) (by simp; omega) ?_; intro t' w2 ho2 hg _; rw [hsn.out] at ho2; obtain ⟨ar, cr, rfl, hr0⟩ := own_row ho2 hPl.out; have B3 := (B4.alloc hs4 (.cells #[.int .i64 0] 3)).grown hg (by simp; omega) (fun q hq => (ho.lt q hq).1); replace h1 := h1.kept B3; replace h2 := h2.kept B3; replace h4 := h4.kept B3; replace B := bthen B B3; clear B3 B4 ho hg ho2; refine hK _ _ ?_; clear hK)
      | (go_at_call 19; refine (max_r ar _ (n + 1) (P ++ [0]) _ hr0 hPl.out (by omega) (by omega) Mx hM.out).mono ?_; rintro e w'' ⟨rfl, hw9⟩; obtain rfl : w2 = w'' := hw9.symm; clear hw9 hr0))
  clear hs4 hsn hPl hM eP hb t1 t2 t3
  have hst : PGath w2 (.slice none 0 0) w2 (M.take 0) := PGath.start w2
  go_loopw [12, 46] (fun s i wr => ∃ k : Nat, k ≤ n ∧ i = .int .i64 k ∧ PGath w2 s wr (M.take k)) (fun _ i _ => n - (intOf i).toNat)
  case atStart => exact ⟨0, Nat.zero_le _, rfl, hst⟩
  case round =>
    obtain ⟨k, hk, rfl, hG⟩ := hrel
    clear hst
    by_cases hlt : k < n
    · obtain ⟨g, o, rfl, k1⟩ := (h1.kept hG.below).at (by rw [e1.out]; omega)
      have cx := k1 k (by rw [e1.out]; exact hlt)
      obtain ⟨g2, o2, rfl, k2⟩ := (h4.kept hG.below).at (by rw [lP.out]; omega)
      have cy := k2 k (by rw [lP.out]; exact hlt)
      have hm := hPk.out k hlt
      have hX := hPo.out k hlt
      generalize t.getD k 0 = x at cx hm
      generalize P.getD k 0 = y at cy hm hX
      have htk : Hid (M.take (k + 1) = M.take k ++ [(x, y + off)]) := by rw [← hm]; exact take_snoc M k (by rw [lM.out]; exact hlt)
      have hWv : wrap64 (y + off) = y + off := IntWalk.wrap64_in _ hX
      have hWw : IntKind.i64.wrap (y + off) = y + off := by rw [wrapEq]; exact hWv
      have hltI : (k : Int) < n := by omega
      have hsz := hG.below.size
      have ho1 := hG.own
      have hRl : (M.take k).length = k := by rw [List.length_take, lM.out]; omega
      have hcn := cell_two_new wr x (y + off)
      replace hcn : Hid _ := hcn
      clear k1 k2 hm hPk hPo hX h1 h2 h4 hall hend eW lW eX lX eB lB
      go_wp2_with (at_builtin; refine wpList_append_own _ rfl _ _ 38 rfl w2.heap.size 40 i1 (.agg #[.int .i64 0, .int .i64 0]) 2 16 Tryz.underlying38 hi1 hy0 hy1 hy2 rfl (by decide) _ _ _ rfl (ho1.alloc _) ⟨wr.heap.size, 0, none⟩ 1 1 [.int .i64 x, .int .i64 (y + off)] rfl rfl hcn.out (by simp [Value.oneCell']) (by unfold maxLen; omega) (by omega) (by simp; omega) ?_; intro t' w5 hown' hgrow _; have hS := hG.next (Below.refl _ _) hown' hgrow; rw [← htk.out] at hS; clear hown' hgrow ho1 hcn)
      go_roundw
      case rel => exact ⟨k + 1, by omega, by go_num, hS⟩
      case measure => simp [intOf]; omega
    · obtain rfl : n = k := by omega
      have hfull : M.take n = M := List.take_of_length_le (by rw [lM.out]; exact Nat.le_refl _)
      rw [hfull] at hG
      obtain ⟨am, cm, es, hm⟩ := hG.done
      rw [lM.out] at es
      subst es
      replace h1 := h1.kept hG.below
      replace h2 := h2.kept hG.below
      replace h4 := h4.kept hG.below
      replace B := bthen B hG.below
      clear hG hfull hPk hPo hlt hk
      go_wp2_with (first
        | (go_at_call 21; refine (waits_r am _ n M u v W r _ hm lM.out (by omega) hu hv eW.out lW.out).mono ?_; rintro e v5 ⟨aw, cw, rfl, h5, b9⟩; replace h1 := h1.kept b9; replace h2 := h2.kept b9; replace h4 := h4.kept b9; replace B := bthen B b9; clear b9 hm)
        | (go_at_call 22; refine (delays_r a1 ao _ _ n n t P X n _ h1 h4 e1.out lP.out (by omega) (by omega) eX.out lX.out).mono ?_; rintro e v6 ⟨ax, cx, rfl, h6, b9⟩; replace h2 := h2.kept b9; replace h5 := h5.kept b9; replace B := bthen B b9; clear b9 h1 h4)
        | (go_at_call 23; refine (base_r ax _ n X u v Bs r _ h6 lX.out (by omega) hu hv eB.out lB.out).mono ?_; rintro e v7 ⟨ab, cb, rfl, h7, b9⟩; replace h2 := h2.kept b9; replace h5 := h5.kept b9; replace h6 := h6.kept b9; replace B := bthen B b9; clear b9))
      go_loopw [75] (fun i wr => ∃ j : Nat, j ≤ r ∧ i = .int .i64 j ∧ Below v7.heap.size v7 wr) (fun i _ => r - (intOf i).toNat)
      case atStart => exact ⟨0, Nat.zero_le _, rfl, Below.refl _ _⟩
      case round =>
        obtain ⟨j, hj, rfl, hw⟩ := hrel
        by_cases hlt : j < r
        · replace h2 := h2.kept hw
          obtain ⟨g5, o5, rfl, k5⟩ := (h5.kept hw).at (by rw [lW.out]; omega)
          have d5 := k5 j (by rw [lW.out]; exact hlt)
          obtain ⟨g6, o6, rfl, k6⟩ := (h6.kept hw).at (by rw [lX.out]; omega)
          have d6 := k6 j (by rw [lX.out]; omega)
          obtain ⟨g7, o7, rfl, k7⟩ := (h7.kept hw).at (by rw [lB.out]; omega)
          have d7 := k7 j (by rw [lB.out]; exact hlt)
          obtain ⟨q1, q2, q3, q4⟩ := hall.out j hlt
          rw [q1] at d5 q2
          generalize X.getD j 0 = x at d5 d6 q2 q3
          generalize Bs.getD j 0 = y at d5 d7 q2 q3
          have hWv : wrap64 (x - y) = x - y := IntWalk.wrap64_in _ q3
          have hWw : IntKind.i64.wrap (x - y) = x - y := by rw [wrapEq]; exact hWv
          have hVv : wrap64 (Ma - Mi) = Ma - Mi := IntWalk.wrap64_in _ q4
          have hVw : IntKind.i64.wrap (Ma - Mi) = Ma - Mi := by rw [wrapEq]; exact hVv
          have t5 : decide (Ma - Mi < x - y) = false := decide_eq_false (by omega)
          have hjI : (j : Int) < r := by omega
          have hjn : (j : Int) < n := by omega
          have hmax : Hid (∀ c q, Calls Tryz.prog 19 #[.slice a2 n c] (wr.drewN q) fun e w' => e = .returned (.int .i64 Ma) ∧ w' = wr.drewN q) := fun c q => max_r a2 c n l _ (h2.drewN q) e2.out (by omega) (by omega) Ma hMa.out
          have hmin : Hid (∀ c q, Calls Tryz.prog 24 #[.slice a2 n c] (wr.drewN q) fun e w' => e = .returned (.int .i64 Mi) ∧ w' = wr.drewN q) := fun c q => min_r a2 c n l _ (h2.drewN q) e2.out (by omega) (by omega) Mi hMi.out
          obtain ⟨z, hz⟩ : ∃ z, x - y = z := ⟨_, rfl⟩
          obtain ⟨s, hs⟩ : ∃ s, Ma - Mi = s := ⟨_, rfl⟩
          replace hWv := hWv.trans hz
          replace hWw := hWw.trans hz
          replace hVv := hVv.trans hs
          replace hVw := hVw.trans hs
          rw [hz] at d5 t5
          rw [hs] at t5
          have tq : (z != IntKind.i64.wrap (x - y)) = false := by rw [hWw]; simp
          have tp : decide (IntKind.i64.wrap (Ma - Mi) < z) = false := by rw [hVw]; exact t5
          replace hz : Hid _ := hz
          replace hs : Hid _ := hs
          clear k5 k6 k7 h2 h5 h6 h7 q1 q2 q3 q4 hall hend
          go_wp2
          go_quiet (first | (go_at_call 19; refine (hmax.out _ _).mono ?_; rintro e w'' ⟨rfl, rfl⟩; exact ⟨rfl, _, rfl⟩) | (go_at_call 24; refine (hmin.out _ _).mono ?_; rintro e w'' ⟨rfl, rfl⟩; exact ⟨rfl, _, rfl⟩))
          go_wp2
          go_roundw
          case rel => exact ⟨j + 1, by omega, by go_num, below_drewN hw _⟩
          case measure => simp [intOf]; omega
        · obtain rfl : r = j := by omega
          replace B := bthen B hw
          clear h2 h5 h6 h7 hall hlt hw
          rcases hend with he | ⟨t6, t7⟩ | ⟨t6, t7, t8⟩
          · have t6 : decide ((r : Int) = n) = true := decide_eq_true he
            go_wp2
            go_ret
            exact ⟨rfl, B⟩
          · go_wp2
            all_goals
              go_ret
              exact ⟨rfl, B⟩
          · go_wp2
            all_goals
              go_ret
              exact ⟨rfl, B⟩

theorem hways_wy {M : Rs} (h : cright M) {k : Nat} (hk : k < M.length) : (ways M).getD k 0 = wy M k := by rw [ways_yes h, outs_getD _ _ _ hk]
theorem maxOf_in (zs : List Int) (k : Nat) (h0 : 0 < k) (hk : k ≤ zs.length) (h : ∀ j, j < k → 0 ≤ zs.getD j 0 ∧ zs.getD j 0 ≤ 1099511627776) : 0 ≤ Lib.maxOf (zs.take k) ∧ Lib.maxOf (zs.take k) ≤ 1099511627776 := by
  induction k with
  | zero => omega
  | succ k ih =>
    by_cases e : k = 0
    · subst e
      rw [Lib.maxOf_one]
      exact h 0 (by omega)
    · rw [Lib.maxOf_step zs k (by omega) (by omega)]
      have := ih (by omega) (by omega) fun j hj => h j (by omega)
      have := h k (by omega)
      omega
theorem minOf_in (zs : List Int) (k : Nat) (h0 : 0 < k) (hk : k ≤ zs.length) (h : ∀ j, j < k → 0 ≤ zs.getD j 0 ∧ zs.getD j 0 ≤ 1099511627776) : 0 ≤ Lib.minOf (zs.take k) ∧ Lib.minOf (zs.take k) ≤ 1099511627776 := by
  induction k with
  | zero => omega
  | succ k ih =>
    by_cases e : k = 0
    · subst e
      rw [Lib.minOf_one]
      exact h 0 (by omega)
    · rw [Lib.minOf_step zs k (by omega) (by omega)]
      have := ih (by omega) (by omega) fun j hj => h j (by omega)
      have := h k (by omega)
      omega
theorem wy_is {t l P : List Int} {M : Rs} {off : Int} {n : Nat} (lM : M.length = n) (hPk : ∀ k, k < n → M.getD k (0, 0) = (t.getD k 0, P.getD k 0 + off)) (k : Nat) (hk : k < n) : wy M k = P.getD k 0 - t.getD k 0 + off := by
  unfold wy
  rw [hPk k hk]
  simp only
  omega
theorem topClock_go (a1 a2 : Option Addr) (c1 c2 : Nat) (t l : List Int) (u v off : Int) (w : World) (L : D.Lw w) (h1 : Row w a1 t) (h2 : Row w a2 l) (b1 : t.length ≤ 1048576) (b2 : l.length ≤ 1048576) (hu : u ≤ 9223372036854775807) (hv : v ≤ 9223372036854775807) :
    Calls Tryz.prog 5 #[.slice a1 t.length c1, .slice a2 l.length c2, .int .i64 u, .int .i64 v, .int .i64 off] w fun e w' => e = .returned (.bool true) ∧ Below w.heap.size w w' := by
  by_cases j1 : J.jright t l
  · have J1 : decide (J.jright t l) = true := decide_eq_true j1
    by_cases d1 : 274877906944 < off
    · exact clock_bad a1 a2 c1 c2 _ _ _ t l _ u v off w L h1 h2 rfl rfl (by omega) (by omega) rfl rfl true J1 (.inr (.inl ⟨rfl, decide_eq_true d1⟩))
    by_cases d2 : off < -274877906944
    · exact clock_bad a1 a2 c1 c2 _ _ _ t l _ u v off w L h1 h2 rfl rfl (by omega) (by omega) rfl rfl true J1 (.inr (.inr ⟨rfl, decide_eq_false d1, decide_eq_true d2⟩))
    have lP : (J.pass t l).length = t.length := J.pass_len j1
    by_cases d3 : 549755813888 < Lib.maxOf ((J.pass t l ++ [0]).take (t.length + 1))
    · exact clock_big a1 a2 c1 c2 _ _ t l _ u v off _ w L h1 h2 rfl rfl b1 b2 rfl lP J1 (decide_eq_false d1) (decide_eq_false d2) rfl (decide_eq_true d3)
    have el : l.length = t.length := j1.1.symm
    rw [el]
    have hat : ∀ k, k < t.length → (J.pass t l).getD k 0 = J.passed t l k := fun k hk => J.pass_at j1 k hk
    have hPm : ∀ k, k < t.length → 0 ≤ (J.pass t l).getD k 0 ∧ (J.pass t l).getD k 0 ≤ 549755813888 := fun k hk => by
      have hx := maxOf_is (J.pass t l ++ [0]) (t.length + 1) (by omega) (by simp [lP]) k (by omega)
      rw [List.getD_eq_getElem?_getD, List.getElem?_append_left (by omega), ← List.getD_eq_getElem?_getD] at hx
      have := (J.passed_in j1 k hk).1
      rw [← hat k hk] at this
      omega
    have hT : ∀ k, k < t.length → 0 ≤ t.getD k 0 ∧ t.getD k 0 ≤ 1099511627776 := fun k hk => j1.2.2.1 k hk
    have hl : ∀ k, k < l.length → 0 ≤ l.getD k 0 ∧ l.getD k 0 ≤ 1099511627776 := fun k hk => j1.2.2.2 k hk
    obtain ⟨M, lM, hPk⟩ : ∃ M : Rs, M.length = t.length ∧ ∀ k, k < t.length → M.getD k (0, 0) = (t.getD k 0, (J.pass t l).getD k 0 + off) :=
      ⟨(List.range t.length).map fun k => (t.getD k 0, (J.pass t l).getD k 0 + off), by simp, fun k hk => by simp [List.getD_eq_getElem?_getD, hk]⟩
    have hcr : cright M := fun k hk => by
      rw [lM] at hk
      rw [hPk k hk]
      have := hPm k hk; have := hT k hk
      unfold okp
      simp only
      omega
    have lX : (J.dl t (J.pass t l)).length = t.length := by rw [J.dl_len, lP]; omega
    have hX : ∀ k, k < t.length → (J.dl t (J.pass t l)).getD k 0 = J.passed t l k - t.getD k 0 := fun k hk => J.dl_pass j1 k hk
    have hways : ∀ k, k < t.length → (ways M).getD k 0 = (J.dl t (J.pass t l)).getD k 0 + off := fun k hk => by
      rw [ways_yes hcr, outs_getD _ _ _ (by omega), wy_is (l := l) lM hPk k hk, hX k hk, hat k hk]
    have hlate : ∀ k, k < t.length → Lib.minOf (l.take t.length) ≤ (J.dl t (J.pass t l)).getD k 0 ∧ (J.dl t (J.pass t l)).getD k 0 ≤ Lib.maxOf (l.take t.length) := fun k hk => by
      rw [hX k hk]
      have q := J.late_in j1 (M := Lib.maxOf (l.take t.length)) (fun j hj => maxOf_is l t.length (by omega) (by omega) j (by omega)) k hk
      have q2 := minOf_is l t.length (by omega) (by omega) k hk
      omega
    by_cases huv : 1 ≤ u ∧ 1 ≤ v
    · have lW : (waits M u v).length = t.length := by rw [waits_full hcr huv.1 huv.2, lM]
      have lB : (base (J.dl t (J.pass t l)) u v).length = t.length := by rw [base_yes _ huv.1 huv.2, outs_len, lX]
      refine clock_ok a1 a2 c1 c2 t.length t.length t l _ _ _ _ M u v off _ _ _ w L h1 h2 rfl el b1 hu hv rfl lP J1 (decide_eq_false d1) (decide_eq_false d2) rfl (decide_eq_false d3) hPk (fun k hk => by have := hPm k hk; omega) lM rfl lW rfl lX rfl lB (Nat.le_refl _) rfl rfl (fun k hk => ?_) (.inl rfl)
      have eb : bs (fun j => (ways M).getD j 0) u v k = bs (fun j => (J.dl t (J.pass t l)).getD j 0) u v k + off := bs_add huv.1 huv.2 fun j hj => hways j (by omega)
      have hin := bs_in (f := fun j => (J.dl t (J.pass t l)).getD j 0) huv.1 huv.2 (k := k) fun j hj => hlate j (by omega)
      have hk2 := hlate k hk
      have hx : (base (J.dl t (J.pass t l)) u v).getD k 0 = bs (fun j => (J.dl t (J.pass t l)).getD j 0) u v k := by rw [base_yes _ huv.1 huv.2, outs_getD _ _ _ (by omega)]
      have hw : (waits M u v).getD k 0 = (J.dl t (J.pass t l)).getD k 0 - (base (J.dl t (J.pass t l)) u v).getD k 0 := by
        rw [waits_at hcr huv.1 huv.2 k (by omega), eb, hx, ← hways_wy hcr (by omega), hways k hk]
        omega
      rw [hw, hx]
      have hMa := maxOf_in l t.length (by omega) (by omega) (fun j hj => hl j (by omega))
      have hMi := minOf_in l t.length (by omega) (by omega) (fun j hj => hl j (by omega))
      refine ⟨rfl, ?_, ?_, ?_⟩ <;> omega
    · have eW : waits M u v = [] := waits_no (.inr (by omega))
      have eB : base (J.dl t (J.pass t l)) u v = [] := base_no _ (by omega)
      refine clock_ok a1 a2 c1 c2 t.length 0 t l _ _ [] [] M u v off _ _ _ w L h1 h2 rfl el b1 hu hv rfl lP J1 (decide_eq_false d1) (decide_eq_false d2) rfl (decide_eq_false d3) hPk (fun k hk => by have := hPm k hk; omega) lM eW rfl rfl lX eB rfl (Nat.zero_le _) rfl rfl (fun k hk => by omega) ?_
      by_cases h0 : ((0 : Nat) : Int) = (t.length : Int)
      · exact .inl h0
      · by_cases hu1 : u < 1
        · exact .inr (.inl ⟨decide_eq_false h0, decide_eq_true hu1⟩)
        · exact .inr (.inr ⟨decide_eq_false h0, decide_eq_false hu1, decide_eq_true (by omega)⟩)
  · exact clock_bad a1 a2 c1 c2 _ _ _ t l _ u v off w L h1 h2 rfl rfl (by omega) (by omega) rfl rfl false (decide_eq_false j1) (.inl rfl)
end Go.Proofs.YtjageagnclmnjabGreatDoor.Y

end

section
namespace Go.Proofs.YtjageagnclmnjabGreatDoor.D
open Go.ChangeShapes Go.WideShapes Go.ChangeAt Go.RowKit Go.Joins Go.Deep K
set_option maxRecDepth 100000

theorem fits {n : Int} (h : (Lit.int .i64 n).wf = true) : -9223372036854775808 ≤ n ∧ n ≤ 9223372036854775807 := by
  simpa [Lit.wf, IntKind.min, IntKind.max, IntKind.signed, IntKind.bits] using h
theorem own : ownKnob Tryz.prog.godebug = none := by kernel_rfl
theorem laidOut : laidOutB Tryz.prog = true := by kernel_rfl
theorem Tryz.cells3 : Tryz.prog.cellsOf 3 = 1 := by kernel_rfl
section
variable {H : Type} {enc : TypeId × Value → H} {W : World} {fuel : Nat} {x : DataW H × List MemPlace}
theorem one_int {c : Value} (h : DataW.trod enc Tryz.prog W 0 (fun _ => true) true fuel 3 [c] = some x) : ∃ n : Int, c = .int .i64 n ∧ -9223372036854775808 ≤ n ∧ n ≤ 9223372036854775807 := by
  obtain ⟨n, e, _, w⟩ := DataW.trod_int Tryz.underlying3 h
  simp at e
  exact ⟨n, e, fits w⟩
end

end Go.Proofs.YtjageagnclmnjabGreatDoor.D

end

section
namespace Go.Proofs.YtjageagnclmnjabGreatDoor.D
set_option maxRecDepth 100000
open Go.ChangeShapes Go.WideShapes Go.ChangeAt Go.RowKit Go.Joins Go.Deep K

theorem bulk_len {H : Type} (l : List (DataW H)) : l.length ≤ Rows.uptoBulkAll l := by
  induction l with
  | nil => simp
  | cons x l ih => simp only [Rows.uptoBulkAll, List.length_cons]; have : 1 ≤ Rows.uptoBulk x := (by cases x <;> first | (simp [Rows.uptoBulk]; done) | (rename_i l; cases l <;> simp [Rows.uptoBulk])); omega
theorem bulk_slice {H : Type} (elems spare : List (DataW H)) : elems.length ≤ Rows.uptoBulk (.slice elems spare) := by
  have := bulk_len elems
  simp only [Rows.uptoBulk]
  omega
theorem bulk_in {H : Type} {ds : List (DataW H)} {i : Nat} {d : DataW H} (h : ds[i]? = some d) : Rows.uptoBulk d ≤ Rows.uptoBulkAll ds := by
  induction ds generalizing i with
  | nil => simp at h
  | cons x l ih =>
    cases i with
    | zero => obtain rfl : x = d := (by simpa using h); simp only [Rows.uptoBulkAll]; omega
    | succ i => have := ih (i := i) (by simpa using h); simp only [Rows.uptoBulkAll]; omega
theorem bulk_at {H : Type} {ds : List (DataW H)} {i : Nat} {elems spare : List (DataW H)} (hk : Rows.uptoSmall H ds = true) (h : ds[i]? = some (.slice elems spare)) : elems.length ≤ 1048576 := by
  have h' : Rows.uptoBulkAll ds ≤ 1048576 := of_decide_eq_true hk
  have := bulk_in h
  have := bulk_slice elems spare
  omega
/-- a slice of integers that came in -/
def FarS (w : World) (ao : Option Addr) (cap : Nat) (zs : List Int) : Prop := Row w ao zs ∧ zs.length ≤ cap ∧ cap ≤ 9223372036854775807
/-- so many numbers, one after another -/
theorem choose_ints (P : Nat → Int → Prop) (n : Nat) (h : ∀ j, j < n → ∃ p, P j p) : ∃ ps : List Int, ps.length = n ∧ ∀ j, j < n → P j (ps.getD j 0) := by
  induction n with
  | zero => exact ⟨[], rfl, fun j hj => by omega⟩
  | succ n ih =>
    obtain ⟨ps, hl, hp⟩ := ih fun j hj => h j (by omega)
    obtain ⟨p, hq⟩ := h n (by omega)
    refine ⟨ps ++ [p], by simp [hl], fun j hj => ?_⟩
    by_cases e : j = n
    · subst e
      rw [List.getD_eq_getElem?_getD, List.getElem?_append_right (by omega), hl]
      simpa using hq
    · rw [List.getD_eq_getElem?_getD, List.getElem?_append_left (by omega), ← List.getD_eq_getElem?_getD]
      exact hp j (by omega)
theorem farS {H : Type} {enc : TypeId × Value → H} {W : World} {a : Option Addr} {len cap : Nat} {d : DataW H} {p : List MemPlace}
    (h : DataW.Trod enc Tryz.prog W 0 (fun _ => true) true 24 (.slice a len cap) d p) : ∃ ps, ps.length = len ∧ FarS W a cap ps ∧ (d = .nil ∧ len = 0 ∨ ∃ elems spare, d = .slice elems spare ∧ len ≤ elems.length) := by
  obtain ⟨fuel, hf⟩ := h
  rcases DataW.trod_slice Tryz.underlying24 hf with ⟨hcs, hx⟩ | ⟨x, l, c, elems, rest, n, _, hcs, hx, _, hlc, hm, hlen, hel, _, _⟩
  · simp [Value.cells] at hcs
    obtain ⟨rfl, rfl, rfl⟩ := hcs
    injection hx with hx _
    exact ⟨[], rfl, ⟨.inl rfl, by simp, by omega⟩, .inl ⟨hx, rfl⟩⟩
  · simp [Value.cells] at hcs
    obtain ⟨rfl, rfl, rfl⟩ := hcs
    injection hx with hx _
    unfold maxLen at hm
    rw [Tryz.cells3] at hel
    obtain ⟨ps, hpl, hps⟩ := choose_ints (fun j q => W.cell? (x.add j) = some (.int .i64 q)) len fun j hj => by
      have := hel j hj
      rw [List.getElem?_eq_getElem (by omega), Option.bind_eq_some_iff] at this
      obtain ⟨cs, hcs, hy⟩ := this
      obtain ⟨h1, _, h3⟩ := World.cells?_some hcs
      obtain ⟨c, rfl⟩ : ∃ c, cs = [c] := by
        match cs, h1 with
        | [c], _ => exact ⟨c, rfl⟩
      obtain ⟨s, rfl, _⟩ := one_int hy
      have h0 := h3 0 (by omega)
      rw [Nat.mul_one, show (x.add j).add 0 = x.add j by simp [Addr.add]] at h0
      exact ⟨s, by simpa using h0⟩
    refine ⟨ps, hpl, ⟨?_, by omega, by omega⟩, .inr ⟨_, _, hx, by simp only [List.length_map]; omega⟩⟩
    by_cases h0 : len = 0
    · exact .inl (List.eq_nil_of_length_eq_zero (by omega))
    · have c0 := hps 0 (by omega)
      obtain ⟨b, o, sp⟩ := x
      have hsp : sp = none := by
        cases sp with
        | none => rfl
        | some q =>
          have : W.cell? ((⟨b, o, some q⟩ : Addr).add 0) = none := by
            show W.cell? ⟨b, o, some q⟩ = none
            simp only [World.cell?]
            split <;> simp
          rw [this] at c0; cases c0
      subst hsp
      refine .inr ⟨b, o, rfl, fun j hj => ?_⟩
      have := hps j (by omega)
      rw [Addr.add_lit] at this
      exact this

end Go.Proofs.YtjageagnclmnjabGreatDoor.D

end

section
namespace Go.Proofs.YtjageagnclmnjabGreatDoor.J
set_option maxRecDepth 100000
open Go.ChangeShapes Go.WideShapes Go.ChangeAt Go.RowKit

theorem fits {n : Int} (h : (Lit.int .i64 n).wf = true) : -9223372036854775808 ≤ n ∧ n ≤ 9223372036854775807 := by
  simpa [Lit.wf, IntKind.min, IntKind.max, IntKind.signed, IntKind.bits] using h

theorem own : ownKnob Tryz.prog.godebug = none := by kernel_rfl
theorem laidOut : laidOutB Tryz.prog = true := by kernel_rfl
end Go.Proofs.YtjageagnclmnjabGreatDoor.J

end
