/- PROVED: for every two rows of numbers and every shift FilterRises returns true, and the rows read as before. CONDITIONS: none. -/
import Derived.Test.YtgfmaolifnnkgaaAlive
import Derived.Test.YtgfmaolifnnkgaaFar
namespace Go.Proofs.Ytgfmaolifnnkgaa
open Go.RowKit
set_option linter.unusedVariables false

/-- a number, and as much more as is said -/
def big (l m : List Int) (k : Nat) : Int := cnt (l.getD k 0) + (if k < m.length then cnt (m.getD k 0) else 0)
def bigs (l m : List Int) (k : Nat) : List Int := (List.range k).map (big l m)
theorem bigs_len (l m : List Int) (k : Nat) : (bigs l m k).length = k := by simp [bigs]
theorem bigs_succ (l m : List Int) (k : Nat) : bigs l m (k + 1) = bigs l m k ++ [big l m k] := by simp [bigs, List.range_succ]
theorem bigs_getD (l m : List Int) (k j : Nat) (h : j < k) : (bigs l m k).getD j 0 = big l m j := by simp [bigs, List.getD_eq_getElem?_getD, h]
theorem big_cnt (l m : List Int) (k : Nat) : cnt (l.getD k 0) ≤ cnt (big l m k) := by
  have a := cnt_lo (l.getD k 0)
  have b := cnt_hi (l.getD k 0)
  unfold big
  split
  · have c := cnt_lo (m.getD k 0)
    generalize cnt (l.getD k 0) = x at a b
    unfold cnt at c ⊢; omega
  · rw [Int.add_zero, cnt_id a b]; exact Int.le_refl _

theorem rises (l m : List Int) (s : Int) : (smooth (bigs l m l.length) s).length = (smooth l s).length ∧ ∀ k, k < (smooth l s).length → (smooth l s).getD k 0 ≤ (smooth (bigs l m l.length) s).getD k 0 := by
  cases h : okS s with
  | false => rw [smooth_no h, smooth_no h]; exact ⟨rfl, fun k hk => by simp at hk⟩
  | true =>
    refine ⟨by rw [smooth_len h, smooth_len h, bigs_len], fun k hk => ?_⟩
    rw [smooth_len h] at hk
    rw [smooth_ok h, smooth_ok h, bigs_len, outs_getD _ _ _ _ hk, outs_getD _ _ _ _ hk]
    refine told_rises (n := l.length) (pw_pos s) (fun j hj => ?_) k hk
    show cnt (l.getD j 0) ≤ cnt ((bigs l m l.length).getD j 0)
    rw [bigs_getD _ _ _ _ hj]
    exact big_cnt l m j

theorem Gath.big {w : World} {t t' : Value} {wr w2 : World} {l m : List Int} {k : Nat} (h : Gath w t wr (bigs l m k)) {x : Int} (hx : x = big l m k)
    (ho : w2.ownsRow w.heap.size 3 1 t' ((bigs l m k).length + 1) ((bigs l m k).map (Value.int .i64) ++ [.int .i64 x])) {o : Obj} (hg : (wr.alloc o).grownBy w2 t.ownBlock) : Gath w t' w2 (bigs l m (k + 1)) := by
  rw [bigs_succ, ← hx]
  exact h.step (Below.refl _ _) ho hg

set_option maxHeartbeats 3200000 in
theorem filterRises_walk (a0 : Option Addr) (cap0 : Nat) (z0 : List Int) (a1 : Option Addr) (cap1 : Nat) (z1 : List Int) (a2 : Int) (w : World) (h0 : FarIn w a0 z0) (h1 : FarIn w a1 z1) (w2 : -9223372036854775808 ≤ a2 ∧ a2 ≤ 9223372036854775807) :
    Calls Try.prog 5 #[.slice a0 z0.length cap0, .slice a1 z1.length cap1, .int .i64 a2] w fun e w' => e = .returned (.bool true) ∧ Below w.heap.size w w' := by
  obtain ⟨hz, hl, _⟩ := h0
  obtain ⟨hy, hly, _⟩ := h1
  obtain ⟨i0, hi, hz0, hz1, hz2⟩ := info_parts Try.info3
  go_enter Try.func5, Try.ntmps5
  go_wp2_with (go_at_call 12; refine (alive_any _).mono ?_; rintro e v1 ⟨rfl, b1⟩; have hzv := hz.kept b1; have hyv := hy.kept b1; clear hz hy)
  go_loopw [7, 17] (fun t i wr => ∃ k : Nat, k ≤ z0.length ∧ i = .int .i64 k ∧ Gath v1 t wr (bigs z0 z1 k)) (fun _ i _ => z0.length - (intOf i).toNat)
  case atStart => exact ⟨0, Nat.zero_le _, rfl, Gath.start v1⟩
  case round =>
    obtain ⟨k, hkn, rfl, hG⟩ := hrel
    by_cases hlt : k < z0.length
    · obtain ⟨g, off, rfl, hcz⟩ := hzv.at (by omega)
      have hx := (hG.below.cell (p := ⟨g, off + k, none⟩) (block_lt (hcz k hlt))).trans (hcz k hlt)
      have hfc := fit_cnt (z0.getD k 0)
      have cl := cnt_lo (z0.getD k 0)
      have ch := cnt_hi (z0.getD k 0)
      have ho1 := hG.own
      have hRl := bigs_len z0 z1 k
      by_cases hm : k < z1.length
      · obtain ⟨g2, off2, rfl, hcy⟩ := hyv.at (by omega)
        have hy := (hG.below.cell (p := ⟨g2, off2 + k, none⟩) (block_lt (hcy k hm))).trans (hcy k hm)
        have hfd := fit_cnt (z1.getD k 0)
        have dl := cnt_lo (z1.getD k 0)
        have dh := cnt_hi (z1.getD k 0)
        have hbig : cnt (z0.getD k 0) + cnt (z1.getD k 0) = big z0 z1 k := by unfold big; rw [if_pos hm]
        generalize cnt (z0.getD k 0) = c at hfc cl ch hbig
        generalize cnt (z1.getD k 0) = d at hfd dl dh hbig
        generalize z0.getD k 0 = x at hx hfc
        generalize z1.getD k 0 = y at hy hfd
        have HB : Hid (c + d = big z0 z1 k) := hbig
        clear hbig hcz hcy hzv hyv
        go_wp2_with (first
          | (go_at_call 13; refine (fit_any _ _).mono ?_; rintro e wr ⟨rfl, rfl⟩)
          | (at_builtin; refine wpList_append_own _ rfl (.tmp 37) (.tmp 39) 22 rfl v1.heap.size 3 i0 (.int .i64 0) 1 8 Try.underlying22 hi hz0 hz1 hz2 rfl (by decide) _ _ _ rfl (ho1.alloc _) ⟨wr.heap.size, 0, none⟩ 1 1 [.int .i64 (c + d)] rfl rfl (cell_one_new _ _ _) (by simp [Value.oneCell']) (by unfold maxLen; omega) (by omega) (by have := hG.below.size; simp; omega) ?_; intro t' w2 hown' hgrow _; have hS := hG.big HB.out hown' hgrow; clear hown' hgrow ho1))
        go_roundw
        case rel => exact ⟨k + 1, by omega, by go_num, hS⟩
        case measure => simp [intOf]; omega
      · have hbig : cnt (z0.getD k 0) = big z0 z1 k := by unfold big; rw [if_neg hm, Int.add_zero]
        generalize cnt (z0.getD k 0) = c at hfc cl ch hbig
        generalize z0.getD k 0 = x at hx hfc
        have HB : Hid (c = big z0 z1 k) := hbig
        clear hbig hcz hzv hyv
        go_wp2_with (first
          | (go_at_call 13; refine (fit_any _ _).mono ?_; rintro e wr ⟨rfl, rfl⟩)
          | (at_builtin; refine wpList_append_own _ rfl (.tmp 37) (.tmp 39) 22 rfl v1.heap.size 3 i0 (.int .i64 0) 1 8 Try.underlying22 hi hz0 hz1 hz2 rfl (by decide) _ _ _ rfl (ho1.alloc _) ⟨wr.heap.size, 0, none⟩ 1 1 [.int .i64 c] rfl rfl (cell_one_new _ _ _) (by simp [Value.oneCell']) (by unfold maxLen; omega) (by omega) (by have := hG.below.size; simp; omega) ?_; intro t' w2 hown' hgrow _; have hS := hG.big HB.out hown' hgrow; clear hown' hgrow ho1))
        go_roundw
        case rel => exact ⟨k + 1, by omega, by go_num, hS⟩
        case measure => simp [intOf]; omega
    · have e : k = z0.length := by omega
      subst e
      obtain ⟨a3, cap3, rfl, hr3⟩ := owned_row hG.own
      have hzr := hzv.kept hG.below
      have B := bthen b1 hG.below
      have hri := rises z0 z1 a2
      have hsl := smooth_le z0 a2
      have hbl := bigs_len z0 z1 z0.length
      have hS1 := smooth_any a0 cap0 z0 a2 wr hzr (by omega)
      have hS2 := fun u (hu : Row u a3 (bigs z0 z1 z0.length)) => smooth_any a3 cap3 (bigs z0 z1 z0.length) a2 u hu (by omega)
      generalize bigs z0 z1 z0.length = bg at hri hr3 hS2 hbl ⊢
      rw [hbl] at hS2
      obtain ⟨hri, hle⟩ := hri
      generalize smooth z0 a2 = R1 at hri hle hsl hS1
      generalize smooth bg a2 = R2 at hri hle hS2
      obtain ⟨n, hn⟩ : ∃ n, R1.length = n := ⟨_, rfl⟩
      rw [hn] at hri hle hsl
      clear hzv hyv hG hzr
      go_wp2_with (first
        | (go_at_call 8; refine hS1.mono ?_; rintro e v2 ⟨a4, cap4, he, hr4, b2⟩; rw [hn] at he; subst he; have hr3' := hr3.kept b2; have B2 := bthen B b2; clear hS1 hr3 B b2)
        | (go_at_call 8; refine (hS2 _ hr3').mono ?_; rintro e v3 ⟨a5, cap5, he, hr5, b3⟩; rw [hri] at he; subst he; have hr4' := hr4.kept b3; have B3 := bthen B2 b3; clear hS2 hr3' hr4 B2 b3))
      go_loopw [55] (fun i wr => ∃ k q : Nat, k ≤ n ∧ i = .int .i64 k ∧ wr = v3.drewN q) (fun i _ => n - (intOf i).toNat)
      case atStart => exact ⟨0, 0, Nat.zero_le _, rfl, rfl⟩
      case round =>
        obtain ⟨k, q, hkn, rfl, rfl⟩ := hrel
        by_cases hlt : k < n
        · obtain ⟨g4, o4, rfl, c4⟩ := hr4'.at (by omega)
          obtain ⟨g5, o5, rfl, c5⟩ := hr5.at (by omega)
          have ca := c4 k (by omega)
          have cb := c5 k (by omega)
          have hab := hle k hlt
          generalize R1.getD k 0 = xa at ca hab
          generalize R2.getD k 0 = xb at cb hab
          have hd1 : decide (xb < xa) = false := decide_eq_false (by omega)
          have hwk : IntKind.i64.wrap (k : Int) = k := wrap_in (by omega)
          clear c4 c5 hr4' hr5
          go_wp2
          go_quiet (fail)
          go_wp2
          go_roundw
          case rel => exact ⟨k + 1, _, by omega, by go_num, rfl⟩
          case measure => simp [intOf]; omega
        · go_wp2
          go_ret
          exact ⟨rfl, below_drewN B3 q⟩

end Go.Proofs.Ytgfmaolifnnkgaa
namespace Go.Proofs.Ytgfmaolifnnkgaa.filterRises
open Go.ChangeShapes Go.WideShapes Go.ChangeAt Go.RowKit
set_option linter.unusedVariables false

set_option maxRecDepth 100000 in
theorem lifted (os : Os) (started : os.Started) (H : Type) (enc : TypeId × Value → H) :
    ReturnsInHanded {} Try.checked os 5 .any (Rows.filterRisesSpec.pre6 enc Try.prog Try.f5 Rows.filterRisesRow.domain false) (Rows.filterRisesSpec.post enc Try.prog Try.f5 false true false false) := by
  refine returnsInHanded_of_change_sized (C := Try.checked) own started (by kernel_rfl) Try.func5
    (ChangeSpec.witness6 (enc := enc) (C := Try.checked) false ⟨#[], #[.slice none 0 0, .slice none 0 0, .int .i64 0], []⟩ 8 (by kernel_rfl) (by kernel_rfl) (by kernel_rfl) (by kernel_rfl)) ?_
  intro W base args ds gs before hval0 hW _ hsz0 _
  have hsz : (DataW.weightsEach Try.prog (Try.f5.params.toList ++ Rows.filterRisesSpec.plain.varTypes Try.prog) (ds ++ gs)).all (· ≤ reachBytes) = true := hsz0
  have hval : ∀ (j : Nat) t v, Try.f5.params[j]? = some t → args[j]? = some v → Value.okWide Try.prog W .any base t v := hval0
  have hW' := hW
  obtain ⟨p, q, hA0, hV, rfl, hfz, hnd⟩ := hW
  have hA : DataW.TrodAll enc Try.prog W 0 (fun _ => true) true Try.f5.params.toList args.toList ds p := hA0
  rw [Try.params5] at hA hval hsz
  obtain ⟨v0, vs0, d0, ds0, p0, q0, hargs, rfl, rfl, h0, r0⟩ := trodAll_cons hA
  obtain ⟨v1, vs1, d1, ds1, p1, q1, rfl, rfl, rfl, h1, r1⟩ := trodAll_cons r0
  obtain ⟨v2, vs2, d2, ds2, p2, q2, rfl, rfl, rfl, h2, r2⟩ := trodAll_cons r1
  obtain ⟨rfl, rfl, rfl⟩ := trodAll_nil r2
  obtain rfl : args = #[v0, v1, v2] := by cases args; simp_all
  obtain ⟨rfl, rfl⟩ := trodVars_none hV
  obtain ⟨a0, len0, cap0, rfl⟩ := okWide_slice Try.underlying22 (hval 0 22 v0 rfl rfl)
  have k0 := h0
  have lt0 : ∀ x ∈ p0, x.block < W.heap.size := by obtain ⟨m, hm⟩ := k0; exact DataW.trod_lt m _ _ _ hm
  obtain ⟨z0, rfl, w0⟩ := farIn h0 (fun elems spare e => by
    subst e
    have := sized_slice hsz (j := 0) (t := 22) (e := 3) rfl rfl Try.underlying22
    rw [Try.bytes3] at this
    exact this)
  obtain ⟨a1, len1, cap1, rfl⟩ := okWide_slice Try.underlying22 (hval 1 22 v1 rfl rfl)
  have k1 := h1
  have lt1 : ∀ x ∈ p1, x.block < W.heap.size := by obtain ⟨m, hm⟩ := k1; exact DataW.trod_lt m _ _ _ hm
  obtain ⟨z1, rfl, w1⟩ := farIn h1 (fun elems spare e => by
    subst e
    have := sized_slice hsz (j := 1) (t := 22) (e := 3) rfl rfl Try.underlying22
    rw [Try.bytes3] at this
    exact this)
  obtain ⟨a2, rfl, rfl, rfl, w2⟩ := open_int Try.underlying3 (hval 2 3 v2 rfl rfl) h2
  clear hA0 hval0 hsz0 hsz
  refine (filterRises_walk a0 cap0 z0 a1 cap1 z1 a2 W w0 w1 (fits w2)).mono fun e W' ⟨he, bel⟩ => ?_
  subst he
  exact ⟨_, rfl, _, _, _, [], _, [], hW', trodAll_mk1 (shut_bool Try.underlying4 _), (trodAll_cons_mk (Below.trod laidOut (by kernel_rfl) (of_decide_eq_true (by kernel_rfl)) k0 bel lt0) (trodAll_cons_mk (Below.trod laidOut (by kernel_rfl) (of_decide_eq_true (by kernel_rfl)) k1 bel lt1) (trodAll_cons_mk (shut_int Try.underlying3 w2) trodAll_mk0))), rfl, bel.frame _, fun h => by cases h⟩

theorem proved : Rows.FilterRisesSaid :=
  OpenClaim.holds_of_wide 5 Try.f5 rfl rfl rfl rfl rfl rfl rfl ⟨rfl, rfl, rfl, rfl, rfl⟩ rfl rfl rfl rfl rfl (by kernel_rfl) Try.func5 (by kernel_rfl)
    (of_decide_eq_true (by kernel_rfl)) (by unfold Func.isWrapper; first | (rw [if_pos (by decide +kernel)]; kernel_rfl) | (rw [if_neg (by decide +kernel)]; exact ⟨rfl, rfl⟩))
    (fun os started H enc _ => lifted os started H enc)

end Go.Proofs.Ytgfmaolifnnkgaa.filterRises
namespace Go.Proofs.Ytgfmaolifnnkgaa
theorem filterRises_holds : Rows.FilterRisesSaid := filterRises.proved
#print axioms filterRises_holds
end Go.Proofs.Ytgfmaolifnnkgaa
