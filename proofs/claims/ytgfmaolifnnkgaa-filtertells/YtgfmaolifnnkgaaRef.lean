/- PROVED: what the document's own answers of chapter 3 are. CONDITIONS: none beyond each theorem's own. -/
import Derived.Test.YtgfmaolifnnkgaaSpread
namespace Go.Proofs.Ytgfmaolifnnkgaa
open Go.RowKit

theorem Gath.told {w : World} {t t' : Value} {wr w1 w2 : World} {N : Int} {f : Nat → Int} {k : Nat} (h : Gath w t wr (outs N f k)) (hb : Below wr.heap.size wr w1) {x : Int} (hx : x = told N f k)
    (ho : w2.ownsRow w.heap.size 3 1 t' ((outs N f k).length + 1) ((outs N f k).map (Value.int .i64) ++ [.int .i64 x])) {o : Obj} (hg : (w1.alloc o).grownBy w2 t.ownBlock) : Gath w t' w2 (outs N f (k + 1)) := by
  rw [outs_succ, ← hx]
  exact h.step hb ho hg
theorem Gath.far {w : World} {t t' : Value} {wr w1 w2 : World} {N : Int} {f : Nat → Int} {k : Nat} (h : Gath w t wr (fars N f k)) (hb : Below wr.heap.size wr w1) {x : Int} (hx : x = far N f k)
    (ho : w2.ownsRow w.heap.size 3 1 t' ((fars N f k).length + 1) ((fars N f k).map (Value.int .i64) ++ [.int .i64 x])) {o : Obj} (hg : (w1.alloc o).grownBy w2 t.ownBlock) : Gath w t' w2 (fars N f (k + 1)) := by
  rw [fars_succ, ← hx]
  exact h.step hb ho hg
theorem own_drew {wr : World} {base : Nat} {t : Value} {n : Nat} {xs : List Value} (h : wr.ownsRow base 3 1 t n xs) (q : Nat) : (wr.drewN q).ownsRow base 3 1 t n xs := own_kept h (below_drewN (Below.refl _ _) q)
theorem Gath.done {w : World} {t : Value} {wr : World} {R : List Int} (h : Gath w t wr R) : Ans w R (.returned t) wr := by
  obtain ⟨ao, cap, rfl, hr⟩ := owned_row h.own
  exact ⟨ao, cap, rfl, hr, h.below⟩

theorem csmooth_no (ao : Option Addr) (n cap : Nat) (s : Int) (w : World) (h : s < 0 ∨ 16 < s) :
    Calls Try.prog 9 #[.slice ao n cap, .int .i64 s] w fun e w' => e = .returned (.slice none 0 0) ∧ w' = w := by
  by_cases h0 : s < 0
  · have d1 : decide (s < 0) = true := decide_eq_true h0
    go_enter Try.func9, Try.ntmps9
    go_wp2
    go_ret
    exact ⟨rfl, rfl⟩
  · have d1 : decide (s < 0) = false := decide_eq_false h0
    have d2 : decide (16 < s) = true := decide_eq_true (by omega)
    go_enter Try.func9, Try.ntmps9
    go_wp2
    go_ret
    exact ⟨rfl, rfl⟩

/-- the mean as it is held there: nothing ahead of the first number -/
def held (N : Int) (f : Nat → Int) (k : Nat) : Int := if k = 0 then 0 else mean N f k

set_option maxHeartbeats 3200000 in
theorem csmooth_some (ao : Option Addr) (cap : Nat) (zs : List Int) (s : Nat) (w : World) (hz : Row w ao zs) (hk : zs.length ≤ 17592186043904) (h : s ≤ 16) :
    Calls Try.prog 9 #[.slice ao zs.length cap, .int .i64 s] w (Ans w (outs (2 ^ s) (fun j => zs.getD j 0) zs.length)) := by
  obtain ⟨i0, hi, hz0, hz1, hz2⟩ := info_parts Try.info3
  have d1 : decide ((s : Int) < 0) = false := decide_eq_false (by omega)
  have d2 : decide ((16 : Int) < s) = false := decide_eq_false (by omega)
  have hN : (1 : Int) ≤ 2 ^ s := by have := Int.pow_pos (n := 2) (m := s) (by omega); omega
  have hN2 : (2 : Int) ^ s ≤ 65536 := by
    have : (2 : Nat) ^ s ≤ 2 ^ 16 := Nat.pow_le_pow_right (by omega) h
    have e : ((2 ^ s : Nat) : Int) = (2 : Int) ^ s := by simp
    omega
  obtain ⟨P, hP⟩ : ∃ P, (2 : Int) ^ s = P := ⟨_, rfl⟩
  rw [hP] at hN hN2 ⊢
  have hwp : IntKind.i64.wrap P = P := wrap_in (by omega)
  have hp0 : (P == 0) = false := by simp; omega
  go_enter Try.func9, Try.ntmps9
  go_wp2
  go_loopw [5, 6, 19] (fun t m i wr => ∃ k : Nat, k ≤ zs.length ∧ i = .int .i64 k ∧ m = .int .i64 (held P (fun j => zs.getD j 0) k) ∧ Gath w t wr (outs P (fun j => zs.getD j 0) k)) (fun _ _ i _ => zs.length - (intOf i).toNat)
  case atStart => exact ⟨0, Nat.zero_le _, rfl, rfl, Gath.start w⟩
  case round =>
    obtain ⟨k, hkn, rfl, rfl, hG⟩ := hrel
    by_cases hlt : k < zs.length
    · obtain ⟨g, off, rfl, hcz⟩ := hz.at (by omega)
      have hx := (hG.below.cell (p := ⟨g, off + k, none⟩) (block_lt (hcz k hlt))).trans (hcz k hlt)
      have hfc := fit_cnt (zs.getD k 0)
      have cl := cnt_lo (zs.getD k 0)
      have ch := cnt_hi (zs.getD k 0)
      have ho1 := hG.own
      have hRl := outs_len P (fun j => zs.getD j 0) k
      have ml := mean_lo P (fun j => zs.getD j 0) hN k
      have mh := mean_hi P (fun j => zs.getD j 0) hN k
      have nl := mean_lo P (fun j => zs.getD j 0) hN (k + 1)
      have nh := mean_hi P (fun j => zs.getD j 0) hN (k + 1)
      have hm1 : mean P (fun j => zs.getD j 0) (k + 1) = mean P (fun j => zs.getD j 0) k + (cnt (zs.getD k 0) * 65536 - mean P (fun j => zs.getD j 0) k) / P := rfl
      have hto : mean P (fun j => zs.getD j 0) (k + 1) / 65536 = told P (fun j => zs.getD j 0) k := rfl
      have hhd : mean P (fun j => zs.getD j 0) (k + 1) = held P (fun j => zs.getD j 0) (k + 1) := by unfold held; rw [if_neg (by omega)]
      by_cases k0 : k = 0
      · subst k0
        have hme : mean P (fun j => zs.getD j 0) 0 = cnt (zs.getD 0 0) * 65536 := rfl
        rw [hme, Int.sub_self, Int.zero_ediv, Int.add_zero] at hm1
        have hh0 : held P (fun j => zs.getD j 0) 0 = 0 := rfl
        rw [hh0]
        rw [Nat.add_zero] at hx
        generalize mean P (fun j => zs.getD j 0) (0 + 1) = m1 at hm1 nl nh hto hhd
        generalize cnt (zs.getD 0 0) = c at hfc cl ch hm1 hme
        generalize zs.getD 0 0 = x at hx hfc
        have HT : Hid (m1 / 65536 = told P (fun j => zs.getD j 0) 0) := hto
        have HD : Hid (m1 = held P (fun j => zs.getD j 0) (0 + 1)) := hhd
        clear hto hhd hcz ml mh hme hh0
        have hw0 : IntKind.i64.wrap (c * 65536 - c * 65536) = 0 := by rw [Int.sub_self]; rfl
        go_wp2_with (go_at_call 16; refine (rfit_any _ _).mono ?_; rintro e wr ⟨rfl, rfl⟩)
        go_quiet (fail)
        go_wp2_with (at_builtin; refine wpList_append_own _ rfl (.tmp 52) (.tmp 55) 22 rfl w.heap.size 3 i0 (.int .i64 0) 1 8 Try.underlying22 hi hz0 hz1 hz2 rfl (by decide) _ _ _ rfl ((own_drew ho1 nq).alloc _) ⟨wr.heap.size, 0, none⟩ 1 1 [.int .i64 (c)] rfl rfl (cell_one_new _ _ _) (by simp [Value.oneCell']) (by unfold maxLen; omega) (by omega) (by have := hG.below.size; simp; omega) ?_; intro t' w2 hown' hgrow _; have hS := hG.told (below_drewN (Below.refl _ _) nq) (by have := HT.out; omega) hown' hgrow; clear hown' hgrow ho1)
        go_roundw
        case rel => exact ⟨0 + 1, by omega, by go_num, by rw [← HD.out, hm1], hS⟩
        case measure => simp [intOf]; omega
      · obtain ⟨kp, hkp⟩ : ∃ p, k = p + 1 := ⟨k - 1, by omega⟩
        have hh0 : held P (fun j => zs.getD j 0) k = mean P (fun j => zs.getD j 0) k := by unfold held; rw [if_neg k0]
        rw [hh0]
        generalize mean P (fun j => zs.getD j 0) (k + 1) = m1 at hm1 nl nh hto hhd
        generalize mean P (fun j => zs.getD j 0) k = m at hm1 ml mh ⊢
        generalize cnt (zs.getD k 0) = c at hfc cl ch hm1
        generalize zs.getD k 0 = x at hx hfc
        have HT : Hid (m1 / 65536 = told P (fun j => zs.getD j 0) k) := hto
        have HD : Hid (m1 = held P (fun j => zs.getD j 0) (k + 1)) := hhd
        have hk0 : ((k : Int) == 0) = false := by simp; omega
        clear hto hhd hcz hh0 hkp
        have hw0 : IntKind.i64.wrap (c * 65536 - m) = c * 65536 - m := wrap_in (by omega)
        obtain ⟨d, hd⟩ : ∃ d, c * 65536 - m = d := ⟨_, rfl⟩
        rw [hd] at hm1
        by_cases hd0 : 0 ≤ d
        · obtain ⟨q, hq⟩ : ∃ q, d / P = q := ⟨_, rfl⟩
          rw [hq] at hm1
          subst hm1
          go_wp2_with (go_at_call 16; refine (rfit_any _ _).mono ?_; rintro e wr ⟨rfl, rfl⟩)
          go_quiet (fail)
          go_wp2_with (at_builtin; refine wpList_append_own _ rfl (.tmp 52) (.tmp 55) 22 rfl w.heap.size 3 i0 (.int .i64 0) 1 8 Try.underlying22 hi hz0 hz1 hz2 rfl (by decide) _ _ _ rfl ((own_drew ho1 nq).alloc _) ⟨wr.heap.size, 0, none⟩ 1 1 [.int .i64 ((m + q) / 65536)] rfl rfl (cell_one_new _ _ _) (by simp [Value.oneCell']) (by unfold maxLen; omega) (by omega) (by have := hG.below.size; simp; omega) ?_; intro t' w2 hown' hgrow _; have hS := hG.told (below_drewN (Below.refl _ _) nq) (by have := HT.out; omega) hown' hgrow; clear hown' hgrow ho1)
          go_roundw
          case rel => exact ⟨k + 1, by omega, by go_num, by rw [← HD.out], hS⟩
          case measure => simp [intOf]; omega
        · have hdn := down_neg (d := d) hN
          obtain ⟨q, hq⟩ : ∃ q, (-d + P - 1) / P = q := ⟨_, rfl⟩
          rw [hq] at hdn
          have hm2 : m1 = m - q := by omega
          subst hm2
          clear hm1 hdn
          go_wp2_with (go_at_call 16; refine (rfit_any _ _).mono ?_; rintro e wr ⟨rfl, rfl⟩)
          go_quiet (fail)
          go_wp2_with (at_builtin; refine wpList_append_own _ rfl (.tmp 52) (.tmp 55) 22 rfl w.heap.size 3 i0 (.int .i64 0) 1 8 Try.underlying22 hi hz0 hz1 hz2 rfl (by decide) _ _ _ rfl ((own_drew ho1 nq).alloc _) ⟨wr.heap.size, 0, none⟩ 1 1 [.int .i64 ((m - q) / 65536)] rfl rfl (cell_one_new _ _ _) (by simp [Value.oneCell']) (by unfold maxLen; omega) (by omega) (by have := hG.below.size; simp; omega) ?_; intro t' w2 hown' hgrow _; have hS := hG.told (below_drewN (Below.refl _ _) nq) (by have := HT.out; omega) hown' hgrow; clear hown' hgrow ho1)
          go_roundw
          case rel => exact ⟨k + 1, by omega, by go_num, by rw [← HD.out], hS⟩
          case measure => simp [intOf]; omega
    · have e : k = zs.length := by omega
      subst e
      go_wp2
      go_ret
      exact hG.done

end Go.Proofs.Ytgfmaolifnnkgaa
