/- PROVED: what the document's own BBase and JWaits answer. CONDITIONS: none beyond each theorem's own. -/
import Derived.Test.YtngmjmehkehbeaaRefWays
import Derived.Test.YtngmjmehkehbeaaTold
namespace Go.Proofs.Ytngmjmehkehbeaa
open Go.RowKit

/-- the least of the part that counts -/
theorem part_min (b off cp : Nat) (z : List Int) (u v : Int) (k f m : Nat) (w : World) (hu : 1 ≤ u) (hv : 1 ≤ v) (hf : f = frB u v k) (hm : f + m = k) (hk : k < z.length) (hl : z.length ≤ 8796093022206) (hc : ∀ j, j < z.length → w.cell? ⟨b, off + j, none⟩ = some (.int .i64 (z.getD j 0))) :
    Calls Try.prog 14 #[.slice (some ⟨b, off + f, none⟩) (m + 1) cp] w fun e w' => e = .returned (.int .i64 (bs (fun j => z.getD j 0) u v k)) ∧ w' = w := by
  have hd : ∀ j, (z.drop f).getD j 0 = z.getD (f + j) 0 := fun j => by rw [List.getD_eq_getElem?_getD, List.getD_eq_getElem?_getD, List.getElem?_drop]
  refine min_n b (off + f) cp (z.drop f) (m + 1) w (fun j hj => ?_) (by omega) (by simp; omega) (by simp; omega) _ ?_
  · rw [List.length_drop] at hj
    rw [hd, Nat.add_assoc]
    exact hc (f + j) (by omega)
  · obtain ⟨h1, i, h2, h3⟩ := minOf_is (z.drop f) (m + 1) (by omega) (by simp; omega)
    refine Best.uniq (low := true) (f := fun j => z.getD j 0) (a := frB u v k) (b := k + 1) ⟨⟨f + i, by omega, by omega, ?_⟩, fun j k1 k2 => ?_⟩ (bs_best _ u v hu hv k)
    · rw [h3, hd]
    · have := h1 (j - f) (by omega)
      rw [hd, show f + (j - f) = j by omega] at this
      simp only [bt, if_true, decide_eq_false_iff_not]
      omega

set_option maxHeartbeats 3200000 in
theorem bbase_some (ao : Option Addr) (cap : Nat) (zs : List Int) (u v : Int) (w : World) (hz : Row w ao zs) (hcap : zs.length ≤ cap) (hk : zs.length ≤ 8796093022206) (hu : 1 ≤ u) (hu2 : u ≤ 9223372036854775807) (hv : 1 ≤ v) (hv2 : v ≤ 9223372036854775807) :
    Calls Try.prog 19 #[.slice ao zs.length cap, .int .i64 u, .int .i64 v] w (Ans w (base zs u v)) := by
  obtain ⟨i0, hi, hz0, hz1, hz2⟩ := info_parts Try.info3
  rw [base_yes zs hu hv]
  have d1 : decide (u < 1) = false := decide_eq_false (by omega)
  have d2 : decide (v < 1) = false := decide_eq_false (by omega)
  have hpm := fun g off k f m w' cp hf hm hlt hc => part_min g off cp zs u v k f m w' hu hv hf hm hlt hk hc
  obtain ⟨H, hH⟩ : ∃ H : Nat → Int, H = bs (fun j => zs.getD j 0) u v := ⟨_, rfl⟩
  rw [← hH] at hpm ⊢
  clear hH
  obtain ⟨n, hn⟩ : ∃ n, zs.length = n := ⟨_, rfl⟩
  replace hpm : Hid _ := hpm
  rw [hn] at hk hcap ⊢
  replace hn : Hid (zs.length = n) := hn
  have hst : Gath w (.slice none 0 0) w (outs H 0) := Gath.start w
  go_enter Try.func19, Try.ntmps19
  go_wp2
  go_loopw [7, 13] (fun t i wr => ∃ k : Nat, k ≤ n ∧ i = .int .i64 k ∧ Gath w t wr (outs H k)) (fun _ i _ => n - (intOf i).toNat)
  case atStart => exact ⟨0, Nat.zero_le _, rfl, hst⟩
  case round =>
    obtain ⟨k, hkn, rfl, hG⟩ := hrel
    clear hst
    by_cases hlt : k < n
    · obtain ⟨g, off, rfl, hcells⟩ := (hz.kept hG.below).at (by rw [hn.out]; omega)
      have hfe := frB_eq u v k hu
      obtain ⟨f, hf⟩ : ∃ f, f = frB u v k := ⟨_, rfl⟩
      have hfk : f ≤ k := by rw [hf]; exact frB_le u v k hu hv
      obtain ⟨m, hnn⟩ : ∃ m, f + m = k := ⟨k - f, by omega⟩
      have hnn1 : k + 1 - f = m + 1 := by omega
      have hmin : Hid (∀ cp, Calls Try.prog 14 #[.slice (some ⟨g, off + f, none⟩) (m + 1) cp] wr fun e w' => e = .returned (.int .i64 (H k)) ∧ w' = wr) := fun cp => hpm.out g off k f m wr cp hf hnn (by rw [hn.out]; exact hlt) hcells
      have ho1 := hG.own
      have hRl := outs_len H k
      have hx : Hid (H k = H k) := rfl
      generalize hHk : H k = x at hmin hx
      replace hx : Hid (x = H k) := hHk.symm
      rw [← hf] at hfe
      have hq0 : 0 ≤ (k : Int) / u := Int.ediv_nonneg (by omega) (by omega)
      have hq1 : (k : Int) / u ≤ k := Int.ediv_le_self _ (by omega)
      obtain ⟨q, hq⟩ : ∃ q, (k : Int) / u = q := ⟨_, rfl⟩
      rw [hq] at hfe hq0 hq1
      have hsz := hG.below.size
      clear hcells hz hpm hHk
      by_cases hkv : v ≤ q
      · have hm : (q - v + 1) * u = (f : Int) := by rw [hfe, Int.max_eq_left (by omega), show q - (v - 1) = q - v + 1 by omega]
        clear hf hfe
        replace hnn : Hid (f + m = k) := hnn
        go_wp2_with (first
          | (go_at_call 14; refine (hmin.out _).mono ?_; rintro e w1 ⟨rfl, rfl⟩)
          | (at_builtin; refine wpList_append_own _ rfl _ _ 23 rfl w.heap.size 3 i0 (.int .i64 0) 1 8 Try.underlying23 hi hz0 hz1 hz2 rfl (by decide) _ _ _ rfl (ho1.alloc _) ⟨w1.heap.size, 0, none⟩ 1 1 [.int .i64 x] rfl rfl (cell_one_new _ _ _) (by simp [Value.oneCell']) (by unfold maxLen; omega) (by omega) (by simp; omega) ?_; intro t' w2 hown' hgrow _; have hS := hG.next (Below.refl _ _) hx.out hown' hgrow; clear hown' hgrow ho1))
        go_roundw
        case rel => exact ⟨k + 1, by omega, by go_num, hS⟩
        case measure => simp [intOf]; omega
      · have hf0 : f = 0 := by
          rw [Int.max_eq_right (by omega), Int.zero_mul] at hfe
          omega
        subst hf0
        obtain rfl : m = k := by omega
        clear hf hnn hfe hnn1
        go_wp2_with (first
          | (go_at_call 14; refine (hmin.out _).mono ?_; rintro e w1 ⟨rfl, rfl⟩)
          | (at_builtin; refine wpList_append_own _ rfl _ _ 23 rfl w.heap.size 3 i0 (.int .i64 0) 1 8 Try.underlying23 hi hz0 hz1 hz2 rfl (by decide) _ _ _ rfl (ho1.alloc _) ⟨w1.heap.size, 0, none⟩ 1 1 [.int .i64 x] rfl rfl (cell_one_new _ _ _) (by simp [Value.oneCell']) (by unfold maxLen; omega) (by omega) (by simp; omega) ?_; intro t' w2 hown' hgrow _; have hS := hG.next (Below.refl _ _) hx.out hown' hgrow; clear hown' hgrow ho1))
        go_roundw
        case rel => exact ⟨m + 1, by omega, by go_num, hS⟩
        case measure => simp [intOf]; omega
    · obtain rfl : n = k := by omega
      go_wp2
      go_ret
      exact hG.done

set_option maxHeartbeats 800000 in
theorem bbase_none (ao : Option Addr) (cap n : Nat) (u v : Int) (w : World) (hv : u < 1 ∨ v < 1) (_hn : n ≤ 8796093022206) :
    Calls Try.prog 19 #[.slice ao n cap, .int .i64 u, .int .i64 v] w (Ans w []) := by
  by_cases hu : u < 1
  · have d1 : decide (u < 1) = true := decide_eq_true hu
    go_enter Try.func19, Try.ntmps19
    go_wp2
    go_loopw [7, 13] (fun t i wr => t = .slice none 0 0 ∧ i = .int .i64 0 ∧ wr = w) (fun _ i _ => n - (intOf i).toNat)
    case atStart => exact ⟨rfl, rfl, rfl⟩
    case round =>
      obtain ⟨rfl, rfl, rfl⟩ := hrel
      by_cases hlt : 0 < n
      · go_wp2
        go_ret
        exact ⟨none, 0, rfl, Nat.le_refl _, .inl rfl, Below.refl _ _⟩
      · go_wp2
        go_ret
        exact ⟨none, 0, rfl, Nat.le_refl _, .inl rfl, Below.refl _ _⟩
  · have d1 : decide (u < 1) = false := decide_eq_false hu
    have hv' : v < 1 := by omega
    have d2 : decide (v < 1) = true := decide_eq_true hv'
    go_enter Try.func19, Try.ntmps19
    go_wp2
    go_loopw [7, 13] (fun t i wr => t = .slice none 0 0 ∧ i = .int .i64 0 ∧ wr = w) (fun _ i _ => n - (intOf i).toNat)
    case atStart => exact ⟨rfl, rfl, rfl⟩
    case round =>
      obtain ⟨rfl, rfl, rfl⟩ := hrel
      by_cases hlt : 0 < n
      · go_wp2
        go_ret
        exact ⟨none, 0, rfl, Nat.le_refl _, .inl rfl, Below.refl _ _⟩
      · go_wp2
        go_ret
        exact ⟨none, 0, rfl, Nat.le_refl _, .inl rfl, Below.refl _ _⟩

theorem bbase_any (ao : Option Addr) (cap : Nat) (zs : List Int) (u v : Int) (w : World) (hz : Row w ao zs) (hcap : zs.length ≤ cap) (hk : zs.length ≤ 8796093022206) (hu2 : u ≤ 9223372036854775807) (hv2 : v ≤ 9223372036854775807) :
    Calls Try.prog 19 #[.slice ao zs.length cap, .int .i64 u, .int .i64 v] w (Ans w (base zs u v)) := by
  by_cases h : 1 ≤ u ∧ 1 ≤ v
  · exact bbase_some ao cap zs u v w hz hcap hk h.1 hu2 h.2 hv2
  · rw [base_no zs (by omega)]
    exact bbase_none ao cap zs.length u v w (by omega) hk

set_option maxHeartbeats 3200000 in
theorem jwaits_any (a : Option Addr) (cap : Nat) (ps : Rs) (u v : Int) (w : World) (hz : PRow w a ps) (hl : ps.length ≤ 8796093022206) (hu2 : u ≤ 9223372036854775807) (hv2 : v ≤ 9223372036854775807) :
    Calls Try.prog 12 #[.slice a ps.length cap, .int .i64 u, .int .i64 v] w (Ans w (waits ps u v)) := by
  obtain ⟨i0, hi, hz0, hz1, hz2⟩ := info_parts Try.info3
  have hy := fun w1 (h : PRow w1 a ps) => jways_any a cap ps w1 h hl
  have h1 := ways_le ps
  have h2 := base_le (ways ps) u v
  have hin : Hid (∀ k, k < (base (ways ps) u v).length → (-2199023255552 ≤ (ways ps).getD k 0 ∧ (ways ps).getD k 0 ≤ 2199023255552) ∧ -2199023255552 ≤ (base (ways ps) u v).getD k 0 ∧ (base (ways ps) u v).getD k 0 ≤ 2199023255552) := fun k hk => ⟨ways_in ps k (by omega), base_in (ways_in ps) k hk⟩
  have hb := fun ao c w1 (hq : Row w1 ao (ways ps)) (hc : (ways ps).length ≤ c) => bbase_any ao c (ways ps) u v w1 hq hc (by omega) hu2 hv2
  unfold waits
  obtain ⟨m, hm⟩ : ∃ m, (base (ways ps) u v).length = m := ⟨_, rfl⟩
  obtain ⟨q, hq⟩ : ∃ q, (ways ps).length = q := ⟨_, rfl⟩
  obtain ⟨H, hH⟩ : ∃ H : Nat → Int, H = fun k => (ways ps).getD k 0 - (base (ways ps) u v).getD k 0 := ⟨_, rfl⟩
  rw [← hH]
  replace hH : Hid (∀ k, H k = (ways ps).getD k 0 - (base (ways ps) u v).getD k 0) := fun k => by rw [hH]
  unfold Ans at hy hb
  generalize base (ways ps) u v = B at *
  generalize ways ps = Y at *
  generalize ps.length = n at *
  rw [hm] at h2 hin ⊢
  simp only [hm] at hb
  rw [hq] at h1 h2
  simp only [hq] at hy hb
  have hm' : Hid (B.length = m ∧ Y.length = q) := ⟨hm, hq⟩
  replace hb : Hid _ := hb
  replace hy : Hid _ := hy
  clear hm hq
  have T1 := tok
  have T2 := tok
  have T3 := tok
  go_enter Try.func12, Try.ntmps12
  go_wp2_with (first
    | (clear T1; go_at_call 7; refine (hy.out _ hz).mono ?_; rintro e w1 ⟨ay, cy, rfl, hcy, ry, b1⟩; replace hz := hz.kept b1)
    | (clear T2; go_at_call 19; refine (hb.out ay cy w1 ry hcy).mono ?_; rintro e w2 ⟨ab, cb, rfl, _, rb, b2⟩; clear hb ry; replace hz := hz.kept b2; replace b1 := bthen b1 b2; clear b2)
    | (clear T3; go_at_call 7; refine (hy.out _ hz).mono ?_; rintro e w3 ⟨az, cz, rfl, _, rz, b3⟩; clear hy hz; replace rb := rb.kept b3; replace b1 := bthen b1 b3; clear b3))
  have hst : Gath w3 (.slice none 0 0) w3 (outs H 0) := Gath.start w3
  go_loopw [7, 19] (fun t i wr => ∃ k : Nat, k ≤ q ∧ i = .int .i64 k ∧ Gath w3 t wr (outs H (min k m))) (fun _ i _ => q - (intOf i).toNat)
  case atStart => exact ⟨0, Nat.zero_le _, rfl, by rw [Nat.zero_min]; exact hst⟩
  case round =>
    obtain ⟨k, hk, rfl, hG⟩ := hrel
    clear hst
    by_cases hlt : k < q
    · obtain ⟨g1, o1, rfl, k1⟩ := (rz.kept hG.below).at (by rw [hm'.out.2]; omega)
      have cx := k1 k (by rw [hm'.out.2]; exact hlt)
      have hl2 : (k : Int) < q := by omega
      by_cases hkm : k < m
      · obtain ⟨g2, o2, rfl, k2⟩ := (rb.kept hG.below).at (by rw [hm'.out.1]; omega)
        have cy := k2 k (by rw [hm'.out.1]; exact hkm)
        have hA := hin.out k hkm
        have hX : Hid (Y.getD k 0 - B.getD k 0 = H k) := (hH.out k).symm
        generalize Y.getD k 0 = x at cx hX hA
        generalize B.getD k 0 = y at cy hX hA
        rw [show min k m = k by omega] at hG
        have ho1 := hG.own
        have hRl := outs_len H k
        have hsz := hG.below.size
        have hl1 : (k : Int) < m := by omega
        have hnx : Hid (min (k + 1) m = k + 1) := by show _ = _; omega
        clear k1 k2 rz rb hH hin hm'
        go_wp2_with (at_builtin; refine wpList_append_own _ rfl _ _ 23 rfl w3.heap.size 3 i0 (.int .i64 0) 1 8 Try.underlying23 hi hz0 hz1 hz2 rfl (by decide) _ _ _ rfl (ho1.alloc _) ⟨wr.heap.size, 0, none⟩ 1 1 [.int .i64 (x - y)] rfl rfl (cell_one_new _ _ _) (by simp [Value.oneCell']) (by unfold maxLen; omega) (by omega) (by simp; omega) ?_; intro t' w2 hown' hgrow _; have hS := hG.next (Below.refl _ _) hX.out hown' hgrow; clear hown' hgrow ho1)
        go_roundw
        case rel => exact ⟨k + 1, by omega, by go_num, by rw [hnx.out]; exact hS⟩
        case measure => simp [intOf]; omega
      · have hl1 : ¬ (k : Int) < m := by omega
        have hnx : Hid (min (k + 1) m = min k m) := by show _ = _; omega
        generalize Y.getD k 0 = x at cx
        clear k1 rz rb hH hin hm'
        go_wp2
        go_roundw
        case rel => exact ⟨k + 1, by omega, by go_num, by rw [hnx.out]; exact hG⟩
        case measure => simp [intOf]; omega
    · obtain rfl : q = k := by omega
      rw [show min q m = m by omega] at hG
      obtain ⟨am, cm, es, hcm, dr, bq⟩ := hG.done
      go_wp2
      go_ret
      exact ⟨am, cm, es, hcm, dr, bthen b1 bq⟩

end Go.Proofs.Ytngmjmehkehbeaa
