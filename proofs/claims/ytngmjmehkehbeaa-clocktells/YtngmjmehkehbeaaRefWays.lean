/- PROVED: what the document's own JWays answers. CONDITIONS: none beyond each theorem's own. -/
import Derived.Test.YtngmjmehkehbeaaWaits
namespace Go.Proofs.Ytngmjmehkehbeaa
open Go.RowKit

set_option maxHeartbeats 3200000 in
theorem jways_any (a : Option Addr) (cap : Nat) (ps : Rs) (w : World) (hz : PRow w a ps) (hl : ps.length ≤ 8796093022206) :
    Calls Try.prog 7 #[.slice a ps.length cap] w (Ans w (ways ps)) := by
  obtain ⟨i0, hi, hz0, hz1, hz2⟩ := info_parts Try.info3
  obtain ⟨n, hn⟩ : ∃ n, ps.length = n := ⟨_, rfl⟩
  have hyes : Hid ((∀ j, j < n → okp (ps.getD j (0, 0))) → ways ps = outs (wy ps) n) := fun h => by rw [ways_yes (fun j hj => h j (by omega)), hn]
  have hno : Hid (∀ j, j < n → ¬ okp (ps.getD j (0, 0)) → ways ps = []) := fun j hj h => ways_no fun k => h (k j (by omega))
  generalize ways ps = Y at *
  have hlt1 : Hid (∀ j, j < n → j < ps.length) := fun j hj => by omega
  rw [hn] at hl ⊢
  clear hn
  have hst : Gath w (.slice none 0 0) w (outs (wy ps) 0) := Gath.start w
  go_enter Try.func7, Try.ntmps7
  go_wp2
  go_loopw [3, 8] (fun s i wr => ∃ k : Nat, k ≤ n ∧ i = .int .i64 k ∧ (∀ j, j < k → okp (ps.getD j (0, 0))) ∧ Gath w s wr (outs (wy ps) k)) (fun _ i _ => n - (intOf i).toNat)
  case atStart => exact ⟨0, Nat.zero_le _, rfl, fun j h => by omega, hst⟩
  case round =>
    obtain ⟨k, hk, rfl, hA, hG⟩ := hrel
    clear hst
    by_cases hlt : k < n
    · have p1 := hlt1.out k hlt
      obtain ⟨g, o, rfl, k1⟩ := (hz.kept hG.below).at (by omega)
      obtain ⟨cx, cy⟩ := k1 k p1
      have hv : Hid (wy ps k = (ps.getD k (0, 0)).2 - (ps.getD k (0, 0)).1) := rfl
      have hA2 : Hid (okp (ps.getD k (0, 0)) → ∀ j, j < k + 1 → okp (ps.getD j (0, 0))) := fun h j hj => by
        by_cases e : j = k
        · subst e; exact h
        · exact hA j (by omega)
      have hno2 : Hid (¬ okp (ps.getD k (0, 0)) → Y = []) := hno.out k hlt
      obtain ⟨⟨x, y⟩, hxy⟩ : ∃ p, ps.getD k (0, 0) = p := ⟨_, rfl⟩
      rw [hxy] at cx cy hA2 hno2 hv
      simp only at cx cy hv
      have hltI : (k : Int) < n := by omega
      have hB1 : Below wr.heap.size wr (wr.alloc (.cells #[.int .i64 x, .int .i64 y] 31)) := balloc (Below.refl _ _) _
      have hB2 := bthen hG.below hB1
      have hsz := hG.below.size
      clear k1 hlt1 p1 hz hA hno hxy
      by_cases hx : okp (x, y)
      · have hA3 := hA2.out hx
        replace hA3 : Hid _ := hA3
        unfold okp at hx
        simp only at hx
        have d1 : decide (min x y < -1099511627776) = false := decide_eq_false (by omega)
        have d2 : decide (1099511627776 < max x y) = false := decide_eq_false (by omega)
        have ho1 := own_kept hG.own hB1
        have hRl := outs_len (wy ps) k
        have hcn := cell_one_new (wr.alloc (.cells #[.int .i64 x, .int .i64 y] 31)) (.int .i64 (y - x)) 3
        rw [show (wr.alloc (.cells #[.int .i64 x, .int .i64 y] 31)).heap.size = wr.heap.size + 1 by simp] at hcn
        replace hcn : Hid _ := hcn
        clear hA2 hno2 hyes
        go_wp2_with (at_builtin; refine wpList_append_own _ rfl _ _ 23 rfl w.heap.size 3 i0 (.int .i64 0) 1 8 Try.underlying23 hi hz0 hz1 hz2 rfl (by decide) _ _ _ rfl (ho1.alloc _) ⟨wr.heap.size + 1, 0, none⟩ 1 1 [.int .i64 (y - x)] rfl rfl hcn.out (by simp [Value.oneCell']) (by unfold maxLen; omega) (by omega) (by simp; omega) ?_; intro t' w2 hown' hgrow _; have hS := hG.next hB1 hv.out.symm hown' hgrow; clear hown' hgrow ho1 hcn)
        go_roundw
        case rel => exact ⟨k + 1, by omega, by go_num, hA3.out, hS⟩
        case measure => simp [intOf]; omega
      · have hY : Y = [] := hno2.out hx
        subst hY
        unfold okp at hx
        simp only at hx
        clear hA2 hno2 hyes
        by_cases c1 : min x y < -1099511627776
        · have d1 : decide (min x y < -1099511627776) = true := decide_eq_true c1
          go_wp2
          go_ret
          exact ⟨none, 0, rfl, Nat.le_refl _, .inl rfl, hB2⟩
        · have d1 : decide (min x y < -1099511627776) = false := decide_eq_false c1
          have d2 : decide (1099511627776 < max x y) = true := decide_eq_true (by omega)
          go_wp2
          go_ret
          exact ⟨none, 0, rfl, Nat.le_refl _, .inl rfl, hB2⟩
    · obtain rfl : n = k := by omega
      have hY : Y = outs (wy ps) n := hyes.out hA
      subst hY
      go_wp2
      go_ret
      exact hG.done

end Go.Proofs.Ytngmjmehkehbeaa
