/- PROVED: what the document's own EUnit answers. CONDITIONS: none beyond each theorem's own. -/
import Derived.Test.YtiefkghpmjbhiaaConv
namespace Go.Proofs.Ytiefkghpmjbhiaa
open Go.RowKit

theorem cell_new2 (w : World) (o : Obj) (x : Value) (t : TypeId) : ∀ j u, [x][j]? = some u → ((w.alloc o).alloc (.cells #[x] t)).cell? ((⟨w.heap.size + 1, 0, none⟩ : Addr).add j) = some u := by
  have := cell_one_new (w.alloc o) x t
  simpa using this
theorem Gath.start0 (w : World) (f : Nat → Int) : Gath w (.slice none 0 0) w (outs f 0) := Gath.start w

set_option maxHeartbeats 1600000 in
theorem eunit_nat (n : Int) (u : Nat) (hu : min (max n 0) 300 = (u : Int)) (w : World) : Calls Try.prog 11 #[.int .i64 n] w (Ans w (unit u)) := by
  obtain ⟨i0, hi, hz0, hz1, hz2⟩ := info_parts Try.info3
  unfold unit
  have hst := Gath.start0 w un
  go_enter Try.func11, Try.ntmps11
  go_wp2
  go_loopw [3, 4] (fun t i wr => ∃ k : Nat, k ≤ u ∧ i = .int .i64 k ∧ Gath w t wr (outs un k)) (fun _ i _ => u - (intOf i).toNat)
  case atStart => exact ⟨0, Nat.zero_le _, rfl, hst⟩
  case round =>
    obtain ⟨k, hku, rfl, hG⟩ := hrel
    clear hst
    by_cases hlt : k < u
    · have hk1 : (k : Int) < n := by omega
      have hk2 : (k : Int) < 300 := by omega
      have ho1 := hG.own
      have hRl := outs_len un k
      by_cases h0 : k = 0
      · subst h0
        have hx : (0 : Int) = un 0 := rfl
        replace hx : Hid ((0 : Int) = un 0) := hx
        have hmin : min (0 : Int) 1 = 0 := by omega
        have hk3 : (0 : Int) < n := by omega
        go_wp2_with (at_builtin; refine wpList_append_own _ rfl _ _ 22 rfl w.heap.size 3 i0 (.int .i64 0) 1 8 Try.underlying22 hi hz0 hz1 hz2 rfl (by decide) _ _ _ rfl ((ho1.alloc _).alloc _) ⟨wr.heap.size + 1, 0, none⟩ 1 1 [.int .i64 0] rfl rfl (cell_new2 wr _ _ _) (by simp [Value.oneCell']) (by unfold maxLen; omega) (by omega) (by have := hG.below.size; simp; omega) ?_; intro t' w2 hown' hgrow _; have hS := hG.next (balloc (Below.refl _ _) _) hx.out hown' hgrow; clear hown' hgrow ho1)
        go_roundw
        case rel => exact ⟨0 + 1, by omega, by go_num, hS⟩
        case measure => simp [intOf]; omega
      · have hx : (1152921504606846976 : Int) = un k := by unfold un; rw [if_neg h0]
        replace hx : Hid ((1152921504606846976 : Int) = un k) := hx
        have hmin : min (k : Int) 1 = 1 := by omega
        clear h0
        go_wp2_with (at_builtin; refine wpList_append_own _ rfl _ _ 22 rfl w.heap.size 3 i0 (.int .i64 0) 1 8 Try.underlying22 hi hz0 hz1 hz2 rfl (by decide) _ _ _ rfl ((ho1.alloc _).alloc _) ⟨wr.heap.size + 1, 0, none⟩ 1 1 [.int .i64 1152921504606846976] rfl rfl (cell_new2 wr _ _ _) (by simp [Value.oneCell']) (by unfold maxLen; omega) (by omega) (by have := hG.below.size; simp; omega) ?_; intro t' w2 hown' hgrow _; have hS := hG.next (balloc (Below.refl _ _) _) hx.out hown' hgrow; clear hown' hgrow ho1)
        go_roundw
        case rel => exact ⟨k + 1, by omega, by go_num, hS⟩
        case measure => simp [intOf]; omega
    · obtain rfl : k = u := by omega
      by_cases h1 : (k : Int) < n
      · have h2 : ¬ (k : Int) < 300 := by omega
        go_wp2
        go_ret
        exact hG.done
      · go_wp2
        go_ret
        exact hG.done

theorem eunit_any (n : Int) (w : World) : Calls Try.prog 11 #[.int .i64 n] w (Ans w (unit (min (max n 0) 300).toNat)) := eunit_nat n _ (by omega) w

end Go.Proofs.Ytiefkghpmjbhiaa
