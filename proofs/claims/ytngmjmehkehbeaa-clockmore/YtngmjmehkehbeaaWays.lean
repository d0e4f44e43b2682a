/- PROVED: what clock.Ways answers. CONDITIONS: none beyond each theorem's own. -/
import Derived.Test.YtngmjmehkehbeaaRight
namespace Go.Proofs.Ytngmjmehkehbeaa
open Go.RowKit

set_option maxHeartbeats 1600000 in
theorem ways_any (a : Option Addr) (cap : Nat) (ps : Rs) (w : World) (hz : PRow w a ps) (hl : ps.length ≤ 8796093022206) :
    Calls Try.prog 10 #[.slice a ps.length cap] w (Ans w (ways ps)) := by
  have hr := right_any a cap ps w hz (by omega)
  by_cases h : cright ps
  · rw [ways_yes h]
    rw [decide_eq_true h] at hr
    have hin : Hid (∀ k, k < ps.length → -1099511627776 ≤ (ps.getD k (0, 0)).1 ∧ (ps.getD k (0, 0)).1 ≤ 1099511627776 ∧ -1099511627776 ≤ (ps.getD k (0, 0)).2 ∧ (ps.getD k (0, 0)).2 ≤ 1099511627776) := fun k hk => ⟨(h k hk).1.1, (h k hk).1.2, (h k hk).2.1, (h k hk).2.2⟩
    obtain ⟨n, hn⟩ : ∃ n, ps.length = n := ⟨_, rfl⟩
    have hlt1 : ∀ j, j < n → j < ps.length := fun j hj => by omega
    rw [hn] at hr hl hin ⊢
    replace hlt1 : Hid _ := hlt1
    clear h hn
    have hmk := run_make_row' (P := Try.prog) 23 3 (.int .i64 0) 8 Try.underlying23 Try.info3 rfl .i64 .i64 n (by omega) (by omega)
    go_enter Try.func10, Try.ntmps10
    go_wp2_with (go_at_call 8; refine hr.mono ?_; rintro e w1 ⟨rfl, b1⟩; clear hr)
    have hst : Cells (w1.alloc (.cells (madeCells #[.int .i64 0] n) 3)) w1.heap.size n (fill (wy ps) 0) := Cells.start w1 n _ fun j _ => rfl
    have hB0 : Below w.heap.size w (w1.alloc (.cells (madeCells #[.int .i64 0] n) 3)) := balloc b1 _
    have hs1 := b1.size
    go_loopw [14] (fun i wr => ∃ k : Nat, k ≤ n ∧ i = .int .i64 k ∧ Cells wr w1.heap.size n (fill (wy ps) k) ∧ Below w.heap.size w wr) (fun i _ => n - (intOf i).toNat)
    case atStart => exact ⟨0, Nat.zero_le _, rfl, hst, hB0⟩
    case round =>
      obtain ⟨k, hk, rfl, hC, hB⟩ := hrel
      clear hst hB0 hmk
      by_cases hlt : k < n
      · have hA := hin.out k hlt
        have p1 := hlt1.out k hlt
        obtain ⟨g, o, rfl, k1⟩ := (hz.kept hB).at (by omega)
        obtain ⟨cx, cy⟩ := k1 k p1
        have hv : wy ps k = (ps.getD k (0, 0)).2 - (ps.getD k (0, 0)).1 := rfl
        obtain ⟨⟨x, y⟩, hxy⟩ : ∃ p, ps.getD k (0, 0) = p := ⟨_, rfl⟩
        rw [hxy] at cx cy hA hv
        simp only at cx cy hA hv
        have hD := hC.alloc (.cells #[.int .i64 x, .int .i64 y] 31)
        have cc := hD.c k hlt
        have cf := hD.fz k hlt
        have hN := hD.put (V' := fill (wy ps) (k + 1)) hlt (fill_new (wy ps) k) (fun j _ hj => fill_old (wy ps) k j hj)
        rw [hv] at hN
        replace hN : Hid _ := hN
        have hltI : (k : Int) < n := by omega
        have hB2 := (balloc hB (.cells #[.int .i64 x, .int .i64 y] 31)).setCell (p := ⟨w1.heap.size, k, none⟩) hs1 (.int .i64 (y - x))
        clear k1 hin hlt1 p1 hz hC hD hv hxy
        go_wp2
        go_roundw
        case rel => exact ⟨k + 1, by omega, by go_num, hN.out, hB2⟩
        case measure => simp [intOf]; omega
      · obtain rfl : n = k := by omega
        go_wp2
        go_ret
        exact ⟨some ⟨w1.heap.size, 0, none⟩, n, by rw [outs_len]; rfl, by rw [outs_len]; exact Nat.le_refl _, (hC.ext fun j hj => (fill_all (wy ps) n j hj).symm).row, hB⟩
  · rw [ways_no h]
    rw [decide_eq_false h] at hr
    generalize ps.length = n at *
    clear h
    go_enter Try.func10, Try.ntmps10
    go_wp2_with (go_at_call 8; refine hr.mono ?_; rintro e w1 ⟨rfl, b1⟩; clear hr)
    go_ret
    exact ⟨none, 0, rfl, Nat.le_refl _, .inl rfl, b1⟩

end Go.Proofs.Ytngmjmehkehbeaa
