/- PROVED: what Close answers. CONDITIONS: none beyond each theorem's own. -/
import Derived.Test.YtohfgaipalpncabConv
namespace Go.Proofs.Ytohfgaipalpncab
open Go.RowKit

/-- the first k are closed, the next one is x -/
def mid (C : Nat → Int) (k : Nat) (x : Int) (j : Nat) : Int := if j < k then C j else if j = k then x else 0

set_option maxHeartbeats 1600000 in
theorem close_any (a1 : Option Addr) (c1 : Nat) (f : List Int) (w : World) (k1 : Row w a1 f) (h1 : f.length ≤ 17592186044416) :
    Calls Try.prog 9 #[.slice a1 f.length c1] w (Ans w (close f)) := by
  unfold close
  have hq : ∀ t, 0 < t → cv (fun j => if j < t then clf (fun j => f.getD j 0) j else f.getD t 0) (fun j => if j < t then clf (fun j => f.getD j 0) j else f.getD t 0) t = clf (fun j => f.getD j 0) t := fun t ht => (clf_eq (fun j => f.getD j 0) t ht).symm
  have hz : clf (fun j => f.getD j 0) 0 = 0 := rfl
  generalize clf (fun j => f.getD j 0) = C at hq hz ⊢
  have hmk := run_make_row' (P := Try.prog) 25 3 (.int .i64 0) 8 Try.underlying25 Try.info3 rfl .i64 .i64 f.length (by omega) (by omega)
  have hst : Cells (w.alloc (.cells (madeCells #[.int .i64 0] f.length) 3)) w.heap.size f.length (fill C 1) := Cells.start w _ _ fun j _ => by
    unfold fill
    by_cases e : j < 1
    · rw [if_pos e, show j = 0 by omega, hz]
    · rw [if_neg e]
  have hB0 : Below w.heap.size w (w.alloc (.cells (madeCells #[.int .i64 0] f.length) 3)) := balloc (Below.refl _ _) _
  have HZ : Hid (C 0 = 0) := hz
  clear hz
  go_enter Try.func9, Try.ntmps9
  go_wp2
  go_loopw [4] (fun i wr => ∃ k : Nat, 1 ≤ k ∧ k ≤ f.length + 1 ∧ i = .int .i64 k ∧ Cells wr w.heap.size f.length (fill C k) ∧ Below w.heap.size w wr) (fun i _ => f.length + 1 - (intOf i).toNat)
  case atStart => exact ⟨1, Nat.le_refl _, by omega, rfl, hst, hB0⟩
  case round =>
    obtain ⟨k, hk1, hk, rfl, hC, hB⟩ := hrel
    clear hst hB0
    by_cases hlt : k < f.length
    · obtain ⟨b1, o1, rfl, e1⟩ := k1.at (by omega)
      have cx := cells_kept (F := fun j => f.getD j 0) e1 hB k hlt
      have hv := hq k (by omega)
      generalize f.getD k 0 = x at cx hv
      have cc := hC.c k hlt
      have cf := hC.fz k hlt
      have hM : Cells (wr.setCell ⟨w.heap.size, k, none⟩ (.int .i64 x)) w.heap.size f.length (mid C k x) := hC.put hlt (by unfold mid; rw [if_neg (by omega), if_pos rfl]) (fun j _ hj => by
        unfold mid fill
        by_cases e : j < k
        · rw [if_pos e, if_pos e]
        · rw [if_neg e, if_neg e, if_neg hj])
      have hBM : Below w.heap.size w (wr.setCell ⟨w.heap.size, k, none⟩ (.int .i64 x)) := hB.setCell (p := ⟨w.heap.size, k, none⟩) (Nat.le_refl _) _
      have hMc : ∀ j, j ≤ k → (wr.setCell ⟨w.heap.size, k, none⟩ (.int .i64 x)).cell? ⟨w.heap.size, 0 + j, none⟩ = some (.int .i64 (if j < k then C j else x)) := fun j hj => by
        rw [Nat.zero_add, hM.c j (by omega)]
        unfold mid
        by_cases e : j < k
        · rw [if_pos e, if_pos e]
        · rw [if_neg e, if_neg e, if_pos (by omega)]
      have hs := leastSum_any w.heap.size 0 f.length f.length w.heap.size 0 f.length f.length k _ _ _ hMc hMc (by omega) (by omega) (by omega)
      rw [hv] at hs
      have hN := fun q => (hM.drewN q).put (V' := fill C (k + 1)) hlt (fill_new C k) (fun j _ hj => by
        rw [fill_old C k j hj]
        unfold mid fill
        by_cases e : j < k
        · rw [if_pos e, if_pos e]
        · rw [if_neg e, if_neg e, if_neg hj])
      have cm := hM.c k hlt
      have cmf := hM.fz k hlt
      have hltI : (k : Int) < f.length := by omega
      clear e1 k1 hmk hq hv hMc hM hC hB
      generalize C k = y at hs hN
      obtain ⟨w1, hw1⟩ : ∃ w1, wr.setCell ⟨w.heap.size, k, none⟩ (.int .i64 x) = w1 := ⟨_, rfl⟩
      rw [hw1] at hs hN cm cmf hBM
      go_wp2_with (go_at_call 17; refine hs.mono ?_; rintro e w'' ⟨rfl, q, rfl⟩; clear hs)
      go_roundw
      case rel => exact ⟨k + 1, by omega, by omega, by go_num, hN q, (below_drewN hBM q).setCell (p := ⟨w.heap.size, k, none⟩) (Nat.le_refl _) _⟩
      case measure => simp [intOf]; omega
    · have hltI : ¬ (k : Int) < f.length := by omega
      go_wp2
      go_ret
      exact (hC.ext fun j hj => (fill_all C k j (by omega)).symm).done hB

end Go.Proofs.Ytohfgaipalpncab
