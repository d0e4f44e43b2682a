/- PROVED: what bound.High, Serves and Keeps answer. CONDITIONS: none beyond each theorem's own. -/
import Derived.Test.YtjageagnclmnjabGreatDoorW39BFlow
import Derived.Test.YtjageagnclmnjabGreatDoorW43BOf
import Derived.Test.YtjageagnclmnjabGreatDoorW46BBound
namespace Go.Proofs.YtjageagnclmnjabGreatDoor.B
set_option maxRecDepth 100000
open Go.RowKit

set_option maxHeartbeats 1600000 in
theorem serves_any (R L n : Int) (hR0 : -9223372036854775808 ≤ R ∧ R ≤ 9223372036854775807) (hL0 : -9223372036854775808 ≤ L ∧ L ≤ 9223372036854775807) (hn0 : -9223372036854775808 ≤ n ∧ n ≤ 9223372036854775807) (w : World) :
    Calls Tryz.prog 14 #[.int .i64 R, .int .i64 L, .int .i64 n] w (Ans w (serves R L n)) := by
  by_cases h : inr R ∧ 0 ≤ L
  · have e0 : serves R L n = outs (sv R L) (many n) := by unfold serves; rw [if_pos h]
    rw [e0]
    clear e0
    obtain ⟨M, hM⟩ : ∃ M, many n = M := ⟨_, rfl⟩
    have hMi : min (max n 0) 300 = (M : Int) := by rw [← hM]; unfold many; omega
    have hM3 : M ≤ 300 := by omega
    rw [hM]
    clear hM hn0
    obtain ⟨hR, hL⟩ := h
    have hsv : Hid (∀ t : Nat, t < 300 → 0 ≤ sv R L t ∧ sv R L t ≤ 329853488332800) := fun t ht => sv_in hR t ht hL
    have hR1 := hR.1
    have hR2 := hR.2
    clear hR hR0
    have hmk := run_make_row' (P := Tryz.prog) 24 3 (.int .i64 0) 8 Tryz.underlying24 Tryz.info3 rfl .i64 .i64 M (by omega) (by omega)
    have hst : Cells (w.alloc (.cells (madeCells #[.int .i64 0] M) 3)) w.heap.size M (fill (sv R L) 0) := Cells.start w _ _ fun j _ => rfl
    have hB0 : Below w.heap.size w (w.alloc (.cells (madeCells #[.int .i64 0] M) 3)) := balloc (Below.refl _ _) _
    go_enter Tryz.func14, Tryz.ntmps14
    go_wp2
    go_loopw [25] (fun i wr => ∃ k : Nat, k ≤ M ∧ i = .int .i64 k ∧ Cells wr w.heap.size M (fill (sv R L) k) ∧ Below w.heap.size w wr) (fun i _ => M - (intOf i).toNat)
    case atStart => exact ⟨0, Nat.zero_le _, rfl, hst, hB0⟩
    case round =>
      obtain ⟨k, hk, rfl, hC, hB⟩ := hrel
      clear hst hB0 hmk
      by_cases hlt : k < M
      · have cc := hC.c k hlt
        have cf := hC.fz k hlt
        have hN := hC.put (V' := fill (sv R L) (k + 1)) hlt (fill_new (sv R L) k) (fun j _ hj => fill_old (sv R L) k j hj)
        have hX := hsv.out k (by omega)
        obtain ⟨X, hXe⟩ : ∃ X, sv R L k = X := ⟨_, rfl⟩
        rw [hXe] at hX hN
        unfold sv at hXe
        have hltI : (k : Int) < M := by omega
        replace hN : Hid _ := hN
        go_wp2
        go_roundw
        case rel => exact ⟨k + 1, by omega, by go_num, hN.out, hB.setCell (p := ⟨w.heap.size, k, none⟩) (Nat.le_refl _) _⟩
        case measure => simp [intOf]; omega
      · obtain e : k = M := by omega
        subst e
        go_wp2
        go_ret
        exact (hC.ext fun j hj => (fill_all (sv R L) k j hj).symm).done hB
  · have e0 : serves R L n = [] := by unfold serves; rw [if_neg h]
    rw [e0]
    by_cases c1 : R < 0
    · go_enter Tryz.func14, Tryz.ntmps14
      go_wp2
      go_ret
      exact ⟨none, 0, rfl, Nat.le_refl _, .inl rfl, Below.refl _ _⟩
    · by_cases c2 : 1099511627776 < R
      · go_enter Tryz.func14, Tryz.ntmps14
        go_wp2
        go_ret
        exact ⟨none, 0, rfl, Nat.le_refl _, .inl rfl, Below.refl _ _⟩
      · have c3 : L < 0 := by unfold inr at h; omega
        go_enter Tryz.func14, Tryz.ntmps14
        go_wp2
        go_ret
        exact ⟨none, 0, rfl, Nat.le_refl _, .inl rfl, Below.refl _ _⟩

end Go.Proofs.YtjageagnclmnjabGreatDoor.B
