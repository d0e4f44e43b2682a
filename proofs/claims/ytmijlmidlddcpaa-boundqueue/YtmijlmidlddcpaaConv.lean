/- PROVED: what Conv and Over answer. CONDITIONS: none beyond each theorem's own. -/
import Derived.Test.YtmijlmidlddcpaaSum
namespace Go.Proofs.Ytmijlmidlddcpaa
open Go.RowKit

/-- n numbers that may be written, in block O -/
structure Cells (w : World) (O n : Nat) (V : Nat → Int) : Prop where
  c : ∀ j, j < n → w.cell? ⟨O, j, none⟩ = some (.int .i64 (V j))
  fz : ∀ j, j < n → w.frozen? ⟨O, j, none⟩ = false
theorem Cells.start (w : World) (n : Nat) (V : Nat → Int) (hV : ∀ j, j < n → V j = 0) : Cells (w.alloc (.cells (madeCells #[.int .i64 0] n) 3)) w.heap.size n V := by
  refine ⟨fun j hj => ?_, fun j hj => ?_⟩
  · rw [World.cell?_alloc_at _ _ _ _ rfl, hV j hj]
    simp [madeCells, hj, Nat.mod_one]
  · rw [World.frozen?_alloc_at _ _ _ _ rfl]
theorem Cells.put {w : World} {O n : Nat} {V V' : Nat → Int} (h : Cells w O n V) {k : Nat} (hk : k < n) {v : Int} (hv : V' k = v) (hj : ∀ j, j < n → j ≠ k → V' j = V j) : Cells (w.setCell ⟨O, k, none⟩ (.int .i64 v)) O n V' := by
  refine ⟨fun j hjn => ?_, fun j hjn => ?_⟩
  · by_cases e : j = k
    · subst e; subst hv
      exact World.cell?_setCell_same _ _ _ (h.c j hk)
    · rw [World.cell?_setCell_other _ _ _ _ (fun q => e (by injection q with _ q _; exact q.symm)), hj j hjn e]
      exact h.c j hjn
  · rw [World.frozen?_setCell]; exact h.fz j hjn
theorem Cells.drewN {w : World} {O n : Nat} {V : Nat → Int} (h : Cells w O n V) (q : Nat) : Cells (w.drewN q) O n V := ⟨h.c, h.fz⟩
theorem Cells.ext {w : World} {O n : Nat} {V V' : Nat → Int} (h : Cells w O n V) (e : ∀ j, j < n → V' j = V j) : Cells w O n V' := ⟨fun j hj => by rw [e j hj]; exact h.c j hj, h.fz⟩
theorem Cells.row {w : World} {O n : Nat} {f : Nat → Int} (h : Cells w O n f) : Row w (some ⟨O, 0, none⟩) (outs f n) := .inr ⟨O, 0, rfl, fun j hj => by
  rw [outs_len] at hj
  rw [Nat.zero_add, outs_getD _ _ _ hj]; exact h.c j hj⟩
/-- the first k are there -/
def fill (f : Nat → Int) (k j : Nat) : Int := if j < k then f j else 0
theorem fill_new (f : Nat → Int) (k : Nat) : fill f (k + 1) k = f k := by unfold fill; rw [if_pos (by omega)]
theorem fill_old (f : Nat → Int) (k j : Nat) (h : j ≠ k) : fill f (k + 1) j = fill f k j := by
  unfold fill
  by_cases e : j < k
  · rw [if_pos e, if_pos (by omega)]
  · rw [if_neg e, if_neg (by omega)]
theorem fill_all (f : Nat → Int) (n j : Nat) (h : j < n) : fill f n j = f j := by unfold fill; rw [if_pos h]

theorem Cells.done {w wr : World} {n : Nat} {f : Nat → Int} (h : Cells wr w.heap.size n f) (hb : Below w.heap.size w wr) : Ans w (outs f n) (.returned (.slice (some ⟨w.heap.size, 0, none⟩) n n)) wr :=
  ⟨_, n, by rw [outs_len], by rw [outs_len]; exact Nat.le_refl _, h.row, hb⟩
theorem cells_kept {w wr : World} {b o n : Nat} {F : Nat → Int} (h : ∀ j, j < n → w.cell? ⟨b, o + j, none⟩ = some (.int .i64 (F j))) (hb : Below w.heap.size w wr) (j : Nat) (hj : j < n) : wr.cell? ⟨b, o + j, none⟩ = some (.int .i64 (F j)) :=
  (hb.cell (p := ⟨b, o + j, none⟩) (block_lt (h j hj))).trans (h j hj)

set_option maxHeartbeats 1600000 in
theorem conv_any (a1 a2 : Option Addr) (c1 c2 : Nat) (f g : List Int) (w : World) (k1 : Row w a1 f) (k2 : Row w a2 g) (h1 : f.length ≤ 17592186044416) (h2 : g.length ≤ 17592186044416) :
    Calls Try.prog 26 #[.slice a1 f.length c1, .slice a2 g.length c2] w (Ans w (conv f g)) := by
  obtain ⟨m, hm⟩ : ∃ m, min f.length g.length = m := ⟨_, rfl⟩
  have hmi : min (f.length : Int) (g.length : Int) = (m : Int) := by omega
  have hm1 : m ≤ f.length := by omega
  have hm2 : m ≤ g.length := by omega
  unfold conv
  rw [hm]
  clear hm
  generalize hH : cv (fun j => f.getD j 0) (fun j => g.getD j 0) = H
  have HH : Hid (cv (fun j => f.getD j 0) (fun j => g.getD j 0) = H) := hH
  clear hH
  have hmk := run_make_row' (P := Try.prog) 22 3 (.int .i64 0) 8 Try.underlying22 Try.info3 rfl .i64 .i64 m (by omega) (by omega)
  have hst : Cells (w.alloc (.cells (madeCells #[.int .i64 0] m) 3)) w.heap.size m (fill H 0) := Cells.start w m _ fun j _ => rfl
  have hB0 : Below w.heap.size w (w.alloc (.cells (madeCells #[.int .i64 0] m) 3)) := balloc (Below.refl _ _) _
  go_enter Try.func26, Try.ntmps26
  go_wp2
  go_loopw [15] (fun i wr => ∃ k : Nat, k ≤ m ∧ i = .int .i64 k ∧ Cells wr w.heap.size m (fill H k) ∧ Below w.heap.size w wr) (fun i _ => m - (intOf i).toNat)
  case atStart => exact ⟨0, Nat.zero_le _, rfl, hst, hB0⟩
  case round =>
    obtain ⟨k, hk, rfl, hC, hB⟩ := hrel
    clear hst hB0
    by_cases hlt : k < m
    · obtain ⟨b1, o1, rfl, e1⟩ := k1.at (by omega)
      obtain ⟨b2, o2, rfl, e2⟩ := k2.at (by omega)
      have hs := leastSum_any b1 o1 f.length c1 b2 o2 g.length c2 k (fun j => f.getD j 0) (fun j => g.getD j 0) wr (fun j hj => cells_kept (F := fun j => f.getD j 0) e1 hB j (by omega)) (fun j hj => cells_kept (F := fun j => g.getD j 0) e2 hB j (by omega)) (by omega) (by omega) (by omega)
      rw [HH.out] at hs
      have cc := hC.c k hlt
      have cf := hC.fz k hlt
      have hN := fun q => (hC.drewN q).put (V' := fill H (k + 1)) hlt (fill_new H k) (fun j _ hj => fill_old H k j hj)
      have hltI : (k : Int) < m := by omega
      clear e1 e2 k1 k2 hmk
      generalize H k = y at hs hN
      go_wp2_with (go_at_call 48; refine hs.mono ?_; rintro e w'' ⟨rfl, q, rfl⟩; clear hs)
      go_roundw
      case rel => exact ⟨k + 1, by omega, by go_num, hN q, (below_drewN hB q).setCell (p := ⟨w.heap.size, k, none⟩) (Nat.le_refl _) _⟩
      case measure => simp [intOf]; omega
    · obtain rfl : k = m := by omega
      go_wp2
      go_ret
      exact (hC.ext fun j hj => (fill_all H k j hj).symm).done hB

set_option maxHeartbeats 1600000 in
theorem over_any (a1 a2 : Option Addr) (c1 c2 : Nat) (f g : List Int) (w : World) (k1 : Row w a1 f) (k2 : Row w a2 g) (h1 : f.length ≤ 17592186044416) (h2 : g.length ≤ 17592186044416) (hc : f.length ≤ c1) :
    Calls Try.prog 41 #[.slice a1 f.length c1, .slice a2 g.length c2] w (Ans w (over f g)) := by
  unfold over
  generalize hH : ov (fun j => f.getD j 0) (fun j => g.getD j 0) f.length g.length = H
  have HH : Hid (ov (fun j => f.getD j 0) (fun j => g.getD j 0) f.length g.length = H) := hH
  clear hH
  have hmk := run_make_row' (P := Try.prog) 22 3 (.int .i64 0) 8 Try.underlying22 Try.info3 rfl .i64 .i64 f.length (by omega) (by omega)
  have hst : Cells (w.alloc (.cells (madeCells #[.int .i64 0] f.length) 3)) w.heap.size f.length (fill H 0) := Cells.start w _ _ fun j _ => rfl
  have hB0 : Below w.heap.size w (w.alloc (.cells (madeCells #[.int .i64 0] f.length) 3)) := balloc (Below.refl _ _) _
  go_enter Try.func41, Try.ntmps41
  go_wp2
  go_loopw [12] (fun i wr => ∃ k : Nat, k ≤ f.length ∧ i = .int .i64 k ∧ Cells wr w.heap.size f.length (fill H k) ∧ Below w.heap.size w wr) (fun i _ => f.length - (intOf i).toNat)
  case atStart => exact ⟨0, Nat.zero_le _, rfl, hst, hB0⟩
  case round =>
    obtain ⟨k, hk, rfl, hC, hB⟩ := hrel
    clear hst hB0
    by_cases hlt : k < f.length
    · obtain ⟨b1, o1, rfl, e1⟩ := k1.at (by omega)
      have hs := mostOver_any b1 (o1 + k) (f.length - k) (c1 - k) a2 c2 (fun u => f.getD (k + u) 0) g wr (fun j hj => by rw [Nat.add_assoc]; exact cells_kept (F := fun j => f.getD j 0) e1 hB (k + j) (by omega)) (k2.kept hB) (by omega) h2
      have hv : mo (fun u => f.getD (k + u) 0) (fun j => g.getD j 0) (min (f.length - k) g.length) = H k := by rw [← HH.out]; rfl
      rw [hv] at hs
      have cc := hC.c k hlt
      have cf := hC.fz k hlt
      have hN := fun q => (hC.drewN q).put (V' := fill H (k + 1)) hlt (fill_new H k) (fun j _ hj => fill_old H k j hj)
      have hltI : (k : Int) < f.length := by omega
      have hlc : k < c1 := by omega
      clear e1 k1 k2 hmk hv
      generalize H k = y at hs hN
      go_wp2_with (go_at_call 52; refine hs.mono ?_; rintro e w'' ⟨rfl, q, rfl⟩; clear hs)
      go_roundw
      case rel => exact ⟨k + 1, by omega, by go_num, hN q, (below_drewN hB q).setCell (p := ⟨w.heap.size, k, none⟩) (Nat.le_refl _) _⟩
      case measure => simp [intOf]; omega
    · obtain e : k = f.length := by omega
      subst e
      go_wp2
      go_ret
      exact (hC.ext fun j hj => (fill_all H f.length j hj).symm).done hB

end Go.Proofs.Ytmijlmidlddcpaa
