/- PROVED: what window.Base and clock.Waits answer. CONDITIONS: none beyond each theorem's own. -/
import Derived.Test.YtngmjmehkehbeaaWays
namespace Go.Proofs.Ytngmjmehkehbeaa
open Go.RowKit

set_option maxHeartbeats 800000 in
theorem base_some (ao : Option Addr) (cap : Nat) (zs : List Int) (u v : Int) (w : World) (hz : Row w ao zs) (hk : zs.length ≤ 8796093022206) (hu : 1 ≤ u) (hu2 : u ≤ 9223372036854775807) (hv : 1 ≤ v) (hv2 : v ≤ 9223372036854775807) :
    Calls Try.prog 18 #[.slice ao zs.length cap, .int .i64 u, .int .i64 v] w (Ans w (base zs u v)) := by
  have hsm : ∀ k, k < zs.length → k + 1 - frB u v k ≤ 8796093022206 := fun k hk => by omega
  have b1 : Below w.heap.size w ((w.alloc (.cells #[.int .i64 u] 3)).alloc (.cells #[.int .i64 v] 3)) := balloc (balloc (Below.refl _ _) _) _
  have hz1 := hz.kept b1
  have hb : ((w.alloc (.cells #[.int .i64 u] 3)).alloc (.cells #[.int .i64 v] 3)).cell? ⟨w.heap.size, 0, none⟩ = some (.int .i64 u) := by
    rw [World.cell?_alloc_past _ _ _ (by simp), World.cell?_alloc_at _ _ _ _ rfl]; rfl
  have hc : ((w.alloc (.cells #[.int .i64 u] 3)).alloc (.cells #[.int .i64 v] 3)).cell? ⟨w.heap.size + 1, 0, none⟩ = some (.int .i64 v) := by rw [World.cell?_alloc_at _ _ _ _ (by simp)]; rfl
  have d1 : decide (u < 1) = false := by simp; omega
  have d2 : decide (v < 1) = false := by simp; omega
  have hS := slide_parts ao cap zs u v w.heap.size (w.heap.size + 1) _ hz1 (by omega) hsm hb hc hu hu2 hv hv2
  have hD : ∀ e w', Slid ((w.alloc (.cells #[.int .i64 u] 3)).alloc (.cells #[.int .i64 v] 3)) zs true (frB u v) e w' → Ans w (base zs u v) e w' := by
    rintro e w' ⟨R, h1, h2, h3, h4, h5⟩
    have hR := base_is hu hv h1 h4
    subst hR
    exact ⟨_, zs.length, by rw [h1]; exact h2, by rw [h1]; exact Nat.le_refl _, h3, bthen b1 h5⟩
  replace hD : Hid _ := hD
  generalize zs.length = n at *
  generalize base zs u v = R at *
  clear hsm hz1 hb hc hz
  go_enter Try.func18, Try.ntmps18
  go_wp2_with (first
    | (go_at_call 24; refine (partsOf_any _ _ _).mono ?_; rintro e w' ⟨rfl, rfl⟩)
    | (go_at_call 22; refine hS.mono ?_; intro e w' hq; clear hS; obtain ⟨ao1, c1, rfl, hc1, g1, g2⟩ := hD.out _ _ hq; clear hq hD))
  go_ret
  exact ⟨ao1, c1, rfl, hc1, g1, g2⟩

theorem base_none (ao : Option Addr) (n cap : Nat) (u v : Int) (w : World) (h : u < 1 ∨ v < 1) :
    Calls Try.prog 18 #[.slice ao n cap, .int .i64 u, .int .i64 v] w fun e w' => e = .returned (.slice none 0 0) ∧ w' = w := by
  by_cases hu : u < 1
  · have d1 : decide (u < 1) = true := by simpa using hu
    go_enter Try.func18, Try.ntmps18
    go_wp2
    go_ret
    exact ⟨rfl, rfl⟩
  · have hv : v < 1 := by omega
    have d1 : decide (u < 1) = false := by simpa using hu
    have d2 : decide (v < 1) = true := by simpa using hv
    go_enter Try.func18, Try.ntmps18
    go_wp2
    go_ret
    exact ⟨rfl, rfl⟩

theorem base_any (ao : Option Addr) (cap : Nat) (zs : List Int) (u v : Int) (w : World) (hz : Row w ao zs) (hk : zs.length ≤ 8796093022206) (hu2 : u ≤ 9223372036854775807) (hv2 : v ≤ 9223372036854775807) :
    Calls Try.prog 18 #[.slice ao zs.length cap, .int .i64 u, .int .i64 v] w (Ans w (base zs u v)) := by
  by_cases h : 1 ≤ u ∧ 1 ≤ v
  · exact base_some ao cap zs u v w hz hk h.1 hu2 h.2 hv2
  · rw [base_no zs (by omega)]
    exact (base_none ao zs.length cap u v w (by omega)).mono fun e w' ⟨a, b⟩ => ⟨none, 0, a, Nat.le_refl _, .inl rfl, b ▸ Below.refl _ _⟩

set_option maxHeartbeats 1600000 in
theorem waits_any (a : Option Addr) (cap : Nat) (ps : Rs) (u v : Int) (w : World) (hz : PRow w a ps) (hl : ps.length ≤ 8796093022206) (hu2 : u ≤ 9223372036854775807) (hv2 : v ≤ 9223372036854775807) :
    Calls Try.prog 11 #[.slice a ps.length cap, .int .i64 u, .int .i64 v] w (Ans w (waits ps u v)) := by
  have hy := ways_any a cap ps w hz hl
  have h1 := ways_le ps
  have h2 := base_le (ways ps) u v
  have hin : Hid (∀ k, k < (base (ways ps) u v).length → (-2199023255552 ≤ (ways ps).getD k 0 ∧ (ways ps).getD k 0 ≤ 2199023255552) ∧ -2199023255552 ≤ (base (ways ps) u v).getD k 0 ∧ (base (ways ps) u v).getD k 0 ≤ 2199023255552) := fun k hk => ⟨ways_in ps k (by omega), base_in (ways_in ps) k hk⟩
  have hb := fun ao c w1 (hq : Row w1 ao (ways ps)) => base_any ao c (ways ps) u v w1 hq (by omega) hu2 hv2
  unfold waits
  obtain ⟨m, hm⟩ : ∃ m, (base (ways ps) u v).length = m := ⟨_, rfl⟩
  obtain ⟨q, hq⟩ : ∃ q, (ways ps).length = q := ⟨_, rfl⟩
  obtain ⟨H, hH⟩ : ∃ H : Nat → Int, H = fun k => (ways ps).getD k 0 - (base (ways ps) u v).getD k 0 := ⟨_, rfl⟩
  rw [← hH]
  replace hH : Hid (∀ k, H k = (ways ps).getD k 0 - (base (ways ps) u v).getD k 0) := fun k => by rw [hH]
  unfold Ans at hy hb
  generalize base (ways ps) u v = B at *
  generalize ways ps = Y at *
  generalize ps.length = n at *
  rw [hm] at h2 hin ⊢
  simp only [hm] at hb
  rw [hq] at h1 h2 hb
  simp only [hq] at hy
  have hm' : Hid (∀ k, k < m → k < B.length ∧ k < Y.length) := fun k hk => ⟨by omega, by omega⟩
  replace hb : Hid _ := hb
  clear hm hq hz
  have hmk := run_make_row' (P := Try.prog) 23 3 (.int .i64 0) 8 Try.underlying23 Try.info3 rfl .i64 .i64 m (by omega) (by omega)
  go_enter Try.func11, Try.ntmps11
  go_wp2_with (first
    | (go_at_call 10; refine hy.mono ?_; rintro e w1 ⟨ay, cy, rfl, _, ry, b1⟩; clear hy)
    | (go_at_call 18; refine (hb.out ay cy w1 ry).mono ?_; rintro e w2 ⟨ab, cb, rfl, _, rb, b2⟩; clear hb; replace ry := ry.kept b2; replace b1 := bthen b1 b2; clear b2))
  have hst : Cells (w2.alloc (.cells (madeCells #[.int .i64 0] m) 3)) w2.heap.size m (fill H 0) := Cells.start w2 m _ fun j _ => rfl
  have hB0 : Below w.heap.size w (w2.alloc (.cells (madeCells #[.int .i64 0] m) 3)) := balloc b1 _
  have hB1 : Below w2.heap.size w2 (w2.alloc (.cells (madeCells #[.int .i64 0] m) 3)) := balloc (Below.refl _ _) _
  have hs1 := b1.size
  go_loopw [22] (fun i wr => ∃ k : Nat, k ≤ m ∧ i = .int .i64 k ∧ Cells wr w2.heap.size m (fill H k) ∧ Below w.heap.size w wr ∧ Below w2.heap.size w2 wr) (fun i _ => m - (intOf i).toNat)
  case atStart => exact ⟨0, Nat.zero_le _, rfl, hst, hB0, hB1⟩
  case round =>
    obtain ⟨k, hk, rfl, hC, hB, hB2⟩ := hrel
    clear hst hB0 hmk hB1
    by_cases hlt : k < m
    · obtain ⟨p1, p2⟩ := hm'.out k hlt
      obtain ⟨g1, o1, rfl, k1⟩ := (ry.kept hB2).at (by omega)
      obtain ⟨g2, o2, rfl, k2⟩ := (rb.kept hB2).at (by omega)
      have cx := k1 k p2
      have cy := k2 k p1
      have hA := hin.out k hlt
      have cc := hC.c k hlt
      have cf := hC.fz k hlt
      have hN := fun q => (hC.drewN q).put (V' := fill H (k + 1)) hlt (fill_new H k) (fun j _ hj => fill_old H k j hj)
      have hX : Hid (H k = Y.getD k 0 - B.getD k 0) := hH.out k
      generalize H k = X at hN hX
      generalize Y.getD k 0 = x at cx hX hA
      generalize B.getD k 0 = y at cy hX hA
      have hw : IntKind.i64.wrap (x - y) = x - y := wrap_in (by omega)
      replace hN : Hid _ := hN
      have hl1 : (k : Int) < m := by omega
      have hl2 : (k : Int) < q := by omega
      clear k1 k2 ry rb hH hC hin hm' p1 p2
      go_wp2
      go_region
      all_goals
        go_wp2
        go_roundw
        case rel => exact ⟨k + 1, by omega, by go_num, hX.out ▸ hN.out 1, (below_drewN hB 1).setCell (p := ⟨w2.heap.size, k, none⟩) hs1 _, (below_drewN hB2 1).setCell (p := ⟨w2.heap.size, k, none⟩) (Nat.le_refl _) _⟩
        case measure => simp [intOf]; omega
    · obtain rfl : m = k := by omega
      go_wp2
      go_ret
      exact ⟨some ⟨w2.heap.size, 0, none⟩, m, by rw [outs_len]; rfl, by rw [outs_len]; exact Nat.le_refl _, (hC.ext fun j hj => (fill_all H m j hj).symm).row, hB⟩

end Go.Proofs.Ytngmjmehkehbeaa
