/- PROVED: what Spread answers. CONDITIONS: none beyond each theorem's own. -/
import Derived.Test.YtgfmaolifnnkgaaSmooth
import Derived.Deep.RegionWith
namespace Go.Proofs.Ytgfmaolifnnkgaa
open Go.RowKit

theorem wrapEq (x : Int) : IntKind.i64.wrap x = wrap64 x := by rw [IntKind.wrap_i64]; unfold wrap64; rfl
theorem wrap_in {x : Int} (h : -9223372036854775808 ≤ x ∧ x ≤ 9223372036854775807) : IntKind.i64.wrap x = x := by rw [wrapEq]; exact IntWalk.wrap64_in _ h

/-- the state at a round's head -/
structure Fa (w : World) (N : Int) (f : Nat → Int) (n k : Nat) (wr : World) : Prop where
  out : Out wr w.heap.size n (fars N f k)
  below : Below w.heap.size w wr
theorem Fa.start (w : World) (N : Int) (f : Nat → Int) (n : Nat) : Fa w N f n 0 (w.alloc (.cells (madeCells #[.int .i64 0] n) 3)) :=
  ⟨Out.start w n, balloc (Below.refl _ _) _⟩
theorem Fa.step {w : World} {N : Int} {f : Nat → Int} {n k : Nat} {wr : World} (h : Fa w N f n k wr) (hk : k < n) {v : Int} (hv : v = far N f k) :
    Fa w N f n (k + 1) (wr.setCell ⟨w.heap.size, k, none⟩ (.int .i64 v)) := by
  subst hv
  refine ⟨?_, h.below.setCell (p := ⟨w.heap.size, k, none⟩) (Nat.le_refl _) _⟩
  have := h.out.put (by rw [fars_len]; exact hk) (far N f k)
  rw [fars_len] at this
  rw [fars_succ]; exact this
theorem Fa.drew {w : World} {N : Int} {f : Nat → Int} {n k : Nat} {wr : World} (h : Fa w N f n k wr) : Fa w N f n k wr.drew := ⟨h.out.drewN 1, h.below.drew⟩

theorem spread_eq (zs : List Int) (s : Int) : spread zs s = smooth (fars (pw s) (fun j => zs.getD j 0) (smooth zs s).length) s := by
  cases h : okS s with
  | false => rw [spread_no h, smooth_no h]
  | true => rw [spread_ok h, smooth_len h]
theorem smooth_told (zs : List Int) (s : Int) (j : Nat) (hj : j < (smooth zs s).length) : (smooth zs s).getD j 0 = told (pw s) (fun j => zs.getD j 0) j := by
  cases h : okS s with
  | false => rw [smooth_no h] at hj; simp at hj
  | true => rw [smooth_len h] at hj; rw [smooth_ok h, outs_getD _ _ _ _ hj]

set_option maxHeartbeats 3200000 in
theorem spread_any (ao : Option Addr) (cap : Nat) (zs : List Int) (s : Int) (w : World) (hz : Row w ao zs) (hk : zs.length ≤ 35184372088832) :
    Calls Try.prog 10 #[.slice ao zs.length cap, .int .i64 s] w (Ans w (spread zs s)) := by
  have hT := smooth_told zs s
  have hL := smooth_le zs s
  have hS0 := smooth_any ao cap zs s w hz hk
  rw [spread_eq]
  generalize smooth zs s = R1 at hT hL hS0 ⊢
  have hN := pw_pos s
  generalize pw s = N at hT hN ⊢
  obtain ⟨n, hn⟩ : ∃ n, R1.length = n := ⟨_, rfl⟩
  rw [hn] at hT hL ⊢
  have hmk := run_make_row' (P := Try.prog) 22 3 (.int .i64 0) 8 Try.underlying22 Try.info3 rfl .i64 .i64 n (by omega) (by omega)
  go_enter Try.func10, Try.ntmps10
  go_wp2_with (go_at_call 8; refine hS0.mono ?_; rintro e w1 ⟨ao1, cap1, he, hr1, b1⟩; rw [hn] at he; subst he; have hz1 := hz.kept b1; have hst := Fa.start w1 N (fun j => zs.getD j 0) n; clear hS0 hz)
  go_loopw [16] (fun i wr => ∃ k : Nat, k ≤ n ∧ i = .int .i64 k ∧ Fa w1 N (fun j => zs.getD j 0) n k wr) (fun i _ => n - (intOf i).toNat)
  case atStart => exact ⟨0, Nat.zero_le _, rfl, hst⟩
  case round =>
    obtain ⟨k, hkn, rfl, hF⟩ := hrel
    clear hst hmk
    by_cases hlt : k < n
    · obtain ⟨g, off, rfl, hcz⟩ := hz1.at (by omega)
      obtain ⟨g1, off1, rfl, hc1⟩ := hr1.at (by omega)
      obtain ⟨p, hp⟩ : ∃ p, p = k - 1 := ⟨_, rfl⟩
      have hmx : max ((k : Int) - 1) 0 = (p : Int) := by omega
      have hx : wr.cell? ⟨g, off + k, none⟩ = some (.int .i64 (zs.getD k 0)) := (hF.below.cell (p := ⟨g, off + k, none⟩) (block_lt (hcz k (by omega)))).trans (hcz k (by omega))
      have hy : wr.cell? ⟨g1, off1 + p, none⟩ = some (.int .i64 (R1.getD p 0)) := (hF.below.cell (p := ⟨g1, off1 + p, none⟩) (block_lt (hc1 p (by omega)))).trans (hc1 p (by omega))
      rw [hT p (by omega)] at hy
      have cl := cnt_lo (zs.getD k 0)
      have ch := cnt_hi (zs.getD k 0)
      have tl := told_lo N (fun j => zs.getD j 0) hN p
      have th := told_hi N (fun j => zs.getD j 0) hN p
      have hSt : ∀ v, v = apart (cnt (zs.getD k 0)) (told N (fun j => zs.getD j 0) p) → Fa w1 N (fun j => zs.getD j 0) n (k + 1) (wr.setCell ⟨w1.heap.size, k, none⟩ (.int .i64 v)).drew := fun v hv => (hF.step hlt (v := v) (by rw [hv, hp]; rfl)).drew
      obtain ⟨u2, hu2⟩ := Option.isSome_iff_exists.1 (hF.out.room k hlt).1
      have hf2 := (hF.out.room k hlt).2
      generalize told N (fun j => zs.getD j 0) p = t at hy tl th hSt
      generalize zs.getD k 0 = x at hx cl ch hSt
      have HP : Hid (p = k - 1) := hp
      have hwr : IntKind.i64.wrap ((k : Int) - 1) = (k : Int) - 1 := wrap_in (by omega)
      have hpn : (p : Int) < (n : Int) := by omega
      have hkn2 : (k : Int) < (n : Int) := by omega
      have hkn3 : (k : Int) < (zs.length : Int) := by omega
      clear hcz hc1 hr1 hz1 hp hT
      go_wp2_with fail
      go_region_with (first
        | (go_at_call 15; refine (count_any _ _).mono ?_; rintro e w' ⟨rfl, rfl⟩)
        | (go_at_call 17; refine (distance_any _ _ _ cl ch tl th).mono ?_; rintro e w' ⟨rfl, rfl⟩))
      all_goals
        go_wp2
        go_roundw
        case rel => exact ⟨k + 1, by omega, by go_num, hSt _ rfl⟩
        case measure => simp [intOf]; omega
    · have e : k = n := by omega
      subst e
      have hO := hF.out.row
      have hB := bthen b1 hF.below
      have hS1 := smooth_any (some ⟨w1.heap.size, 0, none⟩) k (fars N (fun j => zs.getD j 0) k) s wr hO (by rw [fars_len]; omega)
      rw [fars_len] at hS1
      go_wp2_with (go_at_call 8; refine hS1.mono ?_; rintro e w2 ⟨ao2, cap2, rfl, hr2, b2⟩; clear hS1)
      go_ret
      exact ⟨ao2, cap2, rfl, hr2, bthen hB b2⟩
end Go.Proofs.Ytgfmaolifnnkgaa
