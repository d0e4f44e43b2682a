/- PROVED: what Of, At and Right answer. CONDITIONS: none beyond each theorem's own. -/
import Derived.Test.YtjageagnclmnjabGreatDoorW38BAns
namespace Go.Proofs.YtjageagnclmnjabGreatDoor.B
set_option maxRecDepth 100000
open Go.RowKit

theorem Gath.one (w : World) (x : Int) : Gath w (.slice (some ⟨w.heap.size, 0, none⟩) 1 1) (w.alloc (.cells #[.int .i64 x] 3)) [x] :=
  ⟨⟨rfl, .inr ⟨w.heap.size, 1, #[.int .i64 x], rfl, Nat.le_refl _, (by show (w.heap.push _)[w.heap.size]? = _; simp), Nat.le_refl _, by unfold maxLen; omega, rfl, rfl⟩⟩, balloc (Below.refl _ _) _⟩

set_option maxHeartbeats 1600000 in
theorem of_any (a : Option Addr) (cap : Nat) (z : List Int) (w : World) (hz : Row w a z) (hl : z.length ≤ 17592186044415) :
    Calls Tryz.prog 16 #[.slice a z.length cap] w (Ans w (of z)) := by
  obtain ⟨i0, hi, hz0, hz1, hz2⟩ := info_parts Tryz.info3
  have hst : Gath w (.slice (some ⟨w.heap.size, 0, none⟩) 1 1) (w.alloc (.cells #[.int .i64 0] 3)) (outs (psum fun j => z.getD j 0) (0 + 1)) := Gath.one w 0
  go_enter Tryz.func16, Tryz.ntmps16
  go_wp2
  go_loopw [3, 4, 11] (fun s t i wr => ∃ k : Nat, k ≤ z.length ∧ i = .int .i64 k ∧ s = .int .i64 (psum (fun j => z.getD j 0) k) ∧ Gath w t wr (outs (psum fun j => z.getD j 0) (k + 1))) (fun _ _ i _ => z.length - (intOf i).toNat)
  case atStart => exact ⟨0, Nat.zero_le _, rfl, rfl, hst⟩
  case round =>
    obtain ⟨k, hkn, rfl, rfl, hG⟩ := hrel
    by_cases hlt : k < z.length
    · obtain ⟨g, off, rfl, hcz⟩ := hz.at (by omega)
      have hx := (hG.below.cell (p := ⟨g, off + k, none⟩) (block_lt (hcz k hlt))).trans (hcz k hlt)
      have ho1 := hG.own
      have hRl := outs_len (psum fun j => z.getD j 0) (k + 1)
      have hp : Hid (psum (fun j => z.getD j 0) (k + 1) = plus (psum (fun j => z.getD j 0) k) (z.getD k 0)) := rfl
      generalize z.getD k 0 = x at hx hp
      generalize psum (fun j => z.getD j 0) k = s at hp ⊢
      clear hst hcz
      go_wp2_with (first
        | (go_at_call 32; refine (plus_any _ _ _).mono ?_; rintro e wr ⟨rfl, rfl⟩)
        | (at_builtin; refine wpList_append_own _ rfl _ _ 24 rfl w.heap.size 3 i0 (.int .i64 0) 1 8 Tryz.underlying24 hi hz0 hz1 hz2 rfl (by decide) _ _ _ rfl (ho1.alloc _) ⟨wr.heap.size, 0, none⟩ 1 1 [.int .i64 (plus s x)] rfl rfl (cell_one_new _ _ _) (by simp [Value.oneCell']) (by unfold maxLen; omega) (by omega) (by have := hG.below.size; simp; omega) ?_; intro t' w2 hown' hgrow _; have hS := hG.next (Below.refl _ _) hp.out.symm hown' hgrow; clear hown' hgrow ho1))
      go_roundw
      case rel => exact ⟨k + 1, by omega, by go_num, by rw [hp.out], hS⟩
      case measure => simp [intOf]; omega
    · have e : k = z.length := by omega
      subst e
      go_wp2
      go_ret
      exact hG.done

theorem wrapEq (x : Int) : IntKind.i64.wrap x = wrap64 x := by rw [IntKind.wrap_i64]; unfold wrap64; rfl
theorem wrap_in {x : Int} (h : -9223372036854775808 ≤ x ∧ x ≤ 9223372036854775807) : IntKind.i64.wrap x = x := by rw [wrapEq]; exact IntWalk.wrap64_in _ h

end Go.Proofs.YtjageagnclmnjabGreatDoor.B
