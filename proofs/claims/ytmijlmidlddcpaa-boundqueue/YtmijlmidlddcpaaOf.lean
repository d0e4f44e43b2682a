/- PROVED: what Of, At and Right answer. CONDITIONS: none beyond each theorem's own. -/
import Derived.Test.YtmijlmidlddcpaaAns
namespace Go.Proofs.Ytmijlmidlddcpaa
open Go.RowKit

theorem Gath.one (w : World) (x : Int) : Gath w (.slice (some ⟨w.heap.size, 0, none⟩) 1 1) (w.alloc (.cells #[.int .i64 x] 3)) [x] :=
  ⟨⟨rfl, .inr ⟨w.heap.size, 1, #[.int .i64 x], rfl, Nat.le_refl _, (by show (w.heap.push _)[w.heap.size]? = _; simp), Nat.le_refl _, by unfold maxLen; omega, rfl, rfl⟩⟩, balloc (Below.refl _ _) _⟩

set_option maxHeartbeats 1600000 in
theorem of_any (a : Option Addr) (cap : Nat) (z : List Int) (w : World) (hz : Row w a z) (hl : z.length ≤ 17592186044415) :
    Calls Try.prog 19 #[.slice a z.length cap] w (Ans w (of z)) := by
  obtain ⟨i0, hi, hz0, hz1, hz2⟩ := info_parts Try.info3
  have hst : Gath w (.slice (some ⟨w.heap.size, 0, none⟩) 1 1) (w.alloc (.cells #[.int .i64 0] 3)) (outs (psum fun j => z.getD j 0) (0 + 1)) := Gath.one w 0
  go_enter Try.func19, Try.ntmps19
  go_wp2
  go_loopw [3, 4, 11] (fun s t i wr => ∃ k : Nat, k ≤ z.length ∧ i = .int .i64 k ∧ s = .int .i64 (psum (fun j => z.getD j 0) k) ∧ Gath w t wr (outs (psum fun j => z.getD j 0) (k + 1))) (fun _ _ i _ => z.length - (intOf i).toNat)
  case atStart => exact ⟨0, Nat.zero_le _, rfl, rfl, hst⟩
  case round =>
    obtain ⟨k, hkn, rfl, rfl, hG⟩ := hrel
    by_cases hlt : k < z.length
    · obtain ⟨g, off, rfl, hcz⟩ := hz.at (by omega)
      have hx := (hG.below.cell (p := ⟨g, off + k, none⟩) (block_lt (hcz k hlt))).trans (hcz k hlt)
      have ho1 := hG.own
      have hRl := outs_len (psum fun j => z.getD j 0) (k + 1)
      have hp : Hid (psum (fun j => z.getD j 0) (k + 1) = plus (psum (fun j => z.getD j 0) k) (z.getD k 0)) := rfl
      generalize z.getD k 0 = x at hx hp
      generalize psum (fun j => z.getD j 0) k = s at hp ⊢
      clear hst hcz
      go_wp2_with (first
        | (go_at_call 45; refine (plus_any _ _ _).mono ?_; rintro e wr ⟨rfl, rfl⟩)
        | (at_builtin; refine wpList_append_own _ rfl _ _ 22 rfl w.heap.size 3 i0 (.int .i64 0) 1 8 Try.underlying22 hi hz0 hz1 hz2 rfl (by decide) _ _ _ rfl (ho1.alloc _) ⟨wr.heap.size, 0, none⟩ 1 1 [.int .i64 (plus s x)] rfl rfl (cell_one_new _ _ _) (by simp [Value.oneCell']) (by unfold maxLen; omega) (by omega) (by have := hG.below.size; simp; omega) ?_; intro t' w2 hown' hgrow _; have hS := hG.next (Below.refl _ _) hp.out.symm hown' hgrow; clear hown' hgrow ho1))
      go_roundw
      case rel => exact ⟨k + 1, by omega, by go_num, by rw [hp.out], hS⟩
      case measure => simp [intOf]; omega
    · have e : k = z.length := by omega
      subst e
      go_wp2
      go_ret
      exact hG.done

set_option maxHeartbeats 800000 in
theorem at_any (a : Option Addr) (cap : Nat) (z : List Int) (t : Int) (w : World) (hz : Row w a z) (hl : z.length ≤ 17592186044416) :
    Calls Try.prog 42 #[.slice a z.length cap, .int .i64 t] w fun e w' => e = .returned (.int .i64 (att z t)) ∧ w' = w := by
  by_cases h0 : z.length = 0
  · have e0 : att z t = 0 := by unfold att; rw [if_pos (.inl h0)]
    rw [e0]
    rw [h0]
    go_enter Try.func42, Try.ntmps42
    go_wp2
    go_ret
    exact ⟨rfl, rfl⟩
  · have d0 : ((z.length : Int) == 0) = false := beq_eq_false_iff_ne.2 (by omega)
    by_cases ht : t < 0
    · have e0 : att z t = 0 := by unfold att; rw [if_pos (.inr ht)]
      rw [e0]
      go_enter Try.func42, Try.ntmps42
      go_wp2
      go_ret
      exact ⟨rfl, rfl⟩
    · obtain ⟨b, off, rfl, hc⟩ := hz.at (by omega)
      have e0 : att z t = fit (z.getD (min t (z.length - 1)).toNat 0) := by unfold att; rw [if_neg (by omega)]
      rw [e0]
      obtain ⟨j, hj⟩ : ∃ j : Nat, min t ((z.length : Int) - 1) = (j : Int) := ⟨(min t ((z.length : Int) - 1)).toNat, by omega⟩
      have hjl : j < z.length := by omega
      rw [hj, Int.toNat_natCast]
      have hx := hc j hjl
      generalize z.getD j 0 = x at hx ⊢
      generalize z.length = n at *
      go_enter Try.func42, Try.ntmps42
      go_wp2_with (go_at_call 35; refine (fit_any _ _).mono ?_; rintro e w' ⟨rfl, rfl⟩)
      go_ret
      exact ⟨rfl, rfl⟩

theorem wrapEq (x : Int) : IntKind.i64.wrap x = wrap64 x := by rw [IntKind.wrap_i64]; unfold wrap64; rfl
theorem wrap_in {x : Int} (h : -9223372036854775808 ≤ x ∧ x ≤ 9223372036854775807) : IntKind.i64.wrap x = x := by rw [wrapEq]; exact IntWalk.wrap64_in _ h

set_option maxHeartbeats 800000 in
theorem sorted_any (b off cap : Nat) (z : List Int) (w : World) (hz : ∀ j, j < z.length → w.cell? ⟨b, off + j, none⟩ = some (.int .i64 (z.getD j 0))) (h1 : 0 < z.length) (hl : z.length ≤ 17592186044416) :
    Calls Try.prog 28 #[.slice (some ⟨b, off, none⟩) z.length cap] w fun e w' => e = .returned (.bool (decide (up z))) ∧ ∃ q, w' = w.drewN q := by
  have hw1 : IntKind.i64.wrap ((z.length : Int) - 1) = (z.length : Int) - 1 := wrap_in (by omega)
  go_enter Try.func28, Try.ntmps28
  go_wp2
  go_loopw [3] (fun i wr => ∃ k q : Nat, k < z.length ∧ i = .int .i64 k ∧ wr = w.drewN q ∧ ∀ j, k ≤ j → j < z.length - 1 → z.getD j 0 ≤ z.getD (j + 1) 0) (fun i _ => (intOf i).toNat)
  case atStart => exact ⟨z.length - 1, 0, by omega, by congr 1; omega, rfl, fun j h1 h2 => by omega⟩
  case round =>
    obtain ⟨k, q, hk, rfl, rfl, hup⟩ := hrel
    by_cases h0 : 0 < k
    · obtain ⟨p, hp⟩ : ∃ p, k = p + 1 := ⟨k - 1, by omega⟩
      have c1 := hz k hk
      have c2 := hz p (by omega)
      have hpi : (k : Int) - 1 = (p : Int) := by omega
      have hlt1 : (k : Int) < z.length := by omega
      have hlt2 : (p : Int) < z.length := by omega
      have hw2 : IntKind.i64.wrap (p : Int) = p := wrap_in (by omega)
      have hun : Hid (z.getD k 0 < z.getD p 0 → decide (up z) = false) := fun h => decide_eq_false fun hu => absurd (hu p (by omega)) (by rw [← hp]; omega)
      have hup2 : Hid (¬ z.getD k 0 < z.getD p 0 → ∀ j, p ≤ j → j < z.length - 1 → z.getD j 0 ≤ z.getD (j + 1) 0) := fun h j h1 h2 => by
        by_cases e : j = p
        · subst e; rw [← hp]; omega
        · exact hup j (by omega) h2
      generalize z.getD k 0 = x at c1 hun hup2
      generalize z.getD p 0 = y at c2 hun hup2
      have hpl : p < z.length := by omega
      have hpk : p < k := by omega
      clear hz hup hp
      by_cases hlt : x < y
      · have d1 : decide (x < y) = true := decide_eq_true hlt
        have hF := hun.out hlt
        clear hun hup2
        go_wp2
        go_quiet ((go_at_call 50; refine (cmpless_any _ _ _).mono ?_; rintro e w'' ⟨rfl, rfl⟩; exact ⟨rfl, _, rfl⟩))
        go_wp2
        go_ret
        exact ⟨by rw [hF]; rfl, q + nq, World.drewN_drewN _ _ _⟩
      · have d1 : decide (x < y) = false := decide_eq_false hlt
        have hU := hup2.out hlt
        have hge : y ≤ x := by omega
        clear hun hup2
        go_wp2
        go_quiet ((go_at_call 50; refine (cmpless_any _ _ _).mono ?_; rintro e w'' ⟨rfl, rfl⟩; exact ⟨rfl, _, rfl⟩))
        go_wp2
        go_roundw
        case rel => exact ⟨p, q + nq, hpl, rfl, rfl, hU⟩
        case measure => simp [intOf]; omega
    · obtain rfl : k = 0 := by omega
      have hT : decide (up z) = true := decide_eq_true fun j hj => hup j (Nat.zero_le _) hj
      clear hup hz
      go_wp2
      go_ret
      exact ⟨by rw [hT]; rfl, q, rfl⟩

end Go.Proofs.Ytmijlmidlddcpaa
