/- PROVED: what the document's own Serves and Keeps answer. CONDITIONS: none beyond each theorem's own. -/
import Derived.Test.YtmijlmidlddcpaaRefFar
namespace Go.Proofs.Ytmijlmidlddcpaa
open Go.RowKit

set_option maxHeartbeats 1600000 in
theorem hserves_any (R L n : Int) (hL0 : -9223372036854775808 ≤ L ∧ L ≤ 9223372036854775807) (w : World) :
    Calls Try.prog 14 #[.int .i64 R, .int .i64 L, .int .i64 n] w (Ans w (serves R L n)) := by
  obtain ⟨i0, hi, hz0, hz1, hz2⟩ := info_parts Try.info3
  by_cases h : inr R ∧ 0 ≤ L
  · have e0 : serves R L n = outs (sv R L) (many n) := by unfold serves; rw [if_pos h]
    rw [e0]
    clear e0
    obtain ⟨M, hM⟩ : ∃ M, many n = M := ⟨_, rfl⟩
    have hMi : min (max n 0) 300 = (M : Int) := by rw [← hM]; unfold many; omega
    have hM3 : M ≤ 300 := by omega
    have hMn : Hid (∀ k : Nat, k < M → (k : Int) < n) := fun k hk => by omega
    have hMe : Hid (M < 300 → n ≤ M) := fun hk => by omega
    rw [hM]
    clear hM hMi
    obtain ⟨hR, hL⟩ := h
    have hsv : Hid (∀ t : Nat, t < 300 → 0 ≤ sv R L t ∧ sv R L t ≤ 329853488332800) := fun t ht => sv_in hR t ht hL
    have hR1 := hR.1
    have hR2 := hR.2
    clear hR
    go_enter Try.func14, Try.ntmps14
    go_wp2
    go_loopw [7, 8] (fun t i wr => ∃ k : Nat, k ≤ M ∧ i = .int .i64 k ∧ Gath w t wr (outs (sv R L) k)) (fun _ i _ => M - (intOf i).toNat)
    case atStart => exact ⟨0, Nat.zero_le _, rfl, Gath.start w⟩
    case round =>
      obtain ⟨k, hk, rfl, hG⟩ := hrel
      by_cases hlt : k < M
      · have hkn := hMn.out k hlt
        have hk3 : (k : Int) < 300 := by omega
        have ho1 := hG.own
        have hRl := outs_len (sv R L) k
        have hX := hsv.out k (by omega)
        by_cases hkL : L < (k : Int)
        · have hv : Hid (sv R L k = ((k : Int) - L) * R) := by show _ = _; unfold sv; rw [show max ((k : Int) - L) 0 = (k : Int) - L by omega, Int.mul_comm]
          rw [hv.out] at hX
          generalize hXe : ((k : Int) - L) * R = X at hX hv
          go_wp2_with (at_builtin; refine wpList_append_own _ rfl _ _ 22 rfl w.heap.size 3 i0 (.int .i64 0) 1 8 Try.underlying22 hi hz0 hz1 hz2 rfl (by decide) _ _ _ rfl (ho1.alloc _) ⟨wr.heap.size, 0, none⟩ 1 1 [.int .i64 X] rfl rfl (cell_one_new _ _ _) (by simp [Value.oneCell']) (by unfold maxLen; omega) (by omega) (by have := hG.below.size; simp; omega) ?_; intro t' w2 hown' hgrow _; have hS := hG.next (Below.refl _ _) hv.out.symm hown' hgrow; clear hown' hgrow ho1)
          go_roundw
          case rel => exact ⟨k + 1, by omega, by go_num, hS⟩
          case measure => simp [intOf]; omega
        · have hv : Hid (sv R L k = 0) := by show _ = _; unfold sv; rw [show max ((k : Int) - L) 0 = 0 by omega, Int.mul_zero]
          have hkL2 : (k : Int) ≤ L := by omega
          clear hX
          go_wp2_with (at_builtin; refine wpList_append_own _ rfl _ _ 22 rfl w.heap.size 3 i0 (.int .i64 0) 1 8 Try.underlying22 hi hz0 hz1 hz2 rfl (by decide) _ _ _ rfl (ho1.alloc _) ⟨wr.heap.size, 0, none⟩ 1 1 [.int .i64 0] rfl rfl (cell_one_new _ _ _) (by simp [Value.oneCell']) (by unfold maxLen; omega) (by omega) (by have := hG.below.size; simp; omega) ?_; intro t' w2 hown' hgrow _; have hS := hG.next (Below.refl _ _) hv.out.symm hown' hgrow; clear hown' hgrow ho1)
          go_roundw
          case rel => exact ⟨k + 1, by omega, by go_num, hS⟩
          case measure => simp [intOf]; omega
      · obtain rfl : k = M := by omega
        by_cases c3 : k < 300
        · have hkn := hMe.out c3
          have hkn2 : ¬ (k : Int) < n := by omega
          go_wp2
          go_ret
          exact hG.done
        · obtain rfl : k = 300 := by omega
          by_cases c4 : (300 : Int) < n
          · go_wp2
            go_ret
            exact hG.done
          · go_wp2
            go_ret
            exact hG.done
  · have e0 : serves R L n = [] := by unfold serves; rw [if_neg h]
    rw [e0]
    have hd : ¬ (0 ≤ R) ∨ (0 ≤ R ∧ ¬ R ≤ 1099511627776) ∨ (0 ≤ R ∧ R ≤ 1099511627776 ∧ ¬ 0 ≤ L) := by unfold inr at h; omega
    clear h
    go_enter Try.func14, Try.ntmps14
    go_wp2
    go_loopw [7, 8] (fun t i wr => t = .slice none 0 0 ∧ i = .int .i64 0 ∧ w = wr) (fun _ _ _ => 0)
    case atStart => exact ⟨rfl, rfl, rfl⟩
    case round =>
      obtain ⟨rfl, rfl, rfl⟩ := hrel
      by_cases hn : 0 < n
      · rcases hd with c | ⟨c1, c2⟩ | ⟨c1, c2, c3⟩
        · go_wp2
          go_ret
          exact ⟨none, 0, rfl, Nat.le_refl _, .inl rfl, Below.refl _ _⟩
        · go_wp2
          go_ret
          exact ⟨none, 0, rfl, Nat.le_refl _, .inl rfl, Below.refl _ _⟩
        · go_wp2
          go_ret
          exact ⟨none, 0, rfl, Nat.le_refl _, .inl rfl, Below.refl _ _⟩
      · clear hd
        go_wp2
        go_ret
        exact ⟨none, 0, rfl, Nat.le_refl _, .inl rfl, Below.refl _ _⟩

/-- by all pairs, the first k of s, and the first j of t at s -/
def pairs (f r : List Int) (k : Nat) : Prop := ∀ s, s < k → ∀ t, t < f.length → s ≤ t → less (f.getD t 0) (f.getD s 0) ≤ att r ((t : Int) - s)
def pairs2 (f r : List Int) (k j : Nat) : Prop := pairs f r k ∧ ∀ t, t < j → k ≤ t → less (f.getD t 0) (f.getD k 0) ≤ att r ((t : Int) - k)
instance (f r : List Int) (k : Nat) : Decidable (pairs f r k) := inferInstanceAs (Decidable (∀ s, s < k → ∀ t, t < f.length → _))
instance (f r : List Int) (k j : Nat) : Decidable (pairs2 f r k j) := inferInstanceAs (Decidable (_ ∧ ∀ t, t < j → _))
theorem pairs_zero (f r : List Int) : decide (pairs f r 0) = true := decide_eq_true fun s h => by omega
theorem pairs2_zero (f r : List Int) (k : Nat) : decide (pairs2 f r k 0) = decide (pairs f r k) := by
  rw [Bool.eq_iff_iff]; simp only [decide_eq_true_eq]
  exact ⟨fun h => h.1, fun h => ⟨h, fun t ht => by omega⟩⟩
theorem pairs2_all (f r : List Int) (k : Nat) : decide (pairs2 f r k f.length) = decide (pairs f r (k + 1)) := by
  rw [Bool.eq_iff_iff]; simp only [decide_eq_true_eq]
  constructor
  · intro h s hs t ht hst
    by_cases e : s = k
    · subst e; exact h.2 t ht hst
    · exact h.1 s (by omega) t ht hst
  · intro h
    exact ⟨fun s hs => h s (by omega), fun t ht hkt => h k (by omega) t ht hkt⟩
theorem pairs2_skip (f r : List Int) (k j : Nat) (h : j < k) : decide (pairs2 f r k (j + 1)) = decide (pairs2 f r k j) := by
  rw [Bool.eq_iff_iff]; simp only [decide_eq_true_eq]
  refine ⟨fun q => ⟨q.1, fun t ht => q.2 t (by omega)⟩, fun q => ⟨q.1, fun t ht hkt => q.2 t (by omega) hkt⟩⟩
theorem pairs2_step (f r : List Int) (k j : Nat) (h : k ≤ j) : decide (pairs2 f r k (j + 1)) = (decide (pairs2 f r k j) && decide (less (f.getD j 0) (f.getD k 0) ≤ att r ((j : Int) - k))) := by
  rw [Bool.eq_iff_iff]; simp only [decide_eq_true_eq, Bool.and_eq_true]
  constructor
  · intro q
    exact ⟨⟨q.1, fun t ht => q.2 t (by omega)⟩, q.2 j (by omega) h⟩
  · rintro ⟨⟨q1, q2⟩, q3⟩
    refine ⟨q1, fun t ht hkt => ?_⟩
    by_cases e : t = j
    · subst e; exact q3
    · exact q2 t (by omega) hkt
theorem pairs_holds (f r : List Int) : decide (pairs f r f.length) = decide (holds f r) := by
  rw [Bool.eq_iff_iff]; simp only [decide_eq_true_eq]
  exact (holds_pairs f r).symm

set_option maxHeartbeats 1600000 in
theorem hkeeps_any (a1 a2 : Option Addr) (c1 c2 : Nat) (f r : List Int) (w : World) (hf : Row w a1 f) (hr : Row w a2 r) (h1 : f.length ≤ 17592186044415) (h2 : r.length ≤ 17592186044415) :
    Calls Try.prog 16 #[.slice a1 f.length c1, .slice a2 r.length c2] w fun e w' => e = .returned (.bool (decide (holds f r))) ∧ w' = w := by
  obtain ⟨n, hn⟩ : ∃ n, f.length = n := ⟨_, rfl⟩
  have hP : Hid (decide (pairs f r n) = decide (holds f r)) := by show _ = _; rw [← hn]; exact pairs_holds f r
  have hA : Hid (∀ k, decide (pairs2 f r k n) = decide (pairs f r (k + 1))) := fun k => by rw [← hn]; exact pairs2_all f r k
  rw [hn] at h1 ⊢
  replace hn : Hid _ := hn
  go_enter Try.func16, Try.ntmps16
  go_wp2
  go_loopw [5, 12] (fun b i wr => ∃ k : Nat, k ≤ n ∧ i = .int .i64 k ∧ b = .bool (decide (pairs f r k)) ∧ w = wr) (fun _ i _ => n - (intOf i).toNat)
  case atStart => exact ⟨0, Nat.zero_le _, rfl, by rw [pairs_zero], rfl⟩
  case round =>
    obtain ⟨k, hk, rfl, rfl, rfl⟩ := hrel
    by_cases hlt : k < n
    · obtain ⟨b1, o1, rfl, hF⟩ := hf.at (by rw [hn.out]; omega)
      have cx := hF k (by rw [hn.out]; exact hlt)
      have hlI : (k : Int) < n := by omega
      have hF2 : Hid (∀ j, j < n → w.cell? ⟨b1, o1 + j, none⟩ = some (.int .i64 (f.getD j 0))) := fun j hj => hF j (by rw [hn.out]; exact hj)
      have hz := pairs2_zero f r k
      have hs1 : Hid (∀ j, j < k → decide (pairs2 f r k (j + 1)) = decide (pairs2 f r k j)) := fun j hj => pairs2_skip f r k j hj
      have hs2 : Hid (∀ j, k ≤ j → decide (pairs2 f r k (j + 1)) = (decide (pairs2 f r k j) && decide (less (f.getD j 0) (f.getD k 0) ≤ att r ((j : Int) - k)))) := fun j hj => pairs2_step f r k j hj
      generalize f.getD k 0 = x at cx hs2
      rw [← hz]
      clear hF hz
      go_wp2
      go_loopw [5, 19] (fun b i wr => ∃ j : Nat, j ≤ n ∧ i = .int .i64 j ∧ b = .bool (decide (pairs2 f r k j)) ∧ w = wr) (fun _ i _ => n - (intOf i).toNat)
      case atStart => exact ⟨0, Nat.zero_le _, rfl, rfl, rfl⟩
      case round =>
        obtain ⟨j, hj, rfl, rfl, rfl⟩ := hrel
        by_cases hlt2 : j < n
        · have cy := hF2.out j hlt2
          have hjI : (j : Int) < n := by omega
          by_cases hkj : j < k
          · have hd := hs1.out j hkj
            have hkjI : (j : Int) < k := by omega
            generalize f.getD j 0 = y at cy
            replace hd : Hid _ := hd
            cases hb : decide (pairs2 f r k j) with
            | false =>
              go_wp2
              go_roundw
              case rel => exact ⟨j + 1, by omega, by go_num, by rw [hd.out, hb], by first | rfl | trivial⟩
              case measure => simp [intOf]; omega
            | true =>
              go_wp2
              go_roundw
              case rel => exact ⟨j + 1, by omega, by go_num, by rw [hd.out, hb], by first | rfl | trivial⟩
              case measure => simp [intOf]; omega
          · have hd := hs2.out j (by omega)
            have hkjI : (k : Int) ≤ j := by omega
            have hat := dat_any a2 c2 r ((j : Int) - k) w hr (by omega)
            generalize f.getD j 0 = y at cy hd
            generalize att r ((j : Int) - k) = z at hat hd
            generalize hp : less y x = p at hd
            have hle := rless_any y x w
            rw [hp] at hle
            replace hd : Hid _ := hd
            clear hp
            cases hb : decide (pairs2 f r k j) with
            | false =>
              clear hle hat
              go_wp2
              go_roundw
              case rel => exact ⟨j + 1, by omega, by go_num, by rw [hd.out, hb]; rfl, by first | rfl | trivial⟩
              case measure => simp [intOf]; omega
            | true =>
              go_wp2_with (first
                | (go_at_call 40; refine hle.mono ?_; rintro e w'' ⟨rfl, hw⟩; obtain rfl : w = w'' := hw.symm; clear hle hw)
                | (go_at_call 43; refine hat.mono ?_; rintro e w'' ⟨rfl, hw⟩; obtain rfl : w = w'' := hw.symm; clear hat hw))
              go_roundw
              case rel => exact ⟨j + 1, by omega, by go_num, by rw [hd.out, hb]; rfl, by first | rfl | trivial⟩
              case measure => simp [intOf]; omega
        · obtain rfl : j = n := by omega
          have hA2 := hA.out k
          generalize decide (pairs2 f r k j) = bb at hA2 ⊢
          replace hA2 : Hid _ := hA2
          go_wp2
          go_roundw
          case rel => exact ⟨k + 1, by omega, by go_num, by rw [← hA2.out], by first | rfl | trivial⟩
          case measure => simp [intOf]; omega
    · obtain rfl : k = n := by omega
      go_wp2
      go_ret
      exact ⟨by rw [← hP.out]; rfl, rfl⟩

end Go.Proofs.Ytmijlmidlddcpaa
