/- PROVED: what sort.Search answers over bound.Far's own question. CONDITIONS: none beyond each theorem's own. -/
import Derived.Test.YtmijlmidlddcpaaConv
import Derived.Test.YtmijlmidlddcpaaOf
import Derived.Test.YtmijlmidlddcpaaStack
namespace Go.Proofs.Ytmijlmidlddcpaa
open Go.RowKit

set_option maxHeartbeats 1600000 in
theorem low_any (k j t : Nat) (G C F T b1 o1 n c1 b2 o2 m c2 r l cap : Nat) (x y : Int) (w : World)
    (cG : w.cell? ⟨G, 0, none⟩ = some (.slice (some ⟨b2, o2, none⟩) m c2)) (cC : w.cell? ⟨C, 0, none⟩ = some (.slice (some ⟨r, 0, none⟩) l cap)) (cF : w.cell? ⟨F, 0, none⟩ = some (.slice (some ⟨b1, o1, none⟩) n c1)) (cT : w.cell? ⟨T, 0, none⟩ = some (.int .i64 t))
    (ck : w.cell? ⟨r, k, none⟩ = some (.int .i64 j)) (cj : w.cell? ⟨b2, o2 + j, none⟩ = some (.int .i64 y)) (ct : w.cell? ⟨b1, o1 + t, none⟩ = some (.int .i64 x))
    (hk : (k : Int) < l) (hj : (j : Int) < m) (ht : (t : Int) < n) :
    Calls Try.prog 34 #[.int .i64 k, .pointer (some ⟨G, 0, none⟩), .pointer (some ⟨C, 0, none⟩), .pointer (some ⟨F, 0, none⟩), .pointer (some ⟨T, 0, none⟩)] w fun e w' => e = .returned (.bool (decide (fit y < fit x))) ∧ ∃ q, w' = w.drewN q := by
  go_enter Try.func34, Try.ntmps34
  go_wp2
  go_quiet ((go_at_call 35; refine (fit_any _ _).mono ?_; rintro e w'' ⟨rfl, rfl⟩; exact ⟨rfl, _, rfl⟩))
  go_wp2
  go_ret
  exact ⟨rfl, nq, rfl⟩

set_option maxHeartbeats 1600000 in
theorem find_any (n h : Nat) (hn : n ≤ 17592186044416) (p1 p2 p3 p4 : Value) (P : Nat → Bool) (w : World) (hh : h ≤ n) (h1 : ∀ p, p < h → P p = false) (h2 : ∀ p, h ≤ p → p < n → P p = true)
    (hc : ∀ k q, k < n → Calls Try.prog 34 #[.int .i64 k, p1, p2, p3, p4] (w.drewN q) fun e w' => e = .returned (.bool (P k)) ∧ ∃ q, w' = w.drewN q) :
    Calls Try.prog 33 #[.int .i64 n, .func (.func 34) #[] #[p1, p2, p3, p4]] w fun e w' => e = .returned (.int .i64 h) ∧ ∃ q, w' = w.drewN q := by
  replace h1 : Hid _ := h1
  replace h2 : Hid _ := h2
  go_enter Try.func33, Try.ntmps33
  go_wp2
  go_loopw [5, 6] (fun a b wr => ∃ i j q : Nat, i ≤ h ∧ h ≤ j ∧ j ≤ n ∧ a = .int .i64 i ∧ b = .int .i64 j ∧ wr = w.drewN q) (fun a b _ => ((intOf b) - (intOf a)).toNat)
  case atStart => exact ⟨0, n, 0, Nat.zero_le _, hh, Nat.le_refl _, rfl, rfl, rfl⟩
  case round =>
    obtain ⟨i, j, q, hi, hj, hjn, rfl, rfl, rfl⟩ := hrel
    by_cases hlt : i < j
    · obtain ⟨c, hh⟩ : ∃ c, (i + j) / 2 = c := ⟨_, rfl⟩
      have c1 : i ≤ c := by omega
      have c2 : c < j := by omega
      have hhi : ((i : Int) + j) / 2 = (c : Int) := by omega
      have hb := hc c q (by omega)
      have hltI : (i : Int) < j := by omega
      by_cases hd : c < h
      · rw [h1.out c hd] at hb
        clear hc
        go_wp2_with (go_at_call 34; refine hb.mono ?_; rintro e w'' ⟨rfl, q2, rfl⟩; clear hb)
        go_roundw
        case rel => exact ⟨c + 1, j, q2, by omega, by omega, by omega, by go_num, rfl, rfl⟩
        case measure => simp [intOf]; omega
      · rw [h2.out c (by omega) (by omega)] at hb
        clear hc
        go_wp2_with (go_at_call 34; refine hb.mono ?_; rintro e w'' ⟨rfl, q2, rfl⟩; clear hb)
        go_roundw
        case rel => exact ⟨i, c, q2, by omega, by omega, by omega, rfl, rfl, rfl⟩
        case measure => simp [intOf]; omega
    · obtain rfl : i = j := by omega
      obtain rfl : i = h := by omega
      clear hc
      go_wp2
      go_ret
      exact ⟨rfl, q, rfl⟩

end Go.Proofs.Ytmijlmidlddcpaa
