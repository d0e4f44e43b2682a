/- PROVED: what leastSum and mostOver answer. CONDITIONS: none beyond each theorem's own. -/
import Derived.Test.YtmijlmidlddcpaaAns
import Derived.Test.YtmijlmidlddcpaaLeast
import Derived.Deep.RegionWith
namespace Go.Proofs.Ytmijlmidlddcpaa
open Go.RowKit

theorem wrapIs (x : Int) : IntKind.i64.wrap x = wrap64 x := by rw [IntKind.wrap_i64]; unfold wrap64; rfl
theorem wrapIn {x : Int} (h : -9223372036854775808 ≤ x ∧ x ≤ 9223372036854775807) : IntKind.i64.wrap x = x := by rw [wrapIs]; exact IntWalk.wrap64_in _ h

set_option maxHeartbeats 1600000 in
theorem leastSum_any (b1 o1 n1 c1 b2 o2 n2 c2 t : Nat) (F G : Nat → Int) (w : World) (hF : ∀ j, j ≤ t → w.cell? ⟨b1, o1 + j, none⟩ = some (.int .i64 (F j))) (hG : ∀ j, j ≤ t → w.cell? ⟨b2, o2 + j, none⟩ = some (.int .i64 (G j)))
    (h1 : t < n1) (h2 : t < n2) (hb : t ≤ 17592186044416) :
    Calls Try.prog 48 #[.slice (some ⟨b1, o1, none⟩) n1 c1, .slice (some ⟨b2, o2, none⟩) n2 c2, .int .i64 t] w fun e w' => e = .returned (.int .i64 (cv F G t)) ∧ ∃ q, w' = w.drewN q := by
  have ht1 : IntKind.i64.wrap ((t : Int) + 1) = (t : Int) + 1 := wrapIn (by omega)
  go_enter Try.func48, Try.ntmps48
  go_wp2
  go_loopw [7, 11] (fun m i wr => ∃ k q : Nat, k ≤ t + 1 ∧ i = .int .i64 k ∧ m = .int .i64 (lsum F G t k) ∧ wr = w.drewN q) (fun _ i _ => t + 1 - (intOf i).toNat)
  case atStart => exact ⟨0, 0, Nat.zero_le _, rfl, rfl, rfl⟩
  case round =>
    obtain ⟨k, q, hk, rfl, rfl, rfl⟩ := hrel
    by_cases hlt : k < t + 1
    · obtain ⟨d, hd⟩ : ∃ d : Nat, t - k = d := ⟨_, rfl⟩
      have hdi : (t : Int) - k = (d : Int) := by omega
      have cx := hF k (by omega)
      have cy := hG d (by omega)
      have hs : Hid (lsum F G t (k + 1) = min (lsum F G t k) (plus (F k) (G d))) := by rw [← hd]; rfl
      have hl1 : (k : Int) < n1 := by omega
      have hl2 : (d : Int) < n2 := by omega
      have hwd : IntKind.i64.wrap (d : Int) = d := wrapIn (by omega)
      have hlt2 : (k : Int) < (t : Int) + 1 := by omega
      generalize F k = x at cx hs
      generalize G d = y at cy hs
      generalize lsum F G t k = m at hs ⊢
      clear hF hG hd
      go_wp2
      go_region_with (go_at_call 45; refine (plus_any _ _ _).mono ?_; rintro e w'' ⟨rfl, rfl⟩)
      all_goals
        go_wp2
        go_roundw
        case rel => exact ⟨k + 1, q + 1, by omega, by go_num, by rw [hs.out], rfl⟩
        case measure => simp [intOf]; omega
    · obtain rfl : k = t + 1 := by omega
      go_wp2
      go_ret
      exact ⟨rfl, q, rfl⟩

set_option maxHeartbeats 1600000 in
theorem mostOver_any (b1 o1 n1 c1 : Nat) (a2 : Option Addr) (c2 : Nat) (F : Nat → Int) (g : List Int) (w : World) (hF : ∀ j, j < n1 → w.cell? ⟨b1, o1 + j, none⟩ = some (.int .i64 (F j))) (hg : Row w a2 g) (h1 : n1 ≤ 17592186044416) (h2 : g.length ≤ 17592186044416) :
    Calls Try.prog 52 #[.slice (some ⟨b1, o1, none⟩) n1 c1, .slice a2 g.length c2] w fun e w' => e = .returned (.int .i64 (mo F (fun j => g.getD j 0) (min n1 g.length))) ∧ ∃ q, w' = w.drewN q := by
  obtain ⟨m, hm⟩ : ∃ m, min n1 g.length = m := ⟨_, rfl⟩
  have hmi : min (n1 : Int) (g.length : Int) = (m : Int) := by omega
  have hm1 : m ≤ n1 := by omega
  have hm2 : m ≤ g.length := by omega
  rw [hm]
  clear hm
  go_enter Try.func52, Try.ntmps52
  go_wp2
  go_loopw [5, 12] (fun v i wr => ∃ k q : Nat, k ≤ m ∧ i = .int .i64 k ∧ v = .int .i64 (mo F (fun j => g.getD j 0) k) ∧ wr = w.drewN q) (fun _ i _ => m - (intOf i).toNat)
  case atStart => exact ⟨0, 0, Nat.zero_le _, rfl, rfl, rfl⟩
  case round =>
    obtain ⟨k, q, hk, rfl, rfl, rfl⟩ := hrel
    by_cases hlt : k < m
    · obtain ⟨b2, o2, rfl, hG⟩ := hg.at (by omega)
      have cx := hF k (by omega)
      have cy := hG k (by omega)
      have hs : Hid (mo F (fun j => g.getD j 0) (k + 1) = max (mo F (fun j => g.getD j 0) k) (less (F k) (g.getD k 0))) := rfl
      have hl1 : (k : Int) < n1 := by omega
      have hl2 : (k : Int) < g.length := by omega
      generalize F k = x at cx hs
      generalize g.getD k 0 = y at cy hs
      generalize mo F (fun j => g.getD j 0) k = v at hs ⊢
      clear hF hG hg
      go_wp2
      go_region_with (go_at_call 37; refine (less_any _ _ _).mono ?_; rintro e w'' ⟨rfl, rfl⟩)
      all_goals
        go_wp2
        go_roundw
        case rel => exact ⟨k + 1, q + 1, by omega, by go_num, by rw [hs.out], rfl⟩
        case measure => simp [intOf]; omega
    · obtain rfl : k = m := by omega
      go_wp2
      go_ret
      exact ⟨rfl, q, rfl⟩

end Go.Proofs.Ytmijlmidlddcpaa
