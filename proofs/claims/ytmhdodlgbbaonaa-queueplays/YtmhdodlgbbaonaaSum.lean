/- PROVED: what leastSum and mostOver answer. CONDITIONS: none beyond each theorem's own. -/
import Derived.Test.YtmhdodlgbbaonaaAns
import Derived.Test.YtmhdodlgbbaonaaLeast
import Derived.Deep.RegionWith
namespace Go.Proofs.Ytmhdodlgbbaonaa
open Go.RowKit

theorem wrapIs (x : Int) : IntKind.i64.wrap x = wrap64 x := by rw [IntKind.wrap_i64]; unfold wrap64; rfl
theorem wrapIn {x : Int} (h : -9223372036854775808 ≤ x ∧ x ≤ 9223372036854775807) : IntKind.i64.wrap x = x := by rw [wrapIs]; exact IntWalk.wrap64_in _ h

set_option maxHeartbeats 1600000 in
theorem leastSum_any (b1 o1 n1 c1 b2 o2 n2 c2 t : Nat) (F G : Nat → Int) (w : World) (hF : ∀ j, j ≤ t → w.cell? ⟨b1, o1 + j, none⟩ = some (.int .i64 (F j))) (hG : ∀ j, j ≤ t → w.cell? ⟨b2, o2 + j, none⟩ = some (.int .i64 (G j)))
    (h1 : t < n1) (h2 : t < n2) (hb : t ≤ 17592186044416) :
    Calls Try.prog 27 #[.slice (some ⟨b1, o1, none⟩) n1 c1, .slice (some ⟨b2, o2, none⟩) n2 c2, .int .i64 t] w fun e w' => e = .returned (.int .i64 (cv F G t)) ∧ ∃ q, w' = w.drewN q := by
  have ht1 : IntKind.i64.wrap ((t : Int) + 1) = (t : Int) + 1 := wrapIn (by omega)
  go_enter Try.func27, Try.ntmps27
  go_wp2
  go_loopw [7, 11] (fun m i wr => ∃ k q : Nat, k ≤ t + 1 ∧ i = .int .i64 k ∧ m = .int .i64 (lsum F G t k) ∧ wr = w.drewN q) (fun _ i _ => t + 1 - (intOf i).toNat)
  case atStart => exact ⟨0, 0, Nat.zero_le _, rfl, rfl, rfl⟩
  case round =>
    obtain ⟨k, q, hk, rfl, rfl, rfl⟩ := hrel
    by_cases hlt : k < t + 1
    · obtain ⟨d, hd⟩ : ∃ d : Nat, t - k = d := ⟨_, rfl⟩
      have hdi : (t : Int) - k = (d : Int) := by omega
      have cx := hF k (by omega)
      have cy := hG d (by omega)
      have hs : Hid (lsum F G t (k + 1) = min (lsum F G t k) (plus (F k) (G d))) := by rw [← hd]; rfl
      have hl1 : (k : Int) < n1 := by omega
      have hl2 : (d : Int) < n2 := by omega
      have hwd : IntKind.i64.wrap (d : Int) = d := wrapIn (by omega)
      have hlt2 : (k : Int) < (t : Int) + 1 := by omega
      generalize F k = x at cx hs
      generalize G d = y at cy hs
      generalize lsum F G t k = m at hs ⊢
      clear hF hG hd
      go_wp2
      go_region_with (go_at_call 26; refine (plus_any _ _ _).mono ?_; rintro e w'' ⟨rfl, rfl⟩)
      all_goals
        go_wp2
        go_roundw
        case rel => exact ⟨k + 1, q + 1, by omega, by go_num, by rw [hs.out], rfl⟩
        case measure => simp [intOf]; omega
    · obtain rfl : k = t + 1 := by omega
      go_wp2
      go_ret
      exact ⟨rfl, q, rfl⟩

end Go.Proofs.Ytmhdodlgbbaonaa
