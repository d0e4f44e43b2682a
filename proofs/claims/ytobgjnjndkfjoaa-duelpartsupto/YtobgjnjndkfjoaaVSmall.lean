/- PROVED: what vegas.within, New and Right answer. CONDITIONS: none beyond each theorem's own. -/
import Derived.Test.YtobgjnjndkfjoaaVSame
import Derived.Test.YtobgjnjndkfjoaaVVegas
import Derived.Deep.RegionWith
import Derived.Deep.CutRange
namespace Go.Proofs.Ytobgjnjndkfjoaa.V
open Go.RowKit

theorem within_any (n : Int) (w : World) :
    Calls Try.prog 50 #[.int .i64 n] w fun e w' => e = .returned (.int .i64 (clip n)) ∧ w' = w := by
  go_enter Try.func50, Try.ntmps50
  go_wp2
  go_ret
  exact ⟨rfl, rfl⟩

theorem new_any (n : Int) (w : World) :
    Calls Try.prog 34 #[.int .i64 n] w fun e w' => e = .returned (.agg #[.int .i64 1, .int .i64 (clip n), .int .i64 (-1), .int .i64 0, .int .i64 0, .int .i64 0]) ∧ Below w.heap.size w w' := by
  have c := fun v => within_any n v
  generalize clip n = m at c ⊢
  go_enter Try.func34, Try.ntmps34
  go_wp2_with (go_at_call 50; refine (c _).mono ?_; rintro e w'' ⟨rfl, rfl⟩)
  exact bodyPost_ret (v := .agg #[.int .i64 1, .int .i64 m, .int .i64 (-1), .int .i64 0, .int .i64 0, .int .i64 0]) (by simp [results, Try.results34, go_sem]) rfl ⟨rfl, (Below.refl _ _).alloc (Nat.le_refl _) _⟩

attribute [local go_sem ↓] eqS

set_option maxHeartbeats 1600000 in
theorem right_of (k n b a s q m : Int) (w : World) (c : ∀ v, Calls Try.prog 50 #[.int .i64 n] v fun e w' => e = .returned (.int .i64 m) ∧ w' = v) (A : Bool) (hA : sameC k n b a s q 1 m b 0 0 0 = A) (B : Bool) (hB : (A && (decide (-1 ≤ b) && decide (b ≤ 1099511627776))) = B) :
    Calls Try.prog 35 #[.agg #[.int .i64 k, .int .i64 n, .int .i64 b, .int .i64 a, .int .i64 s, .int .i64 q]] w fun e w' => e = .returned (.bool B) ∧ Below w.heap.size w w' := by
  have bb : Below w.heap.size w ((w.alloc (.cells #[.int .i64 k, .int .i64 n, .int .i64 b, .int .i64 a, .int .i64 s, .int .i64 q] 26)).alloc (.cells #[.int .i64 1, .int .i64 m, .int .i64 b, .int .i64 0, .int .i64 0, .int .i64 0] 26)).drew := Below.drew (balloc (balloc (Below.refl _ _) _) _)
  go_enter Try.func35, Try.ntmps35
  go_upto_region 1 with (fail)
  go_cut [3] from 4 to 9 (fun l wc => l = .pointer (some ⟨w.heap.size + 1, 0, none⟩) ∧ wc = ((w.alloc (.cells #[.int .i64 k, .int .i64 n, .int .i64 b, .int .i64 a, .int .i64 s, .int .i64 q] 26)).alloc (.cells #[.int .i64 1, .int .i64 m, .int .i64 b, .int .i64 0, .int .i64 0, .int .i64 0] 26)).drew)
  case first =>
    go_region_with (first | (go_at_call 50; refine (c _).mono ?_; rintro e w'' ⟨rfl, rfl⟩))
    all_goals
      go_wp2
      go_meet
      exact ⟨rfl, rfl⟩
  case rest =>
    obtain ⟨rfl, rfl⟩ := hcut
    cases A
    · obtain rfl : false = B := hB
      go_wp2
      go_ret
      exact ⟨rfl, bb⟩
    · by_cases h1 : -1 ≤ b
      · by_cases h2 : b ≤ 1099511627776
        · obtain rfl : true = B := by rw [← hB, decide_eq_true h1, decide_eq_true h2]; rfl
          clear hB
          go_wp2
          go_ret
          exact ⟨rfl, bb⟩
        · obtain rfl : false = B := by rw [← hB, decide_eq_true h1, decide_eq_false h2]; rfl
          have h2' : decide (b ≤ 1099511627776) = false := decide_eq_false h2
          clear hB h2
          go_wp2
          go_ret
          exact ⟨rfl, bb⟩
      · obtain rfl : false = B := by rw [← hB, decide_eq_false h1]; rfl
        have h1' : decide (-1 ≤ b) = false := decide_eq_false h1
        clear hB h1
        go_wp2
        go_ret
        exact ⟨rfl, bb⟩

theorem right_any (k n b a s q : Int) (w : World) :
    Calls Try.prog 35 #[.agg #[.int .i64 k, .int .i64 n, .int .i64 b, .int .i64 a, .int .i64 s, .int .i64 q]] w fun e w' => e = .returned (.bool (decide (kright k n b a s q))) ∧ Below w.heap.size w w' :=
  right_of k n b a s q (clip n) w (within_any n) _ rfl _ (by
    rw [Bool.eq_iff_iff, Bool.and_eq_true, Bool.and_eq_true, decide_eq_true_iff, decide_eq_true_iff, decide_eq_true_iff, same_is]
    unfold kright clip
    omega)

end Go.Proofs.Ytobgjnjndkfjoaa.V
