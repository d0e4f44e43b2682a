/- PROVED: what frac.divisor and frac.Lowest answer, whatever the first number's sign. CONDITIONS: none beyond each theorem's own. -/
import Derived.Test.YtdbpgcaodgkcjaaLw
namespace Go.Proofs.Ytdbpgcaodgkcjaa
open Go.RowKit

set_option maxHeartbeats 800000 in
theorem divisor_any (a b : Int) (w : World) (ha : 0 ≤ a) (hb : 0 ≤ b) (ha1 : a ≤ 9223372036854775807) (hb1 : b ≤ 9223372036854775807) :
    Calls Try.prog 26 #[.int .i64 a, .int .i64 b] w fun e w' => e = .returned (.int .i64 (gcd a b)) ∧ ∃ q, w' = w.drewN q := by
  obtain ⟨G, hG⟩ : ∃ G, gcd a b = G := ⟨_, rfl⟩
  rw [hG]
  go_enter Try.func26, Try.ntmps26
  go_wp2
  go_loopw [0, 1] (fun x y wr => ∃ (u v : Int) (q : Nat), 0 ≤ u ∧ 0 ≤ v ∧ u ≤ 9223372036854775807 ∧ v ≤ 9223372036854775807 ∧ x = .int .i64 u ∧ y = .int .i64 v ∧ gcd u v = G ∧ wr = w.drewN q) (fun _ y _ => (intOf y).toNat)
  case atStart => exact ⟨a, b, 0, ha, hb, ha1, hb1, rfl, rfl, hG, rfl⟩
  case round =>
    obtain ⟨u, v, q, hu, hv, hu1, hv1, rfl, rfl, hg, rfl⟩ := hrel
    clear ha hb ha1 hb1 hG
    by_cases c : 0 < v
    · have hg2 : Hid (gcd v (u.tmod v) = G) := (gcd_step hu).trans hg
      obtain ⟨m, hm⟩ : ∃ m, u.tmod v = m := ⟨_, rfl⟩
      have m0 : 0 ≤ m := by rw [← hm]; exact Int.tmod_nonneg _ hu
      have m1 : m < v := by rw [← hm]; exact Int.tmod_lt_of_pos _ c
      have d1 : (v == 0) = false := beq_eq_false_iff_ne.2 (by omega)
      have d2 : ¬ v = 0 := by omega
      rw [hm] at hg2
      clear hg
      go_wp2
      go_region
      all_goals
        go_wp2
        go_roundw
        case rel => exact ⟨v, m, q + 1, by omega, by omega, by omega, by omega, rfl, rfl, hg2.out, by first | rfl | exact World.drewN_drewN _ q 1⟩
        case measure => simp [intOf]; omega
    · obtain rfl : v = 0 := by omega
      have e := hg
      rw [gcd_zero hu] at e
      subst e
      clear hg
      go_wp2
      go_ret
      exact ⟨rfl, q, rfl⟩

set_option maxHeartbeats 1600000 in
theorem lowest_any (a b : Int) (w : World) (hb : 0 < b) (ha0 : -4611686018427387904 ≤ a) (ha1 : a ≤ 4611686018427387904) (hb1 : b ≤ 4611686018427387904) :
    Calls Try.prog 16 #[.int .i64 a, .int .i64 b] w fun e w' => e = .returned (.agg #[.int .i64 (low1 a b), .int .i64 (low2 a b)]) ∧ Below w.heap.size w w' := by
  obtain ⟨a2, ha2⟩ : ∃ a2, max a (-a) = a2 := ⟨_, rfl⟩
  have hng : wrap64 (-a) = -a := IntWalk.wrap64_in _ (by omega)
  have hd := fun w0 => divisor_any a2 b w0 (by omega) (by omega) (by omega) (by omega)
  rw [show gcd a2 b = gcd a b by rw [← ha2, gcd_abs]] at hd
  have hp := gcd_pos (a := a) hb
  have h1 := tdiv_any (a := a) (by omega) hp
  have h2 := tdiv_in (a := b) (by omega) hp
  unfold low1 low2
  generalize gcd a b = G at *
  have d1 : (G == 0) = false := beq_eq_false_iff_ne.2 (by omega)
  have d2 : ¬ G = 0 := by omega
  obtain ⟨A, hA⟩ : ∃ A, a.tdiv G = A := ⟨_, rfl⟩
  obtain ⟨B, hB⟩ : ∃ B, b.tdiv G = B := ⟨_, rfl⟩
  rw [hA] at h1
  rw [hB] at h2
  rw [hA, hB]
  obtain ⟨x1, x2⟩ := h1
  obtain ⟨y1, y2⟩ := h2
  go_enter Try.func16, Try.ntmps16
  go_wp2_with (go_at_call 26; refine (hd _).mono ?_; rintro e w2 ⟨rfl, q, hw⟩; clear hd; have X : Fr w2 w.heap.size 0 0 := (by rw [hw]; exact (Fr.new w _ rfl 0 0).drewN q); have HB : Below w.heap.size w w2 := (by rw [hw]; exact below_drewN (balloc (Below.refl _ _) _) q); clear hw; obtain ⟨c0, c1, f0, f1⟩ := X)
  go_region
  all_goals
    go_wp2
    refine bodyPost_ret (v := .agg #[.int .i64 A, .int .i64 B]) (by simp [results, Try.results16, go_sem, c0, c1]) rfl ⟨rfl, ?_⟩
    repeat (first | refine Below.setCell ?_ (by simp) _ | refine Below.drew ?_)
    exact HB

end Go.Proofs.Ytdbpgcaodgkcjaa
