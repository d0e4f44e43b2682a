/- PROVED: what the document's own NRight, Lowest and NEven answer. CONDITIONS: none beyond each theorem's own. -/
import Derived.Test.YtggnhgbimkfdaaaTold
namespace Go.Proofs.Ytggnhgbimkfdaaa
open Go.RowKit

/-- few, and the first k are small -/
def okB (n : Nat) (z : List Int) : Nat → Bool
  | 0 => decide ((n : Int) ≤ 300)
  | k + 1 => okB n z k && (decide (0 ≤ z.getD k 0) && decide (z.getD k 0 ≤ 1048576))
theorem okB_is (n : Nat) (z : List Int) (k : Nat) : okB n z k = true ↔ n ≤ 300 ∧ ∀ j, j < k → inr (z.getD j 0) := by
  induction k with
  | zero =>
    show decide ((n : Int) ≤ 300) = true ↔ _
    rw [decide_eq_true_eq]
    exact ⟨fun h => ⟨by omega, fun j hj => by omega⟩, fun h => by have := h.1; omega⟩
  | succ k ih =>
    show (okB n z k && (decide (0 ≤ z.getD k 0) && decide (z.getD k 0 ≤ 1048576))) = true ↔ _
    rw [Bool.and_eq_true, Bool.and_eq_true, decide_eq_true_eq, decide_eq_true_eq, ih]
    constructor
    · rintro ⟨⟨h1, h2⟩, h3, h4⟩
      refine ⟨h1, fun j hj => ?_⟩
      by_cases e : j = k
      · subst e; exact ⟨h3, h4⟩
      · exact h2 j (by omega)
    · rintro ⟨h1, h2⟩
      exact ⟨⟨h1, fun j hj => h2 j (by omega)⟩, (h2 k (by omega)).1, (h2 k (by omega)).2⟩
theorem okB_all (z : List Int) : okB z.length z z.length = decide (sright z) := by
  rw [Bool.eq_iff_iff, okB_is, decide_eq_true_eq]
  exact Iff.rfl

set_option maxHeartbeats 1600000 in
theorem nright_any (a : Option Addr) (cap : Nat) (z : List Int) (w : World) (hz : Row w a z) (hl : z.length ≤ 35184372088832) :
    Calls Try.prog 10 #[.slice a z.length cap] w fun e w' => e = .returned (.bool (decide (sright z))) ∧ w' = w := by
  rw [← okB_all]
  obtain ⟨n, hn⟩ : ∃ n, z.length = n := ⟨_, rfl⟩
  have hB : Hid (∀ k, okB n z (k + 1) = (okB n z k && (decide (0 ≤ z.getD k 0) && decide (z.getD k 0 ≤ 1048576)))) := fun k => rfl
  have hB0 : Hid (okB n z 0 = decide ((n : Int) ≤ 300)) := rfl
  rw [hn] at hl ⊢
  generalize okB n z = D at *
  have hzl : Hid (z.length = n) := hn
  clear hn
  go_enter Try.func10, Try.ntmps10
  go_wp2
  go_loopw [3, 11] (fun s i wr => ∃ k : Nat, k ≤ n ∧ i = .int .i64 k ∧ s = .bool (D k) ∧ w = wr) (fun _ i _ => n - (intOf i).toNat)
  case atStart => exact ⟨0, Nat.zero_le _, rfl, by rw [hB0.out], rfl⟩
  case round =>
    obtain ⟨k, hk, rfl, rfl, rfl⟩ := hrel
    by_cases hlt : k < n
    · have q1 := hzl.out
      obtain ⟨b, off, rfl, e1⟩ := hz.at (by omega)
      have cx := e1 k (by omega)
      have hkI : (k : Int) < n := by omega
      have hs := hB.out k
      generalize z.getD k 0 = x at cx hs
      generalize D k = d at hs ⊢
      generalize h2 : D (k + 1) = d2 at hs
      replace h2 : Hid _ := h2
      clear e1 hB q1 hB0
      cases d
      · have e : Hid (d2 = false) := by show d2 = _; rw [hs]; rfl
        clear hs
        go_wp2
        go_roundw
        case rel => exact ⟨k + 1, by omega, by go_num, by rw [h2.out, e.out], by first | rfl | trivial⟩
        case measure => simp [intOf]; omega
      · by_cases c1 : 0 ≤ x
        · have d1 : decide (0 ≤ x) = true := decide_eq_true c1
          have e : Hid (d2 = decide (x ≤ 1048576)) := by show d2 = _; rw [hs, d1]; simp
          clear hs
          go_wp2
          go_roundw
          case rel => exact ⟨k + 1, by omega, by go_num, by rw [h2.out, e.out], by first | rfl | trivial⟩
          case measure => simp [intOf]; omega
        · have d1 : decide (0 ≤ x) = false := decide_eq_false c1
          have e : Hid (d2 = false) := by show d2 = _; rw [hs, d1]; rfl
          clear hs c1
          go_wp2
          go_roundw
          case rel => exact ⟨k + 1, by omega, by go_num, by rw [h2.out, e.out], by first | rfl | trivial⟩
          case measure => simp [intOf]; omega
    · obtain rfl : k = n := by omega
      go_wp2
      go_ret
      exact ⟨rfl, rfl⟩

end Go.Proofs.Ytggnhgbimkfdaaa
