/- PROVED: what the document's own Lowest answers, whatever its first number's sign. CONDITIONS: none beyond each theorem's own. -/
import Derived.Test.YtdbpgcaodgkcjaaFr
import Derived.Test.YtdbpgcaodgkcjaaMn
namespace Go.Proofs.Ytdbpgcaodgkcjaa
open Go.RowKit

/-- the greatest common part, by whatever way -/
def gcd (a b : Int) : Int := (Int.gcd a b : Int)
theorem gcd_step {a b : Int} (ha : 0 ≤ a) : gcd b (a.tmod b) = gcd a b := by
  unfold gcd
  rw [Int.tmod_eq_emod_of_nonneg ha]
  have : Int.gcd b (a % b) = Int.gcd a b := by
    show Nat.gcd b.natAbs (a % b).natAbs = Nat.gcd a.natAbs b.natAbs
    rw [Int.natAbs_emod_of_nonneg ha, Nat.gcd_comm a.natAbs, Nat.gcd_rec b.natAbs a.natAbs]
    exact Nat.gcd_comm _ _
  rw [this]
theorem gcd_zero {a : Int} (ha : 0 ≤ a) : gcd a 0 = a := by
  unfold gcd
  rw [Int.gcd_zero_right]; omega
theorem gcd_comm (a b : Int) : gcd a b = gcd b a := by unfold gcd; rw [Int.gcd_comm]
theorem gcd_pos {a b : Int} (hb : 0 < b) : 0 < gcd a b := by
  unfold gcd
  have : 0 < Int.gcd a b := Int.gcd_pos_of_ne_zero_right _ (by omega)
  omega

/-- a fraction in lowest terms -/
def low1 (a b : Int) : Int := a.tdiv (gcd a b)
def low2 (a b : Int) : Int := b.tdiv (gcd a b)
theorem tdiv_in {a g : Int} (ha : 0 ≤ a) (hg : 0 < g) : 0 ≤ a.tdiv g ∧ a.tdiv g ≤ a := by
  rw [Int.tdiv_eq_ediv_of_nonneg ha]
  exact ⟨Int.ediv_nonneg ha (by omega), Int.ediv_le_self _ ha⟩

theorem gcd_abs (a b : Int) : gcd (max a (-a)) b = gcd a b := by
  unfold gcd Int.gcd
  rw [show (max a (-a)).natAbs = a.natAbs by omega]
theorem tdiv_any {a g : Int} (ha : -4611686018427387904 ≤ a ∧ a ≤ 4611686018427387904) (hg : 0 < g) : -4611686018427387904 ≤ a.tdiv g ∧ a.tdiv g ≤ 4611686018427387904 := by
  rcases Int.le_total 0 a with h | h
  · have := tdiv_in h hg; omega
  · have := tdiv_in (a := -a) (by omega) hg
    rw [Int.neg_tdiv] at this
    omega
theorem gcd_left {a b : Int} (ha : 0 ≤ a) : gcd (a.tmod b) b = gcd a b := (gcd_comm _ _).trans (gcd_step ha)
theorem gcd_right {a b : Int} (hb : 0 ≤ b) : gcd a (b.tmod a) = gcd a b := (gcd_step hb).trans (gcd_comm _ _)
theorem gcd_max {u v : Int} (hu : 0 ≤ u) (hv : 0 ≤ v) (h : u = 0 ∨ v = 0) : max u v = gcd u v := by
  rcases h with rfl | rfl
  · rw [gcd_comm, gcd_zero hv]; omega
  · rw [gcd_zero hu]; omega

set_option maxHeartbeats 3200000 in
theorem nlowest_any (a b : Int) (w : World) (hb : 0 < b) (ha0 : -4611686018427387904 ≤ a) (ha1 : a ≤ 4611686018427387904) (hb1 : b ≤ 4611686018427387904) :
    Calls Try.prog 19 #[.int .i64 a, .int .i64 b] w fun e w' => e = .returned (.agg #[.int .i64 (low1 a b), .int .i64 (low2 a b)]) ∧ Below w.heap.size w w' := by
  have hp := gcd_pos (a := a) hb
  have h1 := tdiv_any (a := a) (by omega) hp
  have h2 := tdiv_in (a := b) (by omega) hp
  have hg0 : Hid (gcd a b = gcd a b) := rfl
  unfold low1 low2
  generalize hG : gcd a b = G at *
  have d1 : (G == 0) = false := beq_eq_false_iff_ne.2 (by omega)
  have d2 : ¬ G = 0 := by omega
  obtain ⟨A, hA⟩ : ∃ A, a.tdiv G = A := ⟨_, rfl⟩
  obtain ⟨B, hB⟩ : ∃ B, b.tdiv G = B := ⟨_, rfl⟩
  rw [hA] at h1
  rw [hB] at h2
  rw [hA, hB]
  obtain ⟨x1, x2⟩ := h1
  obtain ⟨y1, y2⟩ := h2
  obtain ⟨a2, ha2⟩ : ∃ a2, max a (-a) = a2 := ⟨_, rfl⟩
  have hng : wrap64 (-a) = -a := IntWalk.wrap64_in _ (by omega)
  have hgg : Hid (gcd a2 b = G) := by rw [← ha2, gcd_abs]; exact hG
  have hr2 : Hid (0 ≤ a2 ∧ a2 ≤ 9223372036854775807) := (by omega : 0 ≤ a2 ∧ a2 ≤ 9223372036854775807)
  replace hG : Hid _ := hG
  have X := Fr.new w _ rfl 0 0
  have HB : Below w.heap.size w (w.alloc (.cells #[.int .i64 0, .int .i64 0] 26)) := balloc (Below.refl _ _) _
  go_enter Try.func19, Try.ntmps19
  go_wp2
  generalize w.alloc (.cells #[.int .i64 0, .int .i64 0] 26) = w0 at *
  go_loopw [5, 6] (fun x y wr => ∃ (u v : Int), 0 ≤ u ∧ 0 ≤ v ∧ u ≤ 9223372036854775807 ∧ v ≤ 9223372036854775807 ∧ x = .int .i64 u ∧ y = .int .i64 v ∧ gcd u v = G ∧ w0 = wr) (fun x y _ => (intOf x).toNat + (intOf y).toNat)
  case atStart => exact ⟨a2, b, hr2.out.1, by omega, hr2.out.2, by omega, rfl, rfl, hgg.out, rfl⟩
  case round =>
    obtain ⟨u, v, hu, hv, hu1, hv1, rfl, rfl, hg, rfl⟩ := hrel
    by_cases c1 : 0 < u
    · by_cases c2 : 0 < v
      · by_cases c3 : v < u
        · have hg2 : Hid (gcd (u.tmod v) v = G) := (gcd_left hu).trans hg
          obtain ⟨m, hm⟩ : ∃ m, u.tmod v = m := ⟨_, rfl⟩
          have m0 : 0 ≤ m := by rw [← hm]; exact Int.tmod_nonneg _ hu
          have m1 : m < v := by rw [← hm]; exact Int.tmod_lt_of_pos _ c2
          have z1 : (v == 0) = false := beq_eq_false_iff_ne.2 (by omega)
          have z2 : ¬ v = 0 := by omega
          rw [hm] at hg2
          clear hg hA hB x1 x2 y1 y2 ha2 hng hb ha0 ha1 hb1
          go_wp2
          go_roundw
          case rel => exact ⟨m, v, by omega, by omega, by omega, by omega, rfl, rfl, hg2.out, by first | rfl | trivial⟩
          case measure => simp [intOf]; omega
        · have hg2 : Hid (gcd u (v.tmod u) = G) := (gcd_right hv).trans hg
          obtain ⟨m, hm⟩ : ∃ m, v.tmod u = m := ⟨_, rfl⟩
          have m0 : 0 ≤ m := by rw [← hm]; exact Int.tmod_nonneg _ hv
          have m1 : m < u := by rw [← hm]; exact Int.tmod_lt_of_pos _ c1
          have z1 : (u == 0) = false := beq_eq_false_iff_ne.2 (by omega)
          have z2 : ¬ u = 0 := by omega
          rw [hm] at hg2
          clear hg hA hB x1 x2 y1 y2 ha2 hng hb ha0 ha1 hb1
          go_wp2
          go_roundw
          case rel => exact ⟨u, m, by omega, by omega, by omega, by omega, rfl, rfl, hg2.out, by first | rfl | trivial⟩
          case measure => simp [intOf]; omega
      · have hx : max u v = G := (gcd_max hu hv (.inr (by omega))).trans hg
        have f1 : decide (0 < u) = true := decide_eq_true c1
        have f2 : decide (0 < v) = false := decide_eq_false c2
        clear hg c1 c2 ha2 hng
        obtain ⟨c0, c1, f0, f1⟩ := X
        go_wp2
        go_region
        all_goals
          go_wp2
          refine bodyPost_ret (v := .agg #[.int .i64 A, .int .i64 B]) (by simp [results, Try.results19, go_sem, c0, c1]) rfl ⟨rfl, ?_⟩
          repeat (first | refine Below.setCell ?_ (by simp) _ | refine Below.drew ?_)
          exact HB
    · have hx : max u v = G := (gcd_max hu hv (.inl (by omega))).trans hg
      have f1 : decide (0 < u) = false := decide_eq_false c1
      clear hg c1 ha2 hng
      obtain ⟨c0, c1, f0, f1⟩ := X
      go_wp2
      go_region
      all_goals
        go_wp2
        refine bodyPost_ret (v := .agg #[.int .i64 A, .int .i64 B]) (by simp [results, Try.results19, go_sem, c0, c1]) rfl ⟨rfl, ?_⟩
        repeat (first | refine Below.setCell ?_ (by simp) _ | refine Below.drew ?_)
        exact HB

end Go.Proofs.Ytdbpgcaodgkcjaa
