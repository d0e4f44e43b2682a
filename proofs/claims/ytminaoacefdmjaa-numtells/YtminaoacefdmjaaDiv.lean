/-
  bits.Div64: the quotient.
-/
import Derived.Test.YtminaoacefdmjaaWalks
import Derived.Test.YtminaoacefdmjaaKnuth
namespace Go.Proofs.Ytminaoacefdmjaa
open Go.RowKit

theorem lead_any (y : Int) (s : Nat) (w : World) (h0 : 0 ≤ y) (h1 : y ≤ 18446744073709551615) (hs : 64 - (Lib.bitLen y.toNat : Int) = s) :
    Calls Try.prog 19 #[.int .u64 y] w fun e w' => e = .returned (.int .i64 s) ∧ w' = w := by
  have h := Try.bits_LeadingZeros64 y w h0 h1
  rw [hs] at h
  exact h

/-- A round of the mending: out by the break, out by the test, or on. -/
theorem round_cases {y n1 n0 u u1 g r D : Int} (hA : TwKnuth.At y n1 n0 u u1) (hg : TwKnuth.Guess y n1 u u1 g r) (hD : D = TwKnuth.dig y u u1) :
    (4294967296 ≤ g ∧ 4294967296 ≤ r + n1 ∧ g - 1 = D) ∨ (g < 4294967296 ∧ 4294967296 * r + u1 < g * n0 ∧ 4294967296 ≤ r + n1 ∧ g - 1 = D) ∨
    (g < 4294967296 ∧ g * n0 ≤ 4294967296 * r + u1 ∧ g = D) ∨
    (4294967296 ≤ g ∧ r + n1 < 4294967296 ∧ TwKnuth.Guess y n1 u u1 (g - 1) (r + n1)) ∨
    (g < 4294967296 ∧ 4294967296 * r + u1 < g * n0 ∧ r + n1 < 4294967296 ∧ TwKnuth.Guess y n1 u u1 (g - 1) (r + n1)) := by
  have e : u = (g - 1) * n1 + (r + n1) := by have := hg.e; rw [Int.sub_mul]; omega
  have q1 := hg.q1
  have r0 := hg.r0
  have a0 := hA.a0
  by_cases h : 4294967296 ≤ g
  · have d := TwKnuth.down hA hg (Or.inl h)
    by_cases k : 4294967296 ≤ r + n1
    · exact Or.inl ⟨h, k, by rw [hD]; exact TwKnuth.shut hA e d (by omega) k⟩
    · exact Or.inr (Or.inr (Or.inr (Or.inl ⟨h, by omega, e, by omega, by omega, d, by omega⟩)))
  · by_cases t : 4294967296 * r + u1 < g * n0
    · have d := TwKnuth.down hA hg (Or.inr t)
      by_cases k : 4294967296 ≤ r + n1
      · exact Or.inr (Or.inl ⟨by omega, t, k, by rw [hD]; exact TwKnuth.shut hA e d (by omega) k⟩)
      · exact Or.inr (Or.inr (Or.inr (Or.inr ⟨by omega, t, by omega, e, by omega, by omega, d, by omega⟩)))
    · exact Or.inr (Or.inr (Or.inl ⟨by omega, by omega, by rw [hD]; exact TwKnuth.stop hA hg.e hg.q0 (by omega)⟩))

theorem word_mul {g n0 : Int} (h0 : 0 ≤ g) (h1 : g ≤ 4294967296) (a0 : 0 ≤ n0) (a1 : n0 < 4294967296) : 0 ≤ g * n0 ∧ g * n0 ≤ 18446744073709551615 := by
  refine ⟨Int.mul_nonneg h0 a0, ?_⟩
  have := Int.mul_le_mul h1 (show n0 ≤ 4294967295 by omega) a0 (show (0 : Int) ≤ 4294967296 by omega)
  omega

theorem left_wrap {y n1 n0 u u1 D T : Int} (hA : TwKnuth.At y n1 n0 u u1) (hy : y < 18446744073709551616) (hD : D = TwKnuth.dig y u u1) (hT : T = (u * 4294967296 + u1) % y) :
    IntKind.u64.wrap (IntKind.u64.wrap (IntKind.u64.wrap (u * 4294967296) + u1) - IntKind.u64.wrap (D * y)) = T := by
  rw [IntKind.wrap_u64, IntKind.wrap_u64, IntKind.wrap_u64, IntKind.wrap_u64, hD, hT]
  exact TwKnuth.left hA hy

set_option maxHeartbeats 1000000 in
theorem div64_core (hi lo y Y n1 n0 H L u un10 u1 u0 : Int) (s : Nat) (w : World)
    (hs : 64 - (Lib.bitLen y.toNat : Int) = s) (hs0 : 3 ≤ s) (hs1 : s ≤ 62)
    (hh0 : 0 < hi) (hh1 : hi ≤ 18446744073709551615) (_hl0 : 0 ≤ lo) (_hl1 : lo ≤ 18446744073709551615) (hy0 : hi < y) (hy1 : y ≤ 1152921504606846976)
    (eY : IntKind.u64.wrap (y * 2 ^ s) = Y) (en1 : Y / 4294967296 = n1) (en0 : bits .and .u64 Y 4294967295 = n0)
    (eH : IntKind.u64.wrap (hi * 2 ^ s) = H) (eL : lo / 2 ^ (64 - s) = L) (eu : bits .or .u64 H L = u)
    (e10 : IntKind.u64.wrap (lo * 2 ^ s) = un10) (eu1 : un10 / 4294967296 = u1) (eu0 : bits .and .u64 un10 4294967295 = u0)
    (hY : Y < 18446744073709551616) (hA : TwKnuth.At Y n1 n0 u u1) (hz0 : 0 ≤ u0) (hz1 : u0 < 4294967296) :
    Calls Try.prog 17 #[.int .u64 hi, .int .u64 lo, .int .u64 y] w fun e w' => (∃ r, e = .returned (.tuple #[.int .u64 (TwKnuth.dig Y u u1 * 4294967296 + TwKnuth.dig Y ((u * 4294967296 + u1) % Y) u0), r])) ∧ ∃ n, w' = w.drewN n := by
  have ty : (y == 0) = false := by simp; omega
  have th : (hi == 0) = false := by simp; omega
  have hs' : Hid (64 - (Lib.bitLen y.toNat : Int) = s) := hs
  clear hs
  have hn1 := hA.a0
  have hn1' := hA.a1
  have hn0 := hA.b0
  have hn0' := hA.b1
  have hu0 := hA.c0
  have hu1 : u ≤ 18446744073709551615 := by have := hA.c1; omega
  have hv0 := hA.d0
  have hv1 := hA.d1
  have g0 := TwKnuth.first hA
  have hm0 : 0 ≤ u / n1 * n1 := Int.mul_nonneg (Int.ediv_nonneg hu0 (by omega)) (by omega)
  have hm1 : u / n1 * n1 ≤ u := by have := g0.r0; omega
  obtain ⟨D, hD⟩ : ∃ D, D = TwKnuth.dig Y u u1 := ⟨_, rfl⟩
  obtain ⟨T, hT⟩ : ∃ T, T = (u * 4294967296 + u1) % Y := ⟨_, rfl⟩
  obtain ⟨E, hE⟩ : ∃ E, E = TwKnuth.dig Y T u0 := ⟨_, rfl⟩
  have eT := left_wrap hA hY hD hT
  have hB : TwKnuth.At Y n1 n0 T u0 := by rw [hT]; exact TwKnuth.next hA hz0 hz1
  have hD0 : 0 ≤ D := by rw [hD]; exact TwKnuth.dig_lo hA
  have hD1 : D < 4294967296 := by rw [hD]; exact TwKnuth.dig_hi hA
  have hE0 : 0 ≤ E := by rw [hE]; exact TwKnuth.dig_lo hB
  have hE1 : E < 4294967296 := by rw [hE]; exact TwKnuth.dig_hi hB
  rw [← hD, ← hT, ← hE]
  have HD : Hid (D = TwKnuth.dig Y u u1) := hD
  have HE : Hid (E = TwKnuth.dig Y T u0) := hE
  clear hD hT hE
  have hT0 := hB.c0
  have hT1 : T ≤ 18446744073709551615 := by have := hB.c1; omega
  have k0 := TwKnuth.first hB
  have hk0 : 0 ≤ T / n1 * n1 := Int.mul_nonneg (Int.ediv_nonneg hT0 (by omega)) (by omega)
  have hk1 : T / n1 * n1 ≤ T := by have := k0.r0; omega
  go_enter Try.func17, Try.ntmps17
  go_wp2_with (go_at_call 19; refine (lead_any _ s _ (by omega) (by omega) hs'.out).mono ?_; rintro e w' ⟨rfl, rfl⟩)
  go_loop [15, 16] (fun a b => ∃ g r : Int, a = .int .u64 g ∧ b = .int .u64 r ∧ TwKnuth.Guess Y n1 u u1 g r) (fun a _ => (intOf a).toNat)
  case atStart => exact ⟨u / n1, u - u / n1 * n1, rfl, rfl, g0⟩
  case round =>
    obtain ⟨g, r, rfl, rfl, hg⟩ := hrel
    clear eY en1 en0 eH eL eu e10 eu1 eu0 hm0 hm1 g0
    have gr0 := hg.r0
    have gr1 := hg.r1
    have gq0 : 0 ≤ g := by have := HD.out; have := hg.q0; omega
    have gq1 := hg.q1
    rcases round_cases hA hg HD.out with ⟨c1, c2, c3⟩ | ⟨c1, c2, c3, c4⟩ | ⟨c1, c2, rfl⟩ | ⟨c1, c2, hg'⟩ | ⟨c1, c2, c3, hg'⟩
    case inr.inr.inr.inl =>
      have g1 : 1 ≤ g := by have := HD.out; have := hg'.q0; omega
      go_wp2
      go_round
      case rel => exact ⟨_, _, rfl, rfl, hg'⟩
      case measure => simp [intOf]; omega
    case inr.inr.inr.inr =>
      have g1 : 1 ≤ g := by have := HD.out; have := hg'.q0; omega
      obtain ⟨z0, z1⟩ := word_mul gq0 (by omega) hn0 hn0'
      go_wp2
      go_round
      case rel => exact ⟨_, _, rfl, rfl, hg'⟩
      case measure => simp [intOf]; omega
    all_goals
      clear hg
      first | (obtain ⟨z0, z1⟩ := word_mul gq0 (by omega) hn0 hn0') | skip
      go_wp2
      go_loop [18, 16] (fun a b => ∃ g r : Int, a = .int .u64 g ∧ b = .int .u64 r ∧ TwKnuth.Guess Y n1 T u0 g r) (fun a _ => (intOf a).toNat)
      case atStart => exact ⟨T / n1, T - T / n1 * n1, rfl, rfl, k0⟩
      case round =>
        obtain ⟨f, t, rfl, rfl, hf⟩ := hrel
        clear eT hk0 hk1 k0
        have ft0 := hf.r0
        have ft1 := hf.r1
        have fq0 : 0 ≤ f := by have := HE.out; have := hf.q0; omega
        have fq1 := hf.q1
        rcases round_cases hB hf HE.out with ⟨d1, d2, d3⟩ | ⟨d1, d2, d3, d4⟩ | ⟨d1, d2, rfl⟩ | ⟨d1, d2, hf'⟩ | ⟨d1, d2, d3, hf'⟩
        case inr.inr.inr.inl =>
          have f1 : 1 ≤ f := by have := HE.out; have := hf'.q0; omega
          go_wp2
          go_round
          case rel => exact ⟨_, _, rfl, rfl, hf'⟩
          case measure => simp [intOf]; omega
        case inr.inr.inr.inr =>
          have f1 : 1 ≤ f := by have := HE.out; have := hf'.q0; omega
          obtain ⟨y0, y1⟩ := word_mul fq0 (by omega) hn0 hn0'
          go_wp2
          go_round
          case rel => exact ⟨_, _, rfl, rfl, hf'⟩
          case measure => simp [intOf]; omega
        all_goals
          clear hf
          first | (obtain ⟨y0, y1⟩ := word_mul fq0 (by omega) hn0 hn0') | skip
          go_wp2
          go_ret2
          exact ⟨⟨_, rfl⟩, 0, rfl⟩

end Go.Proofs.Ytminaoacefdmjaa
