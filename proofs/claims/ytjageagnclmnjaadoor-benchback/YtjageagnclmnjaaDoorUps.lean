/- PROVED: what the verifier's UParse answers, by what it tries: where none fits. CONDITIONS: none beyond each theorem's own. -/
import Derived.Test.YtjageagnclmnjaaDoorUpr
import Derived.Lib.Hide
namespace Go.Proofs.YtjageagnclmnjaaDoor.D
open Go.RowKit K
set_option linter.unusedVariables false

set_option maxRecDepth 100000 in
set_option maxHeartbeats 6400000 in
theorem uparse_none (s : ByteArray) (t : Nat → Nat → Nat → Nat → ByteArray)
    (u : ∀ n a b c : Nat, n < 9 → 1 ≤ a → a ≤ 12 → b < 17 → c < 4 → ∀ v, Calls Tryd.prog 6 #[.agg #[.int .i64 ((n : Int) / 3 + 1), .int .i64 ((n : Int) % 3 + 1), .int .i64 a, .int .i64 b, .int .i64 c]] v fun e w' => e = .returned (.tuple #[.string (t n a b c), .int .i64 0]) ∧ Below v.heap.size v w')
    (hF : ∀ n a b c : Nat, n < 9 → 1 ≤ a → a ≤ 12 → b < 17 → c < 4 → ((t n a b c).toList == s.toList) = false) (w : World) :
    Calls Tryd.prog 8 #[.string s] w fun e w' => e = .returned (.tuple #[.agg #[.int .i64 0, .int .i64 0, .int .i64 0, .int .i64 0, .int .i64 0], .int .i64 1]) ∧ Below w.heap.size w w' := by
  have Z := Rul.new w _ rfl 0 0 0 0 0
  have B : Below w.heap.size w (w.alloc (.cells #[.int .i64 0, .int .i64 0, .int .i64 0, .int .i64 0, .int .i64 0] 24)) := balloc (Below.refl _ _) _
  replace u := Lib.hid u
  replace hF := Lib.hid hF
  go_enter Tryd.func8, Tryd.ntmps8
  go_wp2
  go_loopw [11] (fun i wr => ∃ n : Nat, (n ≤ 9 ∧ n ≤ 9) ∧ i = .int .i64 n ∧ Rul wr w.heap.size 0 0 0 0 0 ∧ Below w.heap.size w wr) (fun i _ => 9 - (intOf i).toNat)
  case atStart => exact ⟨0, by omega, rfl, Z, B⟩
  case round =>
    clear Z B
    obtain ⟨n, hn, rfl, Z, B⟩ := hrel
    by_cases hn9 : n < 9
    · have hnI : (n : Int) < 9 := by omega
      replace hn := Lib.hid hn
      go_wp2
      go_loopw [5] (fun i wr => ∃ a : Nat, 1 ≤ a ∧ (a ≤ 13 ∧ a ≤ 13) ∧ i = .int .i64 a ∧ Rul wr w.heap.size 0 0 0 0 0 ∧ Below w.heap.size w wr) (fun i _ => 13 - (intOf i).toNat)
      case atStart => exact ⟨1, by omega, by have := hn.out; omega, rfl, Z, B⟩
      case round =>
        clear Z B
        obtain ⟨a, ha1, ha, rfl, Z, B⟩ := hrel
        by_cases ha9 : a ≤ 12
        · have haI : (a : Int) ≤ 12 := by omega
          replace ha := Lib.hid ha
          go_wp2
          go_loopw [18] (fun i wr => ∃ b : Nat, (b ≤ 17 ∧ b ≤ 17) ∧ i = .int .i64 b ∧ Rul wr w.heap.size 0 0 0 0 0 ∧ Below w.heap.size w wr) (fun i _ => 17 - (intOf i).toNat)
          case atStart => exact ⟨0, by have := ha.out; omega, rfl, Z, B⟩
          case round =>
            clear Z B
            obtain ⟨b, hb, rfl, Z, B⟩ := hrel
            by_cases hb9 : b < 17
            · have hbI : (b : Int) < 17 := by omega
              replace hb := Lib.hid hb
              go_wp2
              go_loopw [21] (fun i wr => ∃ c : Nat, (c ≤ 4 ∧ c ≤ 4) ∧ i = .int .i64 c ∧ Rul wr w.heap.size 0 0 0 0 0 ∧ Below w.heap.size w wr) (fun i _ => 4 - (intOf i).toNat)
              case atStart => exact ⟨0, by have := hb.out; omega, rfl, Z, B⟩
              case round =>
                clear Z B
                obtain ⟨c, hc, rfl, Z, B⟩ := hrel
                by_cases hc9 : c < 4
                · have hcI : (c : Int) < 4 := by omega
                  replace hc := Lib.hid hc
                  have hf := hF.out n a b c hn9 ha1 ha9 hb9 hc9
                  have hu := Lib.hid (u.out n a b c hn9 ha1 ha9 hb9 hc9)
                  go_wp2_with (go_at_call 6; refine (hu.out _).mono ?_; clear hu; rintro x v ⟨rfl, b'⟩; replace Z := (Z.alloc (.cells #[.int .i64 ((n : Int) / 3 + 1), .int .i64 ((n : Int) % 3 + 1), .int .i64 a, .int .i64 b, .int .i64 c] 24)).kept b'; have X := (Rul.new wr _ rfl ((n : Int) / 3 + 1) ((n : Int) % 3 + 1) a b c).kept b'; replace B := bthen (balloc B _) b'; obtain ⟨x0, x1, x2, x3, x4, -, -, -, -, -⟩ := id X; obtain ⟨z0, z1, z2, z3, z4, y0, y1, y2, y3, y4⟩ := id Z; clear b' X)
                  go_roundw
                  case rel => exact ⟨c + 1, by have := hc.out; omega, by go_num, Z, B⟩
                  case measure => simp [intOf]; omega
                · obtain rfl : c = 4 := by omega
                  replace hc := Lib.hid hc
                  go_wp2
                  go_roundw
                  case rel => exact ⟨b + 1, by have := hc.out; have := hb.out; omega, by go_num, Z, B⟩
                  case measure => simp [intOf]; omega
            · obtain rfl : b = 17 := by omega
              replace hb := Lib.hid hb
              go_wp2
              go_roundw
              case rel => exact ⟨a + 1, by omega, by have := hb.out; have := ha.out; omega, by go_num, Z, B⟩
              case measure => simp [intOf]; omega
        · obtain rfl : a = 13 := by omega
          replace ha := Lib.hid ha
          go_wp2
          go_roundw
          case rel => exact ⟨n + 1, by have := ha.out; have := hn.out; omega, by go_num, Z, B⟩
          case measure => simp [intOf]; omega
    · obtain rfl : n = 9 := by omega
      obtain ⟨z0, z1, z2, z3, z4, y0, y1, y2, y3, y4⟩ := id Z
      go_wp2
      refine bodyPost_ret (v := .tuple #[.agg #[.int .i64 0, .int .i64 0, .int .i64 0, .int .i64 0, .int .i64 0], .int .i64 1]) ?_ rfl ⟨rfl, ?_⟩
      · simp [results, Tryd.results8, go_sem, z0, z1, z2, z3, z4]
      · repeat (with_reducible refine Below.setCell ?_ (by simp) _)
        exact B

end Go.Proofs.YtjageagnclmnjaaDoor.D
