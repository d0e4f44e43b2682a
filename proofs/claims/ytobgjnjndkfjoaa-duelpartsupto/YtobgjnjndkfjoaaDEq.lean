/- PROVED: what slices.Equal answers of two rows of rounds that are the same. CONDITIONS: none beyond each theorem's own. -/
import Derived.Test.YtobgjnjndkfjoaaDRow
import Derived.Test.YtobgjnjndkfjoaaKSame
namespace Go.Proofs.Ytobgjnjndkfjoaa.D
open Go.RowKit K

theorem neR (a b c d e f : Int) (w : World) :
    (binOp .neq 34 (.agg #[.int .i64 a, .int .i64 b, .int .i64 c, .int .i64 d, .int .i64 e, .int .i64 f]) (.agg #[.int .i64 a, .int .i64 b, .int .i64 c, .int .i64 d, .int .i64 e, .int .i64 f])).run Try.prog w = .ok (.bool false) w := by
  have h := eqR a b c d e f a b c d e f w
  rw [run_eql_struct] at h
  rw [run_neq_struct]
  rw [sameR_self] at h
  generalize (Op.equalIn 10000 34 (.agg #[.int .i64 a, .int .i64 b, .int .i64 c, .int .i64 d, .int .i64 e, .int .i64 f]) (.agg #[.int .i64 a, .int .i64 b, .int .i64 c, .int .i64 d, .int .i64 e, .int .i64 f])).run Try.prog w = q at h ⊢
  cases q with
  | ok v w' => simp at h ⊢; exact ⟨h.1, h.2⟩
  | halt v w' => simp at h

attribute [local go_sem ↓] neR

set_option maxHeartbeats 3200000 in
theorem equal_same (a1 a2 : Option Addr) (c1 c2 n : Nat) (R : List Rx) (hn : R.length = n) (hb : n ≤ 4398046511104) (w : World) (h1 : RRow w a1 R) (h2 : RRow w a2 R) :
    Calls Try.prog 19 #[.slice a1 n c1, .slice a2 n c2] w fun e w' => e = .returned (.bool true) ∧ ∃ q, w' = w.drewN q := by
  have hlx : Hid (R.length = n) := hn
  clear hn
  go_enter Try.func19, Try.ntmps19
  go_wp2
  go_loopw [13] (fun i wr => ∃ k q : Nat, k ≤ n ∧ i = .int .i64 k ∧ wr = w.drewN q) (fun i _ => n - (intOf i).toNat)
  case atStart => exact ⟨0, 0, Nat.zero_le _, rfl, rfl⟩
  case round =>
    obtain ⟨k, q, hk, rfl, rfl⟩ := hrel
    by_cases hlt : k < n
    · have q1 := hlx.out
      obtain ⟨g1, o1, rfl, e1⟩ := h1.at (by omega)
      obtain ⟨g2, o2, rfl, e2⟩ := h2.at (by omega)
      obtain ⟨x0, x1, x2, x3, x4, x5⟩ := e1 k (by omega)
      obtain ⟨y0, y1, y2, y3, y4, y5⟩ := e2 k (by omega)
      have hkI : (k : Int) < n := by omega
      clear e1 e2 q1 h1 h2
      generalize R.getD k R0 = X at x0 x1 x2 x3 x4 x5 y0 y1 y2 y3 y4 y5
      obtain ⟨a, b, c, d, e, f⟩ := X
      simp only at x0 x1 x2 x3 x4 x5 y0 y1 y2 y3 y4 y5
      go_wp2
      go_quiet (fail)
      go_wp2
      go_roundw
      case rel => exact ⟨k + 1, q + nq, by omega, by go_num, rfl⟩
      case measure => simp [intOf]; omega
    · obtain rfl : k = n := by omega
      go_wp2
      go_ret
      exact ⟨rfl, q, rfl⟩

end Go.Proofs.Ytobgjnjndkfjoaa.D
