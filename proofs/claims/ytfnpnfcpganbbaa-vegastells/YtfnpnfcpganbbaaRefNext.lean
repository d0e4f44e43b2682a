/- PROVED: what the document's own KNext answers. CONDITIONS: none beyond each theorem's own. -/
import Derived.Test.YtfnpnfcpganbbaaRef
namespace Go.Proofs.Ytfnpnfcpganbbaa
open Go.RowKit
set_option linter.unusedVariables false

set_option maxHeartbeats 1600000 in
theorem ref_form (k n b a s q d : Int) (w : World) (h : ¬ kright k n b a s q) :
    Calls Try.prog 8 #[.agg #[.int .i64 k, .int .i64 n, .int .i64 b, .int .i64 a, .int .i64 s, .int .i64 q], .int .i64 d] w fun e w' => e = .returned (.tuple #[.agg #[.int .i64 0, .int .i64 0, .int .i64 0, .int .i64 0, .int .i64 0, .int .i64 0], .int .i64 1]) ∧ Below w.heap.size w w' := by
  have r := fun v => kright_any k n b a s q v
  rw [decide_eq_false h] at r
  clear h
  go_enter Try.func8, Try.ntmps8
  go_wp2_with (go_at_call 11; refine (r _).mono ?_; rintro e w1 ⟨rfl, hb⟩; obtain ⟨d0, d1, d2, d3, d4, d5, g0, g1, g2, g3, g4, g5⟩ := (two hb).2)
  refine bodyPost_ret (v := .tuple #[.agg #[.int .i64 0, .int .i64 0, .int .i64 0, .int .i64 0, .int .i64 0, .int .i64 0], .int .i64 1]) (by simp [results, Try.results8, go_sem, d0, d1, d2, d3, d4, d5]) rfl ⟨rfl, ?_⟩
  repeat (refine Below.setCell ?_ (by simp) _)
  exact up2 hb

set_option maxHeartbeats 1600000 in
theorem ref_range (k n b a s q d : Int) (w : World) (h : kright k n b a s q) (hd : ¬ inr d) :
    Calls Try.prog 8 #[.agg #[.int .i64 k, .int .i64 n, .int .i64 b, .int .i64 a, .int .i64 s, .int .i64 q], .int .i64 d] w fun e w' => e = .returned (.tuple #[.agg #[.int .i64 0, .int .i64 0, .int .i64 0, .int .i64 0, .int .i64 0, .int .i64 0], .int .i64 2]) ∧ Below w.heap.size w w' := by
  have r := fun v => kright_any k n b a s q v
  rw [decide_eq_true h] at r
  clear h
  unfold inr at hd
  by_cases h0 : d < 0
  · clear hd
    go_enter Try.func8, Try.ntmps8
    go_wp2_with (go_at_call 11; refine (r _).mono ?_; rintro e w1 ⟨rfl, hb⟩; obtain ⟨d0, d1, d2, d3, d4, d5, g0, g1, g2, g3, g4, g5⟩ := (two hb).2)
    refine bodyPost_ret (v := .tuple #[.agg #[.int .i64 0, .int .i64 0, .int .i64 0, .int .i64 0, .int .i64 0, .int .i64 0], .int .i64 2]) (by simp [results, Try.results8, go_sem, d0, d1, d2, d3, d4, d5]) rfl ⟨rfl, ?_⟩
    repeat (refine Below.setCell ?_ (by simp) _)
    exact up2 hb
  · have h1 : 1099511627776 < d := by omega
    clear hd
    go_enter Try.func8, Try.ntmps8
    go_wp2_with (go_at_call 11; refine (r _).mono ?_; rintro e w1 ⟨rfl, hb⟩; obtain ⟨d0, d1, d2, d3, d4, d5, g0, g1, g2, g3, g4, g5⟩ := (two hb).2)
    refine bodyPost_ret (v := .tuple #[.agg #[.int .i64 0, .int .i64 0, .int .i64 0, .int .i64 0, .int .i64 0, .int .i64 0], .int .i64 2]) (by simp [results, Try.results8, go_sem, d0, d1, d2, d3, d4, d5]) rfl ⟨rfl, ?_⟩
    repeat (refine Below.setCell ?_ (by simp) _)
    exact up2 hb

set_option maxHeartbeats 1600000 in
theorem ref_more (n b d V B x p : Int) (w : World) (hn : 1 ≤ n ∧ n ≤ 12) (r : ∀ v, Calls Try.prog 11 #[.agg #[.int .i64 1, .int .i64 n, .int .i64 b, .int .i64 0, .int .i64 0, .int .i64 0]] v fun e w' => e = .returned (.bool true) ∧ Below v.heap.size v w')
    (sn : ∀ v, Calls Try.prog 14 #[.agg #[.int .i64 1, .int .i64 n, .int .i64 b, .int .i64 0, .int .i64 0, .int .i64 0], .int .i64 d] v fun e w' => e = .returned (.tuple #[.agg #[.int .i64 1, .int .i64 n, .int .i64 B, .int .i64 0, .int .i64 0, .int .i64 0], .int .i64 x]) ∧ Below v.heap.size v w')
    (c : ∀ v, Calls Try.prog 15 #[.int .i64 (n + 1)] v fun e w' => e = .returned (.int .i64 V) ∧ w' = v) (h0 : 0 ≤ d) (h1 : d ≤ 1099511627776) (hp : n * x = p) (hp0 : 0 ≤ p) (hp1 : p ≤ 13194139533312)
    (h2 : decide (p < 1 + d) = true) :
    Calls Try.prog 8 #[.agg #[.int .i64 1, .int .i64 n, .int .i64 b, .int .i64 0, .int .i64 0, .int .i64 0], .int .i64 d] w fun e w' => e = .returned (.tuple #[.agg #[.int .i64 1, .int .i64 V, .int .i64 B, .int .i64 0, .int .i64 0, .int .i64 0], .int .i64 0]) ∧ Below w.heap.size w w' := by
  go_enter Try.func8, Try.ntmps8
  go_wp2_with (first
    | (go_at_call 11; refine (r _).mono ?_; rintro e w1 ⟨rfl, HB⟩; obtain ⟨X, Y⟩ := two HB; clear r; replace HB := up2 HB; obtain ⟨c0, c1, c2, c3, c4, c5, f0, f1, f2, f3, f4, f5⟩ := X)
    | (go_at_call 14; refine (sn _).mono ?_; rintro e w2 ⟨rfl, b2⟩; clear sn; have X2 := (Ctl.kept ⟨c0, c1, c2, c3, c4, c5, f0, f1, f2, f3, f4, f5⟩ b2); clear c0 c1 c2 c3 c4 c5 f0 f1 f2 f3 f4 f5; replace Y := Y.kept b2; replace HB := bthen HB b2; clear b2; obtain ⟨c0, c1, c2, c3, c4, c5, f0, f1, f2, f3, f4, f5⟩ := X2; obtain ⟨d0, d1, d2, d3, d4, d5, g0, g1, g2, g3, g4, g5⟩ := Y; have z1 : w.heap.size < w2.heap.size := block_lt c0; have z2 : w.heap.size + 1 < w2.heap.size := block_lt d0)
    | (go_at_call 15; refine (c _).mono ?_; rintro e w' ⟨rfl, rfl⟩; clear c))
  refine bodyPost_ret (v := .tuple #[.agg #[.int .i64 1, .int .i64 V, .int .i64 B, .int .i64 0, .int .i64 0, .int .i64 0], .int .i64 0]) (by simp [results, Try.results8, go_sem, d0, d1, d2, d3, d4, d5, z2]) rfl ⟨rfl, ?_⟩
  refine balloc ?_ _
  repeat (refine Below.setCell ?_ (by simp) _)
  exact HB

set_option maxHeartbeats 1600000 in
theorem ref_less (n b d V B x p : Int) (w : World) (hn : 1 ≤ n ∧ n ≤ 12) (r : ∀ v, Calls Try.prog 11 #[.agg #[.int .i64 1, .int .i64 n, .int .i64 b, .int .i64 0, .int .i64 0, .int .i64 0]] v fun e w' => e = .returned (.bool true) ∧ Below v.heap.size v w')
    (sn : ∀ v, Calls Try.prog 14 #[.agg #[.int .i64 1, .int .i64 n, .int .i64 b, .int .i64 0, .int .i64 0, .int .i64 0], .int .i64 d] v fun e w' => e = .returned (.tuple #[.agg #[.int .i64 1, .int .i64 n, .int .i64 B, .int .i64 0, .int .i64 0, .int .i64 0], .int .i64 x]) ∧ Below v.heap.size v w')
    (c : ∀ v, Calls Try.prog 15 #[.int .i64 (n - 1)] v fun e w' => e = .returned (.int .i64 V) ∧ w' = v) (h0 : 0 ≤ d) (h1 : d ≤ 1099511627776) (hp : n * x = p) (hp0 : 0 ≤ p) (hp1 : p ≤ 13194139533312)
    (h2 : decide (p < 1 + d) = false) (h3 : decide (3 * (1 + d) ≤ p) = true) :
    Calls Try.prog 8 #[.agg #[.int .i64 1, .int .i64 n, .int .i64 b, .int .i64 0, .int .i64 0, .int .i64 0], .int .i64 d] w fun e w' => e = .returned (.tuple #[.agg #[.int .i64 1, .int .i64 V, .int .i64 B, .int .i64 0, .int .i64 0, .int .i64 0], .int .i64 0]) ∧ Below w.heap.size w w' := by
  go_enter Try.func8, Try.ntmps8
  go_wp2_with (first
    | (go_at_call 11; refine (r _).mono ?_; rintro e w1 ⟨rfl, HB⟩; obtain ⟨X, Y⟩ := two HB; clear r; replace HB := up2 HB; obtain ⟨c0, c1, c2, c3, c4, c5, f0, f1, f2, f3, f4, f5⟩ := X)
    | (go_at_call 14; refine (sn _).mono ?_; rintro e w2 ⟨rfl, b2⟩; clear sn; have X2 := (Ctl.kept ⟨c0, c1, c2, c3, c4, c5, f0, f1, f2, f3, f4, f5⟩ b2); clear c0 c1 c2 c3 c4 c5 f0 f1 f2 f3 f4 f5; replace Y := Y.kept b2; replace HB := bthen HB b2; clear b2; obtain ⟨c0, c1, c2, c3, c4, c5, f0, f1, f2, f3, f4, f5⟩ := X2; obtain ⟨d0, d1, d2, d3, d4, d5, g0, g1, g2, g3, g4, g5⟩ := Y; have z1 : w.heap.size < w2.heap.size := block_lt c0; have z2 : w.heap.size + 1 < w2.heap.size := block_lt d0)
    | (go_at_call 15; refine (c _).mono ?_; rintro e w' ⟨rfl, rfl⟩; clear c))
  refine bodyPost_ret (v := .tuple #[.agg #[.int .i64 1, .int .i64 V, .int .i64 B, .int .i64 0, .int .i64 0, .int .i64 0], .int .i64 0]) (by simp [results, Try.results8, go_sem, d0, d1, d2, d3, d4, d5, z2]) rfl ⟨rfl, ?_⟩
  refine balloc ?_ _
  repeat (refine Below.setCell ?_ (by simp) _)
  exact HB

set_option maxHeartbeats 1600000 in
theorem ref_stay (n b d V B x p : Int) (w : World) (hn : 1 ≤ n ∧ n ≤ 12) (r : ∀ v, Calls Try.prog 11 #[.agg #[.int .i64 1, .int .i64 n, .int .i64 b, .int .i64 0, .int .i64 0, .int .i64 0]] v fun e w' => e = .returned (.bool true) ∧ Below v.heap.size v w')
    (sn : ∀ v, Calls Try.prog 14 #[.agg #[.int .i64 1, .int .i64 n, .int .i64 b, .int .i64 0, .int .i64 0, .int .i64 0], .int .i64 d] v fun e w' => e = .returned (.tuple #[.agg #[.int .i64 1, .int .i64 n, .int .i64 B, .int .i64 0, .int .i64 0, .int .i64 0], .int .i64 x]) ∧ Below v.heap.size v w')
    (c : ∀ v, Calls Try.prog 15 #[.int .i64 n] v fun e w' => e = .returned (.int .i64 V) ∧ w' = v) (h0 : 0 ≤ d) (h1 : d ≤ 1099511627776) (hp : n * x = p) (hp0 : 0 ≤ p) (hp1 : p ≤ 13194139533312)
    (h2 : decide (p < 1 + d) = false) (h3 : decide (3 * (1 + d) ≤ p) = false) :
    Calls Try.prog 8 #[.agg #[.int .i64 1, .int .i64 n, .int .i64 b, .int .i64 0, .int .i64 0, .int .i64 0], .int .i64 d] w fun e w' => e = .returned (.tuple #[.agg #[.int .i64 1, .int .i64 V, .int .i64 B, .int .i64 0, .int .i64 0, .int .i64 0], .int .i64 0]) ∧ Below w.heap.size w w' := by
  go_enter Try.func8, Try.ntmps8
  go_wp2_with (first
    | (go_at_call 11; refine (r _).mono ?_; rintro e w1 ⟨rfl, HB⟩; obtain ⟨X, Y⟩ := two HB; clear r; replace HB := up2 HB; obtain ⟨c0, c1, c2, c3, c4, c5, f0, f1, f2, f3, f4, f5⟩ := X)
    | (go_at_call 14; refine (sn _).mono ?_; rintro e w2 ⟨rfl, b2⟩; clear sn; have X2 := (Ctl.kept ⟨c0, c1, c2, c3, c4, c5, f0, f1, f2, f3, f4, f5⟩ b2); clear c0 c1 c2 c3 c4 c5 f0 f1 f2 f3 f4 f5; replace Y := Y.kept b2; replace HB := bthen HB b2; clear b2; obtain ⟨c0, c1, c2, c3, c4, c5, f0, f1, f2, f3, f4, f5⟩ := X2; obtain ⟨d0, d1, d2, d3, d4, d5, g0, g1, g2, g3, g4, g5⟩ := Y; have z1 : w.heap.size < w2.heap.size := block_lt c0; have z2 : w.heap.size + 1 < w2.heap.size := block_lt d0)
    | (go_at_call 15; refine (c _).mono ?_; rintro e w' ⟨rfl, rfl⟩; clear c))
  refine bodyPost_ret (v := .tuple #[.agg #[.int .i64 1, .int .i64 V, .int .i64 B, .int .i64 0, .int .i64 0, .int .i64 0], .int .i64 0]) (by simp [results, Try.results8, go_sem, d0, d1, d2, d3, d4, d5, z2]) rfl ⟨rfl, ?_⟩
  refine balloc ?_ _
  repeat (refine Below.setCell ?_ (by simp) _)
  exact HB

end Go.Proofs.Ytfnpnfcpganbbaa
