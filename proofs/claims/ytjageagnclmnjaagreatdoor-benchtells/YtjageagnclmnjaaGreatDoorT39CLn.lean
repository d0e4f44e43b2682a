/- PROVED: what the verifier's LRight and LNext answer where all is right. what the verifier's LNext answers where all is right. CONDITIONS: none beyond each theorem's own. -/
import Derived.Test.YtjageagnclmnjaaGreatDoorT38VYes
import Derived.Test.YtjageagnclmnjaaGreatDoorB21KRight
namespace Go.Proofs.YtjageagnclmnjaaGreatDoor.C
open Go.RowKit

set_option maxHeartbeats 1600000 in
theorem lrr_yes (n b a s : Int) (w : World) (hn : 1 ≤ n ∧ n ≤ 12) (hb : -1 ≤ b ∧ b ≤ 1099511627776) (ha : a = -1 ∨ a = 0 ∨ a = 1) (hs0 : 0 ≤ s) (hs1 : s < 5) :
    Calls Tryz.prog 160 #[.agg #[.int .i64 2, .int .i64 n, .int .i64 b, .int .i64 a, .int .i64 s, .int .i64 0]] w fun e w' => e = .returned (.bool true) ∧ Below w.heap.size w w' := by
  have kn := fun v => V.known_any 2 n b a s 0 v
  rw [decide_eq_true (show V.knownC n b by unfold V.knownC; omega)] at kn
  have X := Ctl.new w _ rfl 2 n b a s 0
  have bb : Below w.heap.size w (w.alloc (.cells #[.int .i64 2, .int .i64 n, .int .i64 b, .int .i64 a, .int .i64 s, .int .i64 0] 42)) := balloc (Below.refl _ _) _
  rcases ha with rfl | rfl | rfl
  all_goals
    obtain ⟨c0, c1, c2, c3, c4, c5, f0, f1, f2, f3, f4, f5⟩ := id X
    go_enter Tryz.func160, Tryz.ntmps160
    go_wp2_with (go_at_call 169; refine (kn _).mono ?_; clear kn c0 c1 c2 c3 c4 c5 f0 f1 f2 f3 f4 f5; rintro e w1 ⟨rfl, b1⟩; replace X := X.kept b1; replace bb := bthen bb b1; obtain ⟨c0, c1, c2, c3, c4, c5, f0, f1, f2, f3, f4, f5⟩ := id X)
    go_ret
    exact ⟨rfl, bb⟩

end Go.Proofs.YtjageagnclmnjaaGreatDoor.C

namespace Go.Proofs.YtjageagnclmnjaaGreatDoor.C
open Go.RowKit

set_option maxHeartbeats 1600000 in
theorem ln0 (n b d B x p a s V : Int) (w : World) (hne : (1 == a) = false) (r : ∀ v, Calls Tryz.prog 160 #[.agg #[.int .i64 2, .int .i64 n, .int .i64 b, .int .i64 a, .int .i64 s, .int .i64 0]] v fun e w' => e = .returned (.bool true) ∧ Below v.heap.size v w')
    (sn : ∀ v, Calls Tryz.prog 158 #[.agg #[.int .i64 2, .int .i64 n, .int .i64 b, .int .i64 a, .int .i64 s, .int .i64 0], .int .i64 d] v fun e w' => e = .returned (.tuple #[.agg #[.int .i64 2, .int .i64 n, .int .i64 B, .int .i64 a, .int .i64 s, .int .i64 0], .int .i64 x]) ∧ Below v.heap.size v w')
    (c : ∀ v, Calls Tryz.prog 159 #[.int .i64 (n + 1)] v fun e w' => e = .returned (.int .i64 V) ∧ w' = v) (hn : 1 ≤ n ∧ n ≤ 12) (h0 : 0 ≤ d) (h1 : d ≤ 1099511627776) (hp : n * x = p) (hp0 : 0 ≤ p) (hp1 : p ≤ 13194139533312) (h2 : decide (p ≤ 2 * (1 + d)) = true) :
    Calls Tryz.prog 136 #[.agg #[.int .i64 2, .int .i64 n, .int .i64 b, .int .i64 a, .int .i64 s, .int .i64 0], .int .i64 d] w fun e w' => e = .returned (.tuple #[.agg #[.int .i64 2, .int .i64 V, .int .i64 B, .int .i64 1, .int .i64 1, .int .i64 0], .int .i64 0]) ∧ Below w.heap.size w w' := by
  go_enter Tryz.func136, Tryz.ntmps136
  go_wp2_with (first
    | (go_at_call 160; refine (r _).mono ?_; clear r; rintro e w1 ⟨rfl, HB⟩; obtain ⟨X, Y⟩ := two HB; replace HB := up2 HB; obtain ⟨c0, c1, c2, c3, c4, c5, f0, f1, f2, f3, f4, f5⟩ := id X)
    | (go_at_call 158; refine (sn _).mono ?_; clear sn c0 c1 c2 c3 c4 c5 f0 f1 f2 f3 f4 f5; rintro e w2 ⟨rfl, b2⟩; replace X := X.kept b2; replace Y := Y.kept b2; replace HB := bthen HB b2; clear b2; obtain ⟨c0, c1, c2, c3, c4, c5, f0, f1, f2, f3, f4, f5⟩ := X; obtain ⟨d0, d1, d2, d3, d4, d5, g0, g1, g2, g3, g4, g5⟩ := Y; have z1 : w.heap.size < w2.heap.size := block_lt c0; have z2 : w.heap.size + 1 < w2.heap.size := block_lt d0)
    | (go_at_call 159; refine (c _).mono ?_; clear c; rintro e w' ⟨rfl, rfl⟩))
  refine bodyPost_ret (v := .tuple #[.agg #[.int .i64 2, .int .i64 V, .int .i64 B, .int .i64 1, .int .i64 1, .int .i64 0], .int .i64 0]) (by simp [results, Tryz.results136, go_sem, d0, d1, d2, d3, d4, d5, z2]) rfl ⟨rfl, ?_⟩
  repeat (first | with_reducible refine Below.setCell ?_ (by simp) _ | with_reducible refine balloc ?_ _)
  exact HB

set_option maxHeartbeats 1600000 in
theorem ln1 (n b d B x p V : Int) (w : World) (r : ∀ v, Calls Tryz.prog 160 #[.agg #[.int .i64 2, .int .i64 n, .int .i64 b, .int .i64 1, .int .i64 0, .int .i64 0]] v fun e w' => e = .returned (.bool true) ∧ Below v.heap.size v w')
    (sn : ∀ v, Calls Tryz.prog 158 #[.agg #[.int .i64 2, .int .i64 n, .int .i64 b, .int .i64 1, .int .i64 0, .int .i64 0], .int .i64 d] v fun e w' => e = .returned (.tuple #[.agg #[.int .i64 2, .int .i64 n, .int .i64 B, .int .i64 1, .int .i64 0, .int .i64 0], .int .i64 x]) ∧ Below v.heap.size v w')
    (c : ∀ v, Calls Tryz.prog 159 #[.int .i64 (n + 1)] v fun e w' => e = .returned (.int .i64 V) ∧ w' = v) (hn : 1 ≤ n ∧ n ≤ 12) (h0 : 0 ≤ d) (h1 : d ≤ 1099511627776) (hp : n * x = p) (hp0 : 0 ≤ p) (hp1 : p ≤ 13194139533312) (h2 : decide (p ≤ 2 * (1 + d)) = true) :
    Calls Tryz.prog 136 #[.agg #[.int .i64 2, .int .i64 n, .int .i64 b, .int .i64 1, .int .i64 0, .int .i64 0], .int .i64 d] w fun e w' => e = .returned (.tuple #[.agg #[.int .i64 2, .int .i64 V, .int .i64 B, .int .i64 1, .int .i64 1, .int .i64 0], .int .i64 0]) ∧ Below w.heap.size w w' := by
  go_enter Tryz.func136, Tryz.ntmps136
  go_wp2_with (first
    | (go_at_call 160; refine (r _).mono ?_; clear r; rintro e w1 ⟨rfl, HB⟩; obtain ⟨X, Y⟩ := two HB; replace HB := up2 HB; obtain ⟨c0, c1, c2, c3, c4, c5, f0, f1, f2, f3, f4, f5⟩ := id X)
    | (go_at_call 158; refine (sn _).mono ?_; clear sn c0 c1 c2 c3 c4 c5 f0 f1 f2 f3 f4 f5; rintro e w2 ⟨rfl, b2⟩; replace X := X.kept b2; replace Y := Y.kept b2; replace HB := bthen HB b2; clear b2; obtain ⟨c0, c1, c2, c3, c4, c5, f0, f1, f2, f3, f4, f5⟩ := X; obtain ⟨d0, d1, d2, d3, d4, d5, g0, g1, g2, g3, g4, g5⟩ := Y; have z1 : w.heap.size < w2.heap.size := block_lt c0; have z2 : w.heap.size + 1 < w2.heap.size := block_lt d0)
    | (go_at_call 159; refine (c _).mono ?_; clear c; rintro e w' ⟨rfl, rfl⟩))
  refine bodyPost_ret (v := .tuple #[.agg #[.int .i64 2, .int .i64 V, .int .i64 B, .int .i64 1, .int .i64 1, .int .i64 0], .int .i64 0]) (by simp [results, Tryz.results136, go_sem, d0, d1, d2, d3, d4, d5, z2]) rfl ⟨rfl, ?_⟩
  repeat (first | with_reducible refine Below.setCell ?_ (by simp) _ | with_reducible refine balloc ?_ _)
  exact HB

set_option maxHeartbeats 1600000 in
theorem ln2 (n b d B x p V : Int) (w : World) (r : ∀ v, Calls Tryz.prog 160 #[.agg #[.int .i64 2, .int .i64 n, .int .i64 b, .int .i64 1, .int .i64 1, .int .i64 0]] v fun e w' => e = .returned (.bool true) ∧ Below v.heap.size v w')
    (sn : ∀ v, Calls Tryz.prog 158 #[.agg #[.int .i64 2, .int .i64 n, .int .i64 b, .int .i64 1, .int .i64 1, .int .i64 0], .int .i64 d] v fun e w' => e = .returned (.tuple #[.agg #[.int .i64 2, .int .i64 n, .int .i64 B, .int .i64 1, .int .i64 1, .int .i64 0], .int .i64 x]) ∧ Below v.heap.size v w')
    (c : ∀ v, Calls Tryz.prog 159 #[.int .i64 (n + 2)] v fun e w' => e = .returned (.int .i64 V) ∧ w' = v) (hn : 1 ≤ n ∧ n ≤ 12) (h0 : 0 ≤ d) (h1 : d ≤ 1099511627776) (hp : n * x = p) (hp0 : 0 ≤ p) (hp1 : p ≤ 13194139533312) (h2 : decide (p ≤ 2 * (1 + d)) = true) :
    Calls Tryz.prog 136 #[.agg #[.int .i64 2, .int .i64 n, .int .i64 b, .int .i64 1, .int .i64 1, .int .i64 0], .int .i64 d] w fun e w' => e = .returned (.tuple #[.agg #[.int .i64 2, .int .i64 V, .int .i64 B, .int .i64 1, .int .i64 2, .int .i64 0], .int .i64 0]) ∧ Below w.heap.size w w' := by
  go_enter Tryz.func136, Tryz.ntmps136
  go_wp2_with (first
    | (go_at_call 160; refine (r _).mono ?_; clear r; rintro e w1 ⟨rfl, HB⟩; obtain ⟨X, Y⟩ := two HB; replace HB := up2 HB; obtain ⟨c0, c1, c2, c3, c4, c5, f0, f1, f2, f3, f4, f5⟩ := id X)
    | (go_at_call 158; refine (sn _).mono ?_; clear sn c0 c1 c2 c3 c4 c5 f0 f1 f2 f3 f4 f5; rintro e w2 ⟨rfl, b2⟩; replace X := X.kept b2; replace Y := Y.kept b2; replace HB := bthen HB b2; clear b2; obtain ⟨c0, c1, c2, c3, c4, c5, f0, f1, f2, f3, f4, f5⟩ := X; obtain ⟨d0, d1, d2, d3, d4, d5, g0, g1, g2, g3, g4, g5⟩ := Y; have z1 : w.heap.size < w2.heap.size := block_lt c0; have z2 : w.heap.size + 1 < w2.heap.size := block_lt d0)
    | (go_at_call 159; refine (c _).mono ?_; clear c; rintro e w' ⟨rfl, rfl⟩))
  refine bodyPost_ret (v := .tuple #[.agg #[.int .i64 2, .int .i64 V, .int .i64 B, .int .i64 1, .int .i64 2, .int .i64 0], .int .i64 0]) (by simp [results, Tryz.results136, go_sem, d0, d1, d2, d3, d4, d5, z1, z2]) rfl ⟨rfl, ?_⟩
  repeat (first | with_reducible refine Below.setCell ?_ (by simp) _ | with_reducible refine balloc ?_ _)
  exact HB

set_option maxHeartbeats 1600000 in
theorem ln3 (n b d B x p V : Int) (w : World) (r : ∀ v, Calls Tryz.prog 160 #[.agg #[.int .i64 2, .int .i64 n, .int .i64 b, .int .i64 1, .int .i64 2, .int .i64 0]] v fun e w' => e = .returned (.bool true) ∧ Below v.heap.size v w')
    (sn : ∀ v, Calls Tryz.prog 158 #[.agg #[.int .i64 2, .int .i64 n, .int .i64 b, .int .i64 1, .int .i64 2, .int .i64 0], .int .i64 d] v fun e w' => e = .returned (.tuple #[.agg #[.int .i64 2, .int .i64 n, .int .i64 B, .int .i64 1, .int .i64 2, .int .i64 0], .int .i64 x]) ∧ Below v.heap.size v w')
    (c : ∀ v, Calls Tryz.prog 159 #[.int .i64 (n + 4)] v fun e w' => e = .returned (.int .i64 V) ∧ w' = v) (hn : 1 ≤ n ∧ n ≤ 12) (h0 : 0 ≤ d) (h1 : d ≤ 1099511627776) (hp : n * x = p) (hp0 : 0 ≤ p) (hp1 : p ≤ 13194139533312) (h2 : decide (p ≤ 2 * (1 + d)) = true) :
    Calls Tryz.prog 136 #[.agg #[.int .i64 2, .int .i64 n, .int .i64 b, .int .i64 1, .int .i64 2, .int .i64 0], .int .i64 d] w fun e w' => e = .returned (.tuple #[.agg #[.int .i64 2, .int .i64 V, .int .i64 B, .int .i64 1, .int .i64 4, .int .i64 0], .int .i64 0]) ∧ Below w.heap.size w w' := by
  go_enter Tryz.func136, Tryz.ntmps136
  go_wp2_with (first
    | (go_at_call 160; refine (r _).mono ?_; clear r; rintro e w1 ⟨rfl, HB⟩; obtain ⟨X, Y⟩ := two HB; replace HB := up2 HB; obtain ⟨c0, c1, c2, c3, c4, c5, f0, f1, f2, f3, f4, f5⟩ := id X)
    | (go_at_call 158; refine (sn _).mono ?_; clear sn c0 c1 c2 c3 c4 c5 f0 f1 f2 f3 f4 f5; rintro e w2 ⟨rfl, b2⟩; replace X := X.kept b2; replace Y := Y.kept b2; replace HB := bthen HB b2; clear b2; obtain ⟨c0, c1, c2, c3, c4, c5, f0, f1, f2, f3, f4, f5⟩ := X; obtain ⟨d0, d1, d2, d3, d4, d5, g0, g1, g2, g3, g4, g5⟩ := Y; have z1 : w.heap.size < w2.heap.size := block_lt c0; have z2 : w.heap.size + 1 < w2.heap.size := block_lt d0)
    | (go_at_call 159; refine (c _).mono ?_; clear c; rintro e w' ⟨rfl, rfl⟩))
  refine bodyPost_ret (v := .tuple #[.agg #[.int .i64 2, .int .i64 V, .int .i64 B, .int .i64 1, .int .i64 4, .int .i64 0], .int .i64 0]) (by simp [results, Tryz.results136, go_sem, d0, d1, d2, d3, d4, d5, z1, z2]) rfl ⟨rfl, ?_⟩
  repeat (first | with_reducible refine Below.setCell ?_ (by simp) _ | with_reducible refine balloc ?_ _)
  exact HB

set_option maxHeartbeats 1600000 in
theorem ln4 (n b d B x p V : Int) (w : World) (r : ∀ v, Calls Tryz.prog 160 #[.agg #[.int .i64 2, .int .i64 n, .int .i64 b, .int .i64 1, .int .i64 3, .int .i64 0]] v fun e w' => e = .returned (.bool true) ∧ Below v.heap.size v w')
    (sn : ∀ v, Calls Tryz.prog 158 #[.agg #[.int .i64 2, .int .i64 n, .int .i64 b, .int .i64 1, .int .i64 3, .int .i64 0], .int .i64 d] v fun e w' => e = .returned (.tuple #[.agg #[.int .i64 2, .int .i64 n, .int .i64 B, .int .i64 1, .int .i64 3, .int .i64 0], .int .i64 x]) ∧ Below v.heap.size v w')
    (c : ∀ v, Calls Tryz.prog 159 #[.int .i64 (n + 4)] v fun e w' => e = .returned (.int .i64 V) ∧ w' = v) (hn : 1 ≤ n ∧ n ≤ 12) (h0 : 0 ≤ d) (h1 : d ≤ 1099511627776) (hp : n * x = p) (hp0 : 0 ≤ p) (hp1 : p ≤ 13194139533312) (h2 : decide (p ≤ 2 * (1 + d)) = true) :
    Calls Tryz.prog 136 #[.agg #[.int .i64 2, .int .i64 n, .int .i64 b, .int .i64 1, .int .i64 3, .int .i64 0], .int .i64 d] w fun e w' => e = .returned (.tuple #[.agg #[.int .i64 2, .int .i64 V, .int .i64 B, .int .i64 1, .int .i64 4, .int .i64 0], .int .i64 0]) ∧ Below w.heap.size w w' := by
  go_enter Tryz.func136, Tryz.ntmps136
  go_wp2_with (first
    | (go_at_call 160; refine (r _).mono ?_; clear r; rintro e w1 ⟨rfl, HB⟩; obtain ⟨X, Y⟩ := two HB; replace HB := up2 HB; obtain ⟨c0, c1, c2, c3, c4, c5, f0, f1, f2, f3, f4, f5⟩ := id X)
    | (go_at_call 158; refine (sn _).mono ?_; clear sn c0 c1 c2 c3 c4 c5 f0 f1 f2 f3 f4 f5; rintro e w2 ⟨rfl, b2⟩; replace X := X.kept b2; replace Y := Y.kept b2; replace HB := bthen HB b2; clear b2; obtain ⟨c0, c1, c2, c3, c4, c5, f0, f1, f2, f3, f4, f5⟩ := X; obtain ⟨d0, d1, d2, d3, d4, d5, g0, g1, g2, g3, g4, g5⟩ := Y; have z1 : w.heap.size < w2.heap.size := block_lt c0; have z2 : w.heap.size + 1 < w2.heap.size := block_lt d0)
    | (go_at_call 159; refine (c _).mono ?_; clear c; rintro e w' ⟨rfl, rfl⟩))
  refine bodyPost_ret (v := .tuple #[.agg #[.int .i64 2, .int .i64 V, .int .i64 B, .int .i64 1, .int .i64 4, .int .i64 0], .int .i64 0]) (by simp [results, Tryz.results136, go_sem, d0, d1, d2, d3, d4, d5, z1, z2]) rfl ⟨rfl, ?_⟩
  repeat (first | with_reducible refine Below.setCell ?_ (by simp) _ | with_reducible refine balloc ?_ _)
  exact HB

set_option maxHeartbeats 1600000 in
theorem ln5 (n b d B x p V : Int) (w : World) (r : ∀ v, Calls Tryz.prog 160 #[.agg #[.int .i64 2, .int .i64 n, .int .i64 b, .int .i64 1, .int .i64 4, .int .i64 0]] v fun e w' => e = .returned (.bool true) ∧ Below v.heap.size v w')
    (sn : ∀ v, Calls Tryz.prog 158 #[.agg #[.int .i64 2, .int .i64 n, .int .i64 b, .int .i64 1, .int .i64 4, .int .i64 0], .int .i64 d] v fun e w' => e = .returned (.tuple #[.agg #[.int .i64 2, .int .i64 n, .int .i64 B, .int .i64 1, .int .i64 4, .int .i64 0], .int .i64 x]) ∧ Below v.heap.size v w')
    (c : ∀ v, Calls Tryz.prog 159 #[.int .i64 (n + 4)] v fun e w' => e = .returned (.int .i64 V) ∧ w' = v) (hn : 1 ≤ n ∧ n ≤ 12) (h0 : 0 ≤ d) (h1 : d ≤ 1099511627776) (hp : n * x = p) (hp0 : 0 ≤ p) (hp1 : p ≤ 13194139533312) (h2 : decide (p ≤ 2 * (1 + d)) = true) :
    Calls Tryz.prog 136 #[.agg #[.int .i64 2, .int .i64 n, .int .i64 b, .int .i64 1, .int .i64 4, .int .i64 0], .int .i64 d] w fun e w' => e = .returned (.tuple #[.agg #[.int .i64 2, .int .i64 V, .int .i64 B, .int .i64 1, .int .i64 4, .int .i64 0], .int .i64 0]) ∧ Below w.heap.size w w' := by
  go_enter Tryz.func136, Tryz.ntmps136
  go_wp2_with (first
    | (go_at_call 160; refine (r _).mono ?_; clear r; rintro e w1 ⟨rfl, HB⟩; obtain ⟨X, Y⟩ := two HB; replace HB := up2 HB; obtain ⟨c0, c1, c2, c3, c4, c5, f0, f1, f2, f3, f4, f5⟩ := id X)
    | (go_at_call 158; refine (sn _).mono ?_; clear sn c0 c1 c2 c3 c4 c5 f0 f1 f2 f3 f4 f5; rintro e w2 ⟨rfl, b2⟩; replace X := X.kept b2; replace Y := Y.kept b2; replace HB := bthen HB b2; clear b2; obtain ⟨c0, c1, c2, c3, c4, c5, f0, f1, f2, f3, f4, f5⟩ := X; obtain ⟨d0, d1, d2, d3, d4, d5, g0, g1, g2, g3, g4, g5⟩ := Y; have z1 : w.heap.size < w2.heap.size := block_lt c0; have z2 : w.heap.size + 1 < w2.heap.size := block_lt d0)
    | (go_at_call 159; refine (c _).mono ?_; clear c; rintro e w' ⟨rfl, rfl⟩))
  refine bodyPost_ret (v := .tuple #[.agg #[.int .i64 2, .int .i64 V, .int .i64 B, .int .i64 1, .int .i64 4, .int .i64 0], .int .i64 0]) (by simp [results, Tryz.results136, go_sem, d0, d1, d2, d3, d4, d5, z1, z2]) rfl ⟨rfl, ?_⟩
  repeat (first | with_reducible refine Below.setCell ?_ (by simp) _ | with_reducible refine balloc ?_ _)
  exact HB

set_option maxHeartbeats 1600000 in
theorem ln6 (n b d B x p a s V : Int) (w : World) (hne : ((-1) == a) = false) (r : ∀ v, Calls Tryz.prog 160 #[.agg #[.int .i64 2, .int .i64 n, .int .i64 b, .int .i64 a, .int .i64 s, .int .i64 0]] v fun e w' => e = .returned (.bool true) ∧ Below v.heap.size v w')
    (sn : ∀ v, Calls Tryz.prog 158 #[.agg #[.int .i64 2, .int .i64 n, .int .i64 b, .int .i64 a, .int .i64 s, .int .i64 0], .int .i64 d] v fun e w' => e = .returned (.tuple #[.agg #[.int .i64 2, .int .i64 n, .int .i64 B, .int .i64 a, .int .i64 s, .int .i64 0], .int .i64 x]) ∧ Below v.heap.size v w')
    (c : ∀ v, Calls Tryz.prog 159 #[.int .i64 (n + (-1))] v fun e w' => e = .returned (.int .i64 V) ∧ w' = v) (hn : 1 ≤ n ∧ n ≤ 12) (h0 : 0 ≤ d) (h1 : d ≤ 1099511627776) (hp : n * x = p) (hp0 : 0 ≤ p) (hp1 : p ≤ 13194139533312) (h2 : decide (p ≤ 2 * (1 + d)) = false) :
    Calls Tryz.prog 136 #[.agg #[.int .i64 2, .int .i64 n, .int .i64 b, .int .i64 a, .int .i64 s, .int .i64 0], .int .i64 d] w fun e w' => e = .returned (.tuple #[.agg #[.int .i64 2, .int .i64 V, .int .i64 B, .int .i64 (-1), .int .i64 1, .int .i64 0], .int .i64 0]) ∧ Below w.heap.size w w' := by
  go_enter Tryz.func136, Tryz.ntmps136
  go_wp2_with (first
    | (go_at_call 160; refine (r _).mono ?_; clear r; rintro e w1 ⟨rfl, HB⟩; obtain ⟨X, Y⟩ := two HB; replace HB := up2 HB; obtain ⟨c0, c1, c2, c3, c4, c5, f0, f1, f2, f3, f4, f5⟩ := id X)
    | (go_at_call 158; refine (sn _).mono ?_; clear sn c0 c1 c2 c3 c4 c5 f0 f1 f2 f3 f4 f5; rintro e w2 ⟨rfl, b2⟩; replace X := X.kept b2; replace Y := Y.kept b2; replace HB := bthen HB b2; clear b2; obtain ⟨c0, c1, c2, c3, c4, c5, f0, f1, f2, f3, f4, f5⟩ := X; obtain ⟨d0, d1, d2, d3, d4, d5, g0, g1, g2, g3, g4, g5⟩ := Y; have z1 : w.heap.size < w2.heap.size := block_lt c0; have z2 : w.heap.size + 1 < w2.heap.size := block_lt d0)
    | (go_at_call 159; refine (c _).mono ?_; clear c; rintro e w' ⟨rfl, rfl⟩))
  refine bodyPost_ret (v := .tuple #[.agg #[.int .i64 2, .int .i64 V, .int .i64 B, .int .i64 (-1), .int .i64 1, .int .i64 0], .int .i64 0]) (by simp [results, Tryz.results136, go_sem, d0, d1, d2, d3, d4, d5, z2]) rfl ⟨rfl, ?_⟩
  repeat (first | with_reducible refine Below.setCell ?_ (by simp) _ | with_reducible refine balloc ?_ _)
  exact HB

set_option maxHeartbeats 1600000 in
theorem ln7 (n b d B x p V : Int) (w : World) (r : ∀ v, Calls Tryz.prog 160 #[.agg #[.int .i64 2, .int .i64 n, .int .i64 b, .int .i64 (-1), .int .i64 0, .int .i64 0]] v fun e w' => e = .returned (.bool true) ∧ Below v.heap.size v w')
    (sn : ∀ v, Calls Tryz.prog 158 #[.agg #[.int .i64 2, .int .i64 n, .int .i64 b, .int .i64 (-1), .int .i64 0, .int .i64 0], .int .i64 d] v fun e w' => e = .returned (.tuple #[.agg #[.int .i64 2, .int .i64 n, .int .i64 B, .int .i64 (-1), .int .i64 0, .int .i64 0], .int .i64 x]) ∧ Below v.heap.size v w')
    (c : ∀ v, Calls Tryz.prog 159 #[.int .i64 (n + (-1))] v fun e w' => e = .returned (.int .i64 V) ∧ w' = v) (hn : 1 ≤ n ∧ n ≤ 12) (h0 : 0 ≤ d) (h1 : d ≤ 1099511627776) (hp : n * x = p) (hp0 : 0 ≤ p) (hp1 : p ≤ 13194139533312) (h2 : decide (p ≤ 2 * (1 + d)) = false) :
    Calls Tryz.prog 136 #[.agg #[.int .i64 2, .int .i64 n, .int .i64 b, .int .i64 (-1), .int .i64 0, .int .i64 0], .int .i64 d] w fun e w' => e = .returned (.tuple #[.agg #[.int .i64 2, .int .i64 V, .int .i64 B, .int .i64 (-1), .int .i64 1, .int .i64 0], .int .i64 0]) ∧ Below w.heap.size w w' := by
  go_enter Tryz.func136, Tryz.ntmps136
  go_wp2_with (first
    | (go_at_call 160; refine (r _).mono ?_; clear r; rintro e w1 ⟨rfl, HB⟩; obtain ⟨X, Y⟩ := two HB; replace HB := up2 HB; obtain ⟨c0, c1, c2, c3, c4, c5, f0, f1, f2, f3, f4, f5⟩ := id X)
    | (go_at_call 158; refine (sn _).mono ?_; clear sn c0 c1 c2 c3 c4 c5 f0 f1 f2 f3 f4 f5; rintro e w2 ⟨rfl, b2⟩; replace X := X.kept b2; replace Y := Y.kept b2; replace HB := bthen HB b2; clear b2; obtain ⟨c0, c1, c2, c3, c4, c5, f0, f1, f2, f3, f4, f5⟩ := X; obtain ⟨d0, d1, d2, d3, d4, d5, g0, g1, g2, g3, g4, g5⟩ := Y; have z1 : w.heap.size < w2.heap.size := block_lt c0; have z2 : w.heap.size + 1 < w2.heap.size := block_lt d0)
    | (go_at_call 159; refine (c _).mono ?_; clear c; rintro e w' ⟨rfl, rfl⟩))
  refine bodyPost_ret (v := .tuple #[.agg #[.int .i64 2, .int .i64 V, .int .i64 B, .int .i64 (-1), .int .i64 1, .int .i64 0], .int .i64 0]) (by simp [results, Tryz.results136, go_sem, d0, d1, d2, d3, d4, d5, z2]) rfl ⟨rfl, ?_⟩
  repeat (first | with_reducible refine Below.setCell ?_ (by simp) _ | with_reducible refine balloc ?_ _)
  exact HB

set_option maxHeartbeats 1600000 in
theorem ln8 (n b d B x p V : Int) (w : World) (r : ∀ v, Calls Tryz.prog 160 #[.agg #[.int .i64 2, .int .i64 n, .int .i64 b, .int .i64 (-1), .int .i64 1, .int .i64 0]] v fun e w' => e = .returned (.bool true) ∧ Below v.heap.size v w')
    (sn : ∀ v, Calls Tryz.prog 158 #[.agg #[.int .i64 2, .int .i64 n, .int .i64 b, .int .i64 (-1), .int .i64 1, .int .i64 0], .int .i64 d] v fun e w' => e = .returned (.tuple #[.agg #[.int .i64 2, .int .i64 n, .int .i64 B, .int .i64 (-1), .int .i64 1, .int .i64 0], .int .i64 x]) ∧ Below v.heap.size v w')
    (c : ∀ v, Calls Tryz.prog 159 #[.int .i64 (n + (-2))] v fun e w' => e = .returned (.int .i64 V) ∧ w' = v) (hn : 1 ≤ n ∧ n ≤ 12) (h0 : 0 ≤ d) (h1 : d ≤ 1099511627776) (hp : n * x = p) (hp0 : 0 ≤ p) (hp1 : p ≤ 13194139533312) (h2 : decide (p ≤ 2 * (1 + d)) = false) :
    Calls Tryz.prog 136 #[.agg #[.int .i64 2, .int .i64 n, .int .i64 b, .int .i64 (-1), .int .i64 1, .int .i64 0], .int .i64 d] w fun e w' => e = .returned (.tuple #[.agg #[.int .i64 2, .int .i64 V, .int .i64 B, .int .i64 (-1), .int .i64 2, .int .i64 0], .int .i64 0]) ∧ Below w.heap.size w w' := by
  go_enter Tryz.func136, Tryz.ntmps136
  go_wp2_with (first
    | (go_at_call 160; refine (r _).mono ?_; clear r; rintro e w1 ⟨rfl, HB⟩; obtain ⟨X, Y⟩ := two HB; replace HB := up2 HB; obtain ⟨c0, c1, c2, c3, c4, c5, f0, f1, f2, f3, f4, f5⟩ := id X)
    | (go_at_call 158; refine (sn _).mono ?_; clear sn c0 c1 c2 c3 c4 c5 f0 f1 f2 f3 f4 f5; rintro e w2 ⟨rfl, b2⟩; replace X := X.kept b2; replace Y := Y.kept b2; replace HB := bthen HB b2; clear b2; obtain ⟨c0, c1, c2, c3, c4, c5, f0, f1, f2, f3, f4, f5⟩ := X; obtain ⟨d0, d1, d2, d3, d4, d5, g0, g1, g2, g3, g4, g5⟩ := Y; have z1 : w.heap.size < w2.heap.size := block_lt c0; have z2 : w.heap.size + 1 < w2.heap.size := block_lt d0)
    | (go_at_call 159; refine (c _).mono ?_; clear c; rintro e w' ⟨rfl, rfl⟩))
  refine bodyPost_ret (v := .tuple #[.agg #[.int .i64 2, .int .i64 V, .int .i64 B, .int .i64 (-1), .int .i64 2, .int .i64 0], .int .i64 0]) (by simp [results, Tryz.results136, go_sem, d0, d1, d2, d3, d4, d5, z1, z2]) rfl ⟨rfl, ?_⟩
  repeat (first | with_reducible refine Below.setCell ?_ (by simp) _ | with_reducible refine balloc ?_ _)
  exact HB

set_option maxHeartbeats 1600000 in
theorem ln9 (n b d B x p V : Int) (w : World) (r : ∀ v, Calls Tryz.prog 160 #[.agg #[.int .i64 2, .int .i64 n, .int .i64 b, .int .i64 (-1), .int .i64 2, .int .i64 0]] v fun e w' => e = .returned (.bool true) ∧ Below v.heap.size v w')
    (sn : ∀ v, Calls Tryz.prog 158 #[.agg #[.int .i64 2, .int .i64 n, .int .i64 b, .int .i64 (-1), .int .i64 2, .int .i64 0], .int .i64 d] v fun e w' => e = .returned (.tuple #[.agg #[.int .i64 2, .int .i64 n, .int .i64 B, .int .i64 (-1), .int .i64 2, .int .i64 0], .int .i64 x]) ∧ Below v.heap.size v w')
    (c : ∀ v, Calls Tryz.prog 159 #[.int .i64 (n + (-4))] v fun e w' => e = .returned (.int .i64 V) ∧ w' = v) (hn : 1 ≤ n ∧ n ≤ 12) (h0 : 0 ≤ d) (h1 : d ≤ 1099511627776) (hp : n * x = p) (hp0 : 0 ≤ p) (hp1 : p ≤ 13194139533312) (h2 : decide (p ≤ 2 * (1 + d)) = false) :
    Calls Tryz.prog 136 #[.agg #[.int .i64 2, .int .i64 n, .int .i64 b, .int .i64 (-1), .int .i64 2, .int .i64 0], .int .i64 d] w fun e w' => e = .returned (.tuple #[.agg #[.int .i64 2, .int .i64 V, .int .i64 B, .int .i64 (-1), .int .i64 4, .int .i64 0], .int .i64 0]) ∧ Below w.heap.size w w' := by
  go_enter Tryz.func136, Tryz.ntmps136
  go_wp2_with (first
    | (go_at_call 160; refine (r _).mono ?_; clear r; rintro e w1 ⟨rfl, HB⟩; obtain ⟨X, Y⟩ := two HB; replace HB := up2 HB; obtain ⟨c0, c1, c2, c3, c4, c5, f0, f1, f2, f3, f4, f5⟩ := id X)
    | (go_at_call 158; refine (sn _).mono ?_; clear sn c0 c1 c2 c3 c4 c5 f0 f1 f2 f3 f4 f5; rintro e w2 ⟨rfl, b2⟩; replace X := X.kept b2; replace Y := Y.kept b2; replace HB := bthen HB b2; clear b2; obtain ⟨c0, c1, c2, c3, c4, c5, f0, f1, f2, f3, f4, f5⟩ := X; obtain ⟨d0, d1, d2, d3, d4, d5, g0, g1, g2, g3, g4, g5⟩ := Y; have z1 : w.heap.size < w2.heap.size := block_lt c0; have z2 : w.heap.size + 1 < w2.heap.size := block_lt d0)
    | (go_at_call 159; refine (c _).mono ?_; clear c; rintro e w' ⟨rfl, rfl⟩))
  refine bodyPost_ret (v := .tuple #[.agg #[.int .i64 2, .int .i64 V, .int .i64 B, .int .i64 (-1), .int .i64 4, .int .i64 0], .int .i64 0]) (by simp [results, Tryz.results136, go_sem, d0, d1, d2, d3, d4, d5, z1, z2]) rfl ⟨rfl, ?_⟩
  repeat (first | with_reducible refine Below.setCell ?_ (by simp) _ | with_reducible refine balloc ?_ _)
  exact HB

set_option maxHeartbeats 1600000 in
theorem ln10 (n b d B x p V : Int) (w : World) (r : ∀ v, Calls Tryz.prog 160 #[.agg #[.int .i64 2, .int .i64 n, .int .i64 b, .int .i64 (-1), .int .i64 3, .int .i64 0]] v fun e w' => e = .returned (.bool true) ∧ Below v.heap.size v w')
    (sn : ∀ v, Calls Tryz.prog 158 #[.agg #[.int .i64 2, .int .i64 n, .int .i64 b, .int .i64 (-1), .int .i64 3, .int .i64 0], .int .i64 d] v fun e w' => e = .returned (.tuple #[.agg #[.int .i64 2, .int .i64 n, .int .i64 B, .int .i64 (-1), .int .i64 3, .int .i64 0], .int .i64 x]) ∧ Below v.heap.size v w')
    (c : ∀ v, Calls Tryz.prog 159 #[.int .i64 (n + (-4))] v fun e w' => e = .returned (.int .i64 V) ∧ w' = v) (hn : 1 ≤ n ∧ n ≤ 12) (h0 : 0 ≤ d) (h1 : d ≤ 1099511627776) (hp : n * x = p) (hp0 : 0 ≤ p) (hp1 : p ≤ 13194139533312) (h2 : decide (p ≤ 2 * (1 + d)) = false) :
    Calls Tryz.prog 136 #[.agg #[.int .i64 2, .int .i64 n, .int .i64 b, .int .i64 (-1), .int .i64 3, .int .i64 0], .int .i64 d] w fun e w' => e = .returned (.tuple #[.agg #[.int .i64 2, .int .i64 V, .int .i64 B, .int .i64 (-1), .int .i64 4, .int .i64 0], .int .i64 0]) ∧ Below w.heap.size w w' := by
  go_enter Tryz.func136, Tryz.ntmps136
  go_wp2_with (first
    | (go_at_call 160; refine (r _).mono ?_; clear r; rintro e w1 ⟨rfl, HB⟩; obtain ⟨X, Y⟩ := two HB; replace HB := up2 HB; obtain ⟨c0, c1, c2, c3, c4, c5, f0, f1, f2, f3, f4, f5⟩ := id X)
    | (go_at_call 158; refine (sn _).mono ?_; clear sn c0 c1 c2 c3 c4 c5 f0 f1 f2 f3 f4 f5; rintro e w2 ⟨rfl, b2⟩; replace X := X.kept b2; replace Y := Y.kept b2; replace HB := bthen HB b2; clear b2; obtain ⟨c0, c1, c2, c3, c4, c5, f0, f1, f2, f3, f4, f5⟩ := X; obtain ⟨d0, d1, d2, d3, d4, d5, g0, g1, g2, g3, g4, g5⟩ := Y; have z1 : w.heap.size < w2.heap.size := block_lt c0; have z2 : w.heap.size + 1 < w2.heap.size := block_lt d0)
    | (go_at_call 159; refine (c _).mono ?_; clear c; rintro e w' ⟨rfl, rfl⟩))
  refine bodyPost_ret (v := .tuple #[.agg #[.int .i64 2, .int .i64 V, .int .i64 B, .int .i64 (-1), .int .i64 4, .int .i64 0], .int .i64 0]) (by simp [results, Tryz.results136, go_sem, d0, d1, d2, d3, d4, d5, z1, z2]) rfl ⟨rfl, ?_⟩
  repeat (first | with_reducible refine Below.setCell ?_ (by simp) _ | with_reducible refine balloc ?_ _)
  exact HB

set_option maxHeartbeats 1600000 in
theorem ln11 (n b d B x p V : Int) (w : World) (r : ∀ v, Calls Tryz.prog 160 #[.agg #[.int .i64 2, .int .i64 n, .int .i64 b, .int .i64 (-1), .int .i64 4, .int .i64 0]] v fun e w' => e = .returned (.bool true) ∧ Below v.heap.size v w')
    (sn : ∀ v, Calls Tryz.prog 158 #[.agg #[.int .i64 2, .int .i64 n, .int .i64 b, .int .i64 (-1), .int .i64 4, .int .i64 0], .int .i64 d] v fun e w' => e = .returned (.tuple #[.agg #[.int .i64 2, .int .i64 n, .int .i64 B, .int .i64 (-1), .int .i64 4, .int .i64 0], .int .i64 x]) ∧ Below v.heap.size v w')
    (c : ∀ v, Calls Tryz.prog 159 #[.int .i64 (n + (-4))] v fun e w' => e = .returned (.int .i64 V) ∧ w' = v) (hn : 1 ≤ n ∧ n ≤ 12) (h0 : 0 ≤ d) (h1 : d ≤ 1099511627776) (hp : n * x = p) (hp0 : 0 ≤ p) (hp1 : p ≤ 13194139533312) (h2 : decide (p ≤ 2 * (1 + d)) = false) :
    Calls Tryz.prog 136 #[.agg #[.int .i64 2, .int .i64 n, .int .i64 b, .int .i64 (-1), .int .i64 4, .int .i64 0], .int .i64 d] w fun e w' => e = .returned (.tuple #[.agg #[.int .i64 2, .int .i64 V, .int .i64 B, .int .i64 (-1), .int .i64 4, .int .i64 0], .int .i64 0]) ∧ Below w.heap.size w w' := by
  go_enter Tryz.func136, Tryz.ntmps136
  go_wp2_with (first
    | (go_at_call 160; refine (r _).mono ?_; clear r; rintro e w1 ⟨rfl, HB⟩; obtain ⟨X, Y⟩ := two HB; replace HB := up2 HB; obtain ⟨c0, c1, c2, c3, c4, c5, f0, f1, f2, f3, f4, f5⟩ := id X)
    | (go_at_call 158; refine (sn _).mono ?_; clear sn c0 c1 c2 c3 c4 c5 f0 f1 f2 f3 f4 f5; rintro e w2 ⟨rfl, b2⟩; replace X := X.kept b2; replace Y := Y.kept b2; replace HB := bthen HB b2; clear b2; obtain ⟨c0, c1, c2, c3, c4, c5, f0, f1, f2, f3, f4, f5⟩ := X; obtain ⟨d0, d1, d2, d3, d4, d5, g0, g1, g2, g3, g4, g5⟩ := Y; have z1 : w.heap.size < w2.heap.size := block_lt c0; have z2 : w.heap.size + 1 < w2.heap.size := block_lt d0)
    | (go_at_call 159; refine (c _).mono ?_; clear c; rintro e w' ⟨rfl, rfl⟩))
  refine bodyPost_ret (v := .tuple #[.agg #[.int .i64 2, .int .i64 V, .int .i64 B, .int .i64 (-1), .int .i64 4, .int .i64 0], .int .i64 0]) (by simp [results, Tryz.results136, go_sem, d0, d1, d2, d3, d4, d5, z1, z2]) rfl ⟨rfl, ?_⟩
  repeat (first | with_reducible refine Below.setCell ?_ (by simp) _ | with_reducible refine balloc ?_ _)
  exact HB

theorem lnext_yes (k n b a s q d : Int) (w : World) (h : lright k n b a s q) (hd : inr d) :
    Calls Tryz.prog 136 #[.agg #[.int .i64 k, .int .i64 n, .int .i64 b, .int .i64 a, .int .i64 s, .int .i64 q], .int .i64 d] w fun e w' => e = .returned (.tuple #[.agg #[.int .i64 2, .int .i64 (nw n a s (wy n (d - nb b d) d)), .int .i64 (nb b d), .int .i64 (wy n (d - nb b d) d), .int .i64 (spd a s (wy n (d - nb b d) d)), .int .i64 0], .int .i64 0]) ∧ Below w.heap.size w w' := by
  obtain ⟨hB0, hB1, hB2, hx0, hx1⟩ := nb_in (b := b) hd
  obtain ⟨rfl, hn, ⟨hb0, hb1⟩, ha, hs, rfl⟩ := h
  obtain ⟨h0, h1⟩ := hd
  have r := fun v => lrr_yes n b a s v hn ⟨hb0, hb1⟩ (by omega) (by omega) (by omega)
  have sn := fun v => V.seen_of 2 n b a s 0 d (nb b d) (d - nb b d) v hb0 hb1 h0 h1 (by unfold nb; split <;> omega) rfl hx0 hx1
  obtain ⟨p0, p1⟩ := V.mul_in (n := n) (x := d - nb b d) hn hx0 hx1
  generalize nb b d = B at *
  generalize d - B = x at *
  have cl : ∀ (p P : Int) (hS : p * spd a s p = P) v, Calls Tryz.prog 159 #[.int .i64 (n + P)] v fun e w' => e = .returned (.int .i64 (nw n a s p)) ∧ w' = v := fun p P hS v => by
    have := V.clip_any (n + P) v
    rw [← hS] at this ⊢
    exact this
  by_cases hc : n * x ≤ 2 * (1 + d)
  · have e : wy n x d = 1 := by unfold wy; rw [if_pos hc]
    rw [e]
    by_cases ea : a = 1
    · subst ea
      obtain rfl | rfl | rfl | rfl | rfl : s = 0 ∨ s = 1 ∨ s = 2 ∨ s = 3 ∨ s = 4 := by omega
      · exact ln1 n b d B x _ _ w r sn (cl 1 1 (by decide)) hn h0 h1 rfl p0 p1 (decide_eq_true hc)
      · exact ln2 n b d B x _ _ w r sn (cl 1 2 (by decide)) hn h0 h1 rfl p0 p1 (decide_eq_true hc)
      · exact ln3 n b d B x _ _ w r sn (cl 1 4 (by decide)) hn h0 h1 rfl p0 p1 (decide_eq_true hc)
      · exact ln4 n b d B x _ _ w r sn (cl 1 4 (by decide)) hn h0 h1 rfl p0 p1 (decide_eq_true hc)
      · exact ln5 n b d B x _ _ w r sn (cl 1 4 (by decide)) hn h0 h1 rfl p0 p1 (decide_eq_true hc)
    · have es : spd a s 1 = 1 := by unfold spd; rw [if_neg (fun h => ea h.symm)]
      rw [es]
      exact ln0 n b d B x _ a s _ w (by simpa using fun h => ea h.symm) r sn (cl 1 1 (by rw [es]; decide)) hn h0 h1 rfl p0 p1 (decide_eq_true hc)
  · have e : wy n x d = -1 := by unfold wy; rw [if_neg hc]
    rw [e]
    by_cases ea : a = (-1)
    · subst ea
      obtain rfl | rfl | rfl | rfl | rfl : s = 0 ∨ s = 1 ∨ s = 2 ∨ s = 3 ∨ s = 4 := by omega
      · exact ln7 n b d B x _ _ w r sn (cl (-1) (-1) (by decide)) hn h0 h1 rfl p0 p1 (decide_eq_false hc)
      · exact ln8 n b d B x _ _ w r sn (cl (-1) (-2) (by decide)) hn h0 h1 rfl p0 p1 (decide_eq_false hc)
      · exact ln9 n b d B x _ _ w r sn (cl (-1) (-4) (by decide)) hn h0 h1 rfl p0 p1 (decide_eq_false hc)
      · exact ln10 n b d B x _ _ w r sn (cl (-1) (-4) (by decide)) hn h0 h1 rfl p0 p1 (decide_eq_false hc)
      · exact ln11 n b d B x _ _ w r sn (cl (-1) (-4) (by decide)) hn h0 h1 rfl p0 p1 (decide_eq_false hc)
    · have es : spd a s (-1) = 1 := by unfold spd; rw [if_neg (fun h => ea h.symm)]
      rw [es]
      exact ln6 n b d B x _ a s _ w (by simpa using fun h => ea h.symm) r sn (cl (-1) (-1) (by rw [es]; decide)) hn h0 h1 rfl p0 p1 (decide_eq_false hc)

end Go.Proofs.YtjageagnclmnjaaGreatDoor.C

