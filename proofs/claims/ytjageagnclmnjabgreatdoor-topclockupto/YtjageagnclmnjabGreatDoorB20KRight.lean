/- PROVED: what copa.Next answers. what ledbat.Next answers. what link.Right answers. CONDITIONS: none beyond each theorem's own. -/
import Derived.Test.YtjageagnclmnjabGreatDoorB17LCtl
import Derived.Test.YtjageagnclmnjabGreatDoorB18DYes
import Derived.Test.YtjageagnclmnjabGreatDoorB03DOwn
namespace Go.Proofs.YtjageagnclmnjabGreatDoor.C
open Go.RowKit
set_option linter.unusedVariables false

set_option maxHeartbeats 1600000 in
theorem next_form (k n b a s q d : Int) (w : World) (h : ¬ lright k n b a s q) :
    Calls Tryz.prog 113 #[.agg #[.int .i64 k, .int .i64 n, .int .i64 b, .int .i64 a, .int .i64 s, .int .i64 q], .int .i64 d] w fun e w' => e = .returned (.tuple #[.agg #[.int .i64 0, .int .i64 0, .int .i64 0, .int .i64 0, .int .i64 0, .int .i64 0], .int .i64 1]) ∧ Below w.heap.size w w' := by
  have r := fun v => right_any k n b a s q v
  rw [decide_eq_false h] at r
  clear h
  go_enter Tryz.func113, Tryz.ntmps113
  go_wp2_with (go_at_call 112; refine (r _).mono ?_; rintro e w1 ⟨rfl, hb⟩; obtain ⟨d0, d1, d2, d3, d4, d5, g0, g1, g2, g3, g4, g5⟩ := (two hb).2)
  refine bodyPost_ret (v := .tuple #[.agg #[.int .i64 0, .int .i64 0, .int .i64 0, .int .i64 0, .int .i64 0, .int .i64 0], .int .i64 1]) (by simp [results, Tryz.results113, go_sem, d0, d1, d2, d3, d4, d5]) rfl ⟨rfl, ?_⟩
  repeat (refine Below.setCell ?_ (by simp) _)
  exact up2 hb

set_option maxHeartbeats 1600000 in
theorem next_of (k n b a s q d B x y S p V : Int) (w : World) (hn : 1 ≤ n ∧ n ≤ 12) (hp : y * S = p) (hp0 : -4 ≤ p) (hp1 : p ≤ 4)
    (r : ∀ v, Calls Tryz.prog 112 #[.agg #[.int .i64 k, .int .i64 n, .int .i64 b, .int .i64 a, .int .i64 s, .int .i64 q]] v fun e w' => e = .returned (.bool true) ∧ Below v.heap.size v w')
    (cw : ∀ v, Calls Tryz.prog 134 #[.int .i64 n, .int .i64 x, .int .i64 d] v fun e w' => e = .returned (.int .i64 y) ∧ w' = v)
    (cs : ∀ v, Calls Tryz.prog 135 #[.agg #[.int .i64 k, .int .i64 n, .int .i64 B, .int .i64 a, .int .i64 s, .int .i64 q], .int .i64 y] v fun e w' => e = .returned (.int .i64 S) ∧ Below v.heap.size v w')
    (c : ∀ v, Calls Tryz.prog 133 #[.int .i64 (n + p)] v fun e w' => e = .returned (.int .i64 V) ∧ w' = v) (h0 : 0 ≤ d) (h1 : d ≤ 1099511627776) (hx : d - B = x) (hx0 : 0 ≤ x) (hx1 : x ≤ 1099511627776)
    (h : b < 0 ∧ d = B ∨ ¬ b < 0 ∧ d < b ∧ d = B ∨ decide (b < 0) = false ∧ decide (d < b) = false ∧ b = B) :
    Calls Tryz.prog 113 #[.agg #[.int .i64 k, .int .i64 n, .int .i64 b, .int .i64 a, .int .i64 s, .int .i64 q], .int .i64 d] w fun e w' => e = .returned (.tuple #[.agg #[.int .i64 k, .int .i64 V, .int .i64 B, .int .i64 y, .int .i64 S, .int .i64 q], .int .i64 0]) ∧ Below w.heap.size w w' := by
  rcases h with ⟨hb, rfl⟩ | ⟨hb, h2, rfl⟩ | ⟨hb, h2, rfl⟩
  · obtain rfl : 0 = x := by omega
    clear hx
    go_enter Tryz.func113, Tryz.ntmps113
    go_wp2_with (first
      | (go_at_call 112; refine (r _).mono ?_; rintro e w1 ⟨rfl, HB⟩; obtain ⟨X, Y⟩ := two HB; clear r; obtain ⟨c0, c1, c2, c3, c4, c5, f0, f1, f2, f3, f4, f5⟩ := X)
      | (go_at_call 134; refine (cw _).mono ?_; rintro e w2 ⟨rfl, hw⟩; clear cw; have X : Ctl w2 w.heap.size k n d a s q := (by rw [hw]; exact (Ctl.set2 (Ctl.mk c0 c1 c2 c3 c4 c5 f0 f1 f2 f3 f4 f5) d)); replace Y : Ctl w2 (w.heap.size + 1) 0 0 0 0 0 0 := (by rw [hw]; exact (Y.far (by omega) _)); replace HB : Below w.heap.size w w2 := (by rw [hw]; exact ((up2 HB).setCell (by simp) _)); clear hw; clear c0 c1 c2 c3 c4 c5 f0 f1 f2 f3 f4 f5; obtain ⟨c0, c1, c2, c3, c4, c5, f0, f1, f2, f3, f4, f5⟩ := X)
      | (go_at_call 135; refine (cs _).mono ?_; rintro e w3 ⟨rfl, b3⟩; clear cs; have X := Ctl.kept (Ctl.mk c0 c1 c2 c3 c4 c5 f0 f1 f2 f3 f4 f5) b3; replace Y := Y.kept b3; replace HB := bthen HB b3; clear b3; clear c0 c1 c2 c3 c4 c5 f0 f1 f2 f3 f4 f5; obtain ⟨c0, c1, c2, c3, c4, c5, f0, f1, f2, f3, f4, f5⟩ := X)
      | (go_at_call 133; refine (c _).mono ?_; rintro e w4 ⟨rfl, hw⟩; clear c; have X : Ctl w4 w.heap.size k n d y S q := (by rw [hw]; exact Ctl.set3 (Ctl.set4 (Ctl.mk c0 c1 c2 c3 c4 c5 f0 f1 f2 f3 f4 f5) S) y); replace Y : Ctl w4 (w.heap.size + 1) 0 0 0 0 0 0 := (by rw [hw]; exact ((Y.far (by omega) _).far (by omega) _)); replace HB : Below w.heap.size w w4 := (by rw [hw]; exact ((HB.setCell (by simp) _).setCell (by simp) _)); clear hw; clear c0 c1 c2 c3 c4 c5 f0 f1 f2 f3 f4 f5; obtain ⟨c0, c1, c2, c3, c4, c5, f0, f1, f2, f3, f4, f5⟩ := X; obtain ⟨d0, d1, d2, d3, d4, d5, g0, g1, g2, g3, g4, g5⟩ := Y))
    refine bodyPost_ret (v := .tuple #[.agg #[.int .i64 k, .int .i64 V, .int .i64 d, .int .i64 y, .int .i64 S, .int .i64 q], .int .i64 0]) (by simp [results, Tryz.results113, go_sem, d0, d1, d2, d3, d4, d5]) rfl ⟨rfl, ?_⟩
    repeat (refine Below.setCell ?_ (by simp) _)
    exact HB

  · obtain rfl : 0 = x := by omega
    clear hx
    go_enter Tryz.func113, Tryz.ntmps113
    go_wp2_with (first
      | (go_at_call 112; refine (r _).mono ?_; rintro e w1 ⟨rfl, HB⟩; obtain ⟨X, Y⟩ := two HB; clear r; obtain ⟨c0, c1, c2, c3, c4, c5, f0, f1, f2, f3, f4, f5⟩ := X)
      | (go_at_call 134; refine (cw _).mono ?_; rintro e w2 ⟨rfl, hw⟩; clear cw; have X : Ctl w2 w.heap.size k n d a s q := (by rw [hw]; exact (Ctl.set2 (Ctl.mk c0 c1 c2 c3 c4 c5 f0 f1 f2 f3 f4 f5) d)); replace Y : Ctl w2 (w.heap.size + 1) 0 0 0 0 0 0 := (by rw [hw]; exact (Y.far (by omega) _)); replace HB : Below w.heap.size w w2 := (by rw [hw]; exact ((up2 HB).setCell (by simp) _)); clear hw; clear c0 c1 c2 c3 c4 c5 f0 f1 f2 f3 f4 f5; obtain ⟨c0, c1, c2, c3, c4, c5, f0, f1, f2, f3, f4, f5⟩ := X)
      | (go_at_call 135; refine (cs _).mono ?_; rintro e w3 ⟨rfl, b3⟩; clear cs; have X := Ctl.kept (Ctl.mk c0 c1 c2 c3 c4 c5 f0 f1 f2 f3 f4 f5) b3; replace Y := Y.kept b3; replace HB := bthen HB b3; clear b3; clear c0 c1 c2 c3 c4 c5 f0 f1 f2 f3 f4 f5; obtain ⟨c0, c1, c2, c3, c4, c5, f0, f1, f2, f3, f4, f5⟩ := X)
      | (go_at_call 133; refine (c _).mono ?_; rintro e w4 ⟨rfl, hw⟩; clear c; have X : Ctl w4 w.heap.size k n d y S q := (by rw [hw]; exact Ctl.set3 (Ctl.set4 (Ctl.mk c0 c1 c2 c3 c4 c5 f0 f1 f2 f3 f4 f5) S) y); replace Y : Ctl w4 (w.heap.size + 1) 0 0 0 0 0 0 := (by rw [hw]; exact ((Y.far (by omega) _).far (by omega) _)); replace HB : Below w.heap.size w w4 := (by rw [hw]; exact ((HB.setCell (by simp) _).setCell (by simp) _)); clear hw; clear c0 c1 c2 c3 c4 c5 f0 f1 f2 f3 f4 f5; obtain ⟨c0, c1, c2, c3, c4, c5, f0, f1, f2, f3, f4, f5⟩ := X; obtain ⟨d0, d1, d2, d3, d4, d5, g0, g1, g2, g3, g4, g5⟩ := Y))
    refine bodyPost_ret (v := .tuple #[.agg #[.int .i64 k, .int .i64 V, .int .i64 d, .int .i64 y, .int .i64 S, .int .i64 q], .int .i64 0]) (by simp [results, Tryz.results113, go_sem, d0, d1, d2, d3, d4, d5]) rfl ⟨rfl, ?_⟩
    repeat (refine Below.setCell ?_ (by simp) _)
    exact HB

  · go_enter Tryz.func113, Tryz.ntmps113
    go_wp2_with (first
      | (go_at_call 112; refine (r _).mono ?_; rintro e w1 ⟨rfl, HB⟩; obtain ⟨X, Y⟩ := two HB; clear r; obtain ⟨c0, c1, c2, c3, c4, c5, f0, f1, f2, f3, f4, f5⟩ := X)
      | (go_at_call 134; refine (cw _).mono ?_; rintro e w2 ⟨rfl, hw⟩; clear cw; have X : Ctl w2 w.heap.size k n b a s q := (by rw [hw]; exact (Ctl.mk c0 c1 c2 c3 c4 c5 f0 f1 f2 f3 f4 f5)); replace Y : Ctl w2 (w.heap.size + 1) 0 0 0 0 0 0 := (by rw [hw]; exact Y); replace HB : Below w.heap.size w w2 := (by rw [hw]; exact (up2 HB)); clear hw; clear c0 c1 c2 c3 c4 c5 f0 f1 f2 f3 f4 f5; obtain ⟨c0, c1, c2, c3, c4, c5, f0, f1, f2, f3, f4, f5⟩ := X)
      | (go_at_call 135; refine (cs _).mono ?_; rintro e w3 ⟨rfl, b3⟩; clear cs; have X := Ctl.kept (Ctl.mk c0 c1 c2 c3 c4 c5 f0 f1 f2 f3 f4 f5) b3; replace Y := Y.kept b3; replace HB := bthen HB b3; clear b3; clear c0 c1 c2 c3 c4 c5 f0 f1 f2 f3 f4 f5; obtain ⟨c0, c1, c2, c3, c4, c5, f0, f1, f2, f3, f4, f5⟩ := X)
      | (go_at_call 133; refine (c _).mono ?_; rintro e w4 ⟨rfl, hw⟩; clear c; have X : Ctl w4 w.heap.size k n b y S q := (by rw [hw]; exact Ctl.set3 (Ctl.set4 (Ctl.mk c0 c1 c2 c3 c4 c5 f0 f1 f2 f3 f4 f5) S) y); replace Y : Ctl w4 (w.heap.size + 1) 0 0 0 0 0 0 := (by rw [hw]; exact ((Y.far (by omega) _).far (by omega) _)); replace HB : Below w.heap.size w w4 := (by rw [hw]; exact ((HB.setCell (by simp) _).setCell (by simp) _)); clear hw; clear c0 c1 c2 c3 c4 c5 f0 f1 f2 f3 f4 f5; obtain ⟨c0, c1, c2, c3, c4, c5, f0, f1, f2, f3, f4, f5⟩ := X; obtain ⟨d0, d1, d2, d3, d4, d5, g0, g1, g2, g3, g4, g5⟩ := Y))
    refine bodyPost_ret (v := .tuple #[.agg #[.int .i64 k, .int .i64 V, .int .i64 b, .int .i64 y, .int .i64 S, .int .i64 q], .int .i64 0]) (by simp [results, Tryz.results113, go_sem, d0, d1, d2, d3, d4, d5]) rfl ⟨rfl, ?_⟩
    repeat (refine Below.setCell ?_ (by simp) _)
    exact HB


theorem next_yes (k n b a s q d : Int) (w : World) (h : lright k n b a s q) (hd : inr d) :
    Calls Tryz.prog 113 #[.agg #[.int .i64 k, .int .i64 n, .int .i64 b, .int .i64 a, .int .i64 s, .int .i64 q], .int .i64 d] w fun e w' => e = .returned (.tuple #[.agg #[.int .i64 2, .int .i64 (nw n a s (wy n (d - nb b d) d)), .int .i64 (nb b d), .int .i64 (wy n (d - nb b d) d), .int .i64 (spd a s (wy n (d - nb b d) d)), .int .i64 0], .int .i64 0]) ∧ Below w.heap.size w w' := by
  have r := fun v => right_any k n b a s q v
  rw [decide_eq_true h] at r
  obtain ⟨hB0, hB1, hB2, hx0, hx1⟩ := nb_in (b := b) hd
  obtain ⟨rfl, hn, ⟨hb0, hb1⟩, ha, ⟨hs0, hs1⟩, rfl⟩ := h
  obtain ⟨h0, h1⟩ := hd
  have hS := spd_in a s (wy n (d - nb b d) d)
  have hy := wy_is n (d - nb b d) d
  refine next_of 2 n b a s 0 d (nb b d) _ _ _ _ _ w hn rfl ?_ ?_ r (fun v => way_any n _ d v hx0 h0 h1) (fun v => speed_any 2 n _ a s 0 _ v hs0 hs1) (fun v => within_any _ v) h0 h1 rfl hx0 hx1 ?_
  · rcases hy with e | e <;> rw [e] at hS ⊢ <;> omega
  · rcases hy with e | e <;> rw [e] at hS ⊢ <;> omega
  · unfold nb
    by_cases hb : b < 0
    · exact .inl ⟨hb, by rw [if_pos (.inl hb)]⟩
    · by_cases h2 : d < b
      · exact .inr (.inl ⟨hb, h2, by rw [if_pos (.inr h2)]⟩)
      · exact .inr (.inr ⟨decide_eq_false hb, decide_eq_false h2, by rw [if_neg (by omega)]⟩)

end Go.Proofs.YtjageagnclmnjabGreatDoor.C

namespace Go.Proofs.YtjageagnclmnjabGreatDoor.L
open Go.RowKit
set_option linter.unusedVariables false

set_option maxHeartbeats 1600000 in
theorem next_form (k n b a s q d : Int) (w : World) (h : ¬ mright k n b a s q) :
    Calls Tryz.prog 26 #[.agg #[.int .i64 k, .int .i64 n, .int .i64 b, .int .i64 a, .int .i64 s, .int .i64 q], .int .i64 d] w fun e w' => e = .returned (.tuple #[.agg #[.int .i64 0, .int .i64 0, .int .i64 0, .int .i64 0, .int .i64 0, .int .i64 0], .int .i64 1]) ∧ Below w.heap.size w w' := by
  have r := fun v => right_any k n b a s q v
  rw [decide_eq_false h] at r
  clear h
  go_enter Tryz.func26, Tryz.ntmps26
  go_wp2_with (go_at_call 40; refine (r _).mono ?_; rintro e w1 ⟨rfl, hb⟩; obtain ⟨d0, d1, d2, d3, d4, d5, g0, g1, g2, g3, g4, g5⟩ := (two hb).2)
  refine bodyPost_ret (v := .tuple #[.agg #[.int .i64 0, .int .i64 0, .int .i64 0, .int .i64 0, .int .i64 0, .int .i64 0], .int .i64 1]) (by simp [results, Tryz.results26, go_sem, d0, d1, d2, d3, d4, d5]) rfl ⟨rfl, ?_⟩
  repeat (refine Below.setCell ?_ (by simp) _)
  exact up2 hb

set_option maxHeartbeats 1600000 in
theorem next_of (k n b a s q d B x g C V Q : Int) (w : World) (hn : 1 ≤ n ∧ n ≤ 12) (hq : 0 ≤ q ∧ q ≤ 3) (hg : -2 ≤ g ∧ g ≤ 2) (hC : 4 ≤ C ∧ C ≤ 48) (hV : C.tdiv 4 = V) (hQ : C.tmod 4 = Q) (hV1 : 1 ≤ V ∧ V ≤ 12)
    (r : ∀ v, Calls Tryz.prog 40 #[.agg #[.int .i64 k, .int .i64 n, .int .i64 b, .int .i64 a, .int .i64 s, .int .i64 q]] v fun e w' => e = .returned (.bool true) ∧ Below v.heap.size v w')
    (cg : ∀ v, Calls Tryz.prog 42 #[.int .i64 x] v fun e w' => e = .returned (.int .i64 g) ∧ w' = v)
    (cb : ∀ v, Calls Tryz.prog 41 #[.int .i64 (4 * n + q + g)] v fun e w' => e = .returned (.int .i64 C) ∧ w' = v) (h0 : 0 ≤ d) (h1 : d ≤ 1099511627776) (hx : d - B = x) (hx0 : 0 ≤ x) (hx1 : x ≤ 1099511627776)
    (h : b < 0 ∧ d = B ∨ ¬ b < 0 ∧ d < b ∧ d = B ∨ decide (b < 0) = false ∧ decide (d < b) = false ∧ b = B) :
    Calls Tryz.prog 26 #[.agg #[.int .i64 k, .int .i64 n, .int .i64 b, .int .i64 a, .int .i64 s, .int .i64 q], .int .i64 d] w fun e w' => e = .returned (.tuple #[.agg #[.int .i64 k, .int .i64 V, .int .i64 B, .int .i64 a, .int .i64 s, .int .i64 Q], .int .i64 0]) ∧ Below w.heap.size w w' := by
  rcases h with ⟨hb, rfl⟩ | ⟨hb, h2, rfl⟩ | ⟨hb, h2, rfl⟩
  · obtain rfl : 0 = x := by omega
    clear hx
    go_enter Tryz.func26, Tryz.ntmps26
    go_wp2_with (go_at_call 40; refine (r _).mono ?_; rintro e w1 ⟨rfl, HB⟩; obtain ⟨X, Y⟩ := two HB; clear r; obtain ⟨c0, c1, c2, c3, c4, c5, f0, f1, f2, f3, f4, f5⟩ := X)
    have X2 : Ctl (w1.setCell ⟨w.heap.size, 2, none⟩ (.int .i64 d)) w.heap.size k n d a s q := Ctl.set2 (Ctl.mk c0 c1 c2 c3 c4 c5 f0 f1 f2 f3 f4 f5) d
    replace Y : Ctl (w1.setCell ⟨w.heap.size, 2, none⟩ (.int .i64 d)) (w.heap.size + 1) 0 0 0 0 0 0 := Y.far (by omega) _
    replace HB : Below w.heap.size w (w1.setCell ⟨w.heap.size, 2, none⟩ (.int .i64 d)) := (up2 HB).setCell (by simp) _
    generalize w1.setCell ⟨w.heap.size, 2, none⟩ (.int .i64 d) = w2 at X2 Y HB ⊢
    clear c0 c1 c2 c3 c4 c5 f0 f1 f2 f3 f4 f5
    obtain ⟨c0, c1, c2, c3, c4, c5, f0, f1, f2, f3, f4, f5⟩ := X2
    obtain ⟨d0, d1, d2, d3, d4, d5, g0, g1, g2, g3, g4, g5⟩ := Y
    go_quiet (first | (go_at_call 42; refine (cg _).mono ?_; rintro e w'' ⟨rfl, rfl⟩; exact ⟨rfl, _, rfl⟩) | (go_at_call 41; refine (cb _).mono ?_; rintro e w'' ⟨rfl, rfl⟩; exact ⟨rfl, _, rfl⟩))
    go_wp2
    refine bodyPost_ret (v := .tuple #[.agg #[.int .i64 k, .int .i64 V, .int .i64 d, .int .i64 a, .int .i64 s, .int .i64 Q], .int .i64 0]) (by simp [results, Tryz.results26, go_sem, d0, d1, d2, d3, d4, d5]) rfl ⟨rfl, ?_⟩
    repeat (refine Below.setCell ?_ (by simp) _)
    exact below_drewN HB _
  · obtain rfl : 0 = x := by omega
    clear hx
    go_enter Tryz.func26, Tryz.ntmps26
    go_wp2_with (go_at_call 40; refine (r _).mono ?_; rintro e w1 ⟨rfl, HB⟩; obtain ⟨X, Y⟩ := two HB; clear r; obtain ⟨c0, c1, c2, c3, c4, c5, f0, f1, f2, f3, f4, f5⟩ := X)
    have X2 : Ctl (w1.setCell ⟨w.heap.size, 2, none⟩ (.int .i64 d)) w.heap.size k n d a s q := Ctl.set2 (Ctl.mk c0 c1 c2 c3 c4 c5 f0 f1 f2 f3 f4 f5) d
    replace Y : Ctl (w1.setCell ⟨w.heap.size, 2, none⟩ (.int .i64 d)) (w.heap.size + 1) 0 0 0 0 0 0 := Y.far (by omega) _
    replace HB : Below w.heap.size w (w1.setCell ⟨w.heap.size, 2, none⟩ (.int .i64 d)) := (up2 HB).setCell (by simp) _
    generalize w1.setCell ⟨w.heap.size, 2, none⟩ (.int .i64 d) = w2 at X2 Y HB ⊢
    clear c0 c1 c2 c3 c4 c5 f0 f1 f2 f3 f4 f5
    obtain ⟨c0, c1, c2, c3, c4, c5, f0, f1, f2, f3, f4, f5⟩ := X2
    obtain ⟨d0, d1, d2, d3, d4, d5, g0, g1, g2, g3, g4, g5⟩ := Y
    go_quiet (first | (go_at_call 42; refine (cg _).mono ?_; rintro e w'' ⟨rfl, rfl⟩; exact ⟨rfl, _, rfl⟩) | (go_at_call 41; refine (cb _).mono ?_; rintro e w'' ⟨rfl, rfl⟩; exact ⟨rfl, _, rfl⟩))
    go_wp2
    refine bodyPost_ret (v := .tuple #[.agg #[.int .i64 k, .int .i64 V, .int .i64 d, .int .i64 a, .int .i64 s, .int .i64 Q], .int .i64 0]) (by simp [results, Tryz.results26, go_sem, d0, d1, d2, d3, d4, d5]) rfl ⟨rfl, ?_⟩
    repeat (refine Below.setCell ?_ (by simp) _)
    exact below_drewN HB _
  · skip
    go_enter Tryz.func26, Tryz.ntmps26
    go_wp2_with (go_at_call 40; refine (r _).mono ?_; rintro e w1 ⟨rfl, HB⟩; obtain ⟨X, Y⟩ := two HB; clear r; obtain ⟨c0, c1, c2, c3, c4, c5, f0, f1, f2, f3, f4, f5⟩ := X)
    replace HB := up2 HB
    obtain ⟨d0, d1, d2, d3, d4, d5, g0, g1, g2, g3, g4, g5⟩ := Y
    go_quiet (first | (go_at_call 42; refine (cg _).mono ?_; rintro e w'' ⟨rfl, rfl⟩; exact ⟨rfl, _, rfl⟩) | (go_at_call 41; refine (cb _).mono ?_; rintro e w'' ⟨rfl, rfl⟩; exact ⟨rfl, _, rfl⟩))
    go_wp2
    refine bodyPost_ret (v := .tuple #[.agg #[.int .i64 k, .int .i64 V, .int .i64 b, .int .i64 a, .int .i64 s, .int .i64 Q], .int .i64 0]) (by simp [results, Tryz.results26, go_sem, d0, d1, d2, d3, d4, d5]) rfl ⟨rfl, ?_⟩
    repeat (refine Below.setCell ?_ (by simp) _)
    exact below_drewN HB _

theorem next_yes (k n b a s q d : Int) (w : World) (h : mright k n b a s q) (hd : inr d) :
    Calls Tryz.prog 26 #[.agg #[.int .i64 k, .int .i64 n, .int .i64 b, .int .i64 a, .int .i64 s, .int .i64 q], .int .i64 d] w fun e w' => e = .returned (.tuple #[.agg #[.int .i64 3, .int .i64 (ct n q (d - nb b d) / 4), .int .i64 (nb b d), .int .i64 0, .int .i64 0, .int .i64 (ct n q (d - nb b d) % 4)], .int .i64 0]) ∧ Below w.heap.size w w' := by
  have r := fun v => right_any k n b a s q v
  rw [decide_eq_true h] at r
  obtain ⟨hB0, hB1, hB2, hx0, hx1⟩ := nb_in (b := b) hd
  obtain ⟨rfl, hn, ⟨hb0, hb1⟩, rfl, rfl, hq, _⟩ := h
  obtain ⟨h0, h1⟩ := hd
  have hC := ct_in n q (d - nb b d)
  refine next_of 3 n b 0 0 q d (nb b d) _ _ _ _ _ w hn hq (gr_in hx0) hC (Int.tdiv_eq_ediv_of_nonneg (by omega)) (Int.tmod_eq_emod_of_nonneg (by omega)) (by omega) r (fun v => growth_any _ v hx0 hx1) (fun v => bounded_any _ v) h0 h1 rfl hx0 hx1 ?_
  unfold nb
  by_cases hb : b < 0
  · exact .inl ⟨hb, by rw [if_pos (.inl hb)]⟩
  · by_cases h2 : d < b
    · exact .inr (.inl ⟨hb, h2, by rw [if_pos (.inr h2)]⟩)
    · exact .inr (.inr ⟨decide_eq_false hb, decide_eq_false h2, by rw [if_neg (by omega)]⟩)

end Go.Proofs.YtjageagnclmnjabGreatDoor.L

namespace Go.Proofs.YtjageagnclmnjabGreatDoor.K
open Go.RowKit
set_option maxHeartbeats 4000000 in
theorem right_of (r m a b s t : Int) (w : World) (t0 t1 t2 t3 t4 t5 : Bool) (h2 : t2 = true → 0 ≤ a ∧ a ≤ 16)
    (k0 : ∀ v, Calls Tryz.prog 152 #[.int .i64 r, .int .i64 1, .int .i64 12] v fun e w' => e = .returned (.bool t0) ∧ w' = v)
    (k1 : ∀ v, Calls Tryz.prog 152 #[.int .i64 m, .int .i64 0, .int .i64 16] v fun e w' => e = .returned (.bool t1) ∧ w' = v)
    (k2 : ∀ v, Calls Tryz.prog 152 #[.int .i64 a, .int .i64 0, .int .i64 16] v fun e w' => e = .returned (.bool t2) ∧ w' = v)
    (k3 : ∀ v, Calls Tryz.prog 152 #[.int .i64 b, .int .i64 0, .int .i64 (16 - a)] v fun e w' => e = .returned (.bool t3) ∧ w' = v)
    (k4 : ∀ v, Calls Tryz.prog 152 #[.int .i64 s, .int .i64 0, .int .i64 12] v fun e w' => e = .returned (.bool t4) ∧ w' = v)
    (k5 : ∀ v, Calls Tryz.prog 152 #[.int .i64 t, .int .i64 0, .int .i64 12] v fun e w' => e = .returned (.bool t5) ∧ w' = v) :
    Calls Tryz.prog 139 #[.int .i64 r, .int .i64 m, .agg #[.int .i64 a, .int .i64 b], .agg #[.int .i64 s, .int .i64 t]] w fun e w' => e = .returned (.bool (t0 && (t1 && (t2 && (t3 && (t4 && t5)))))) ∧ w' = (w.alloc (.cells #[.int .i64 a, .int .i64 b] 67)).alloc (.cells #[.int .i64 s, .int .i64 t] 67) := by
  cases t0
  case' true => cases t1
  case' true.true => cases t2
  case' true.true.true => obtain ⟨ha0, ha1⟩ := h2 rfl
  case' true.true.true => cases t3
  case' true.true.true.true => cases t4
  all_goals
    go_enter Tryz.func139, Tryz.ntmps139

    go_wp2_with (first
      | (go_at_call 152; refine (k0 _).mono ?_; clear k0; rintro e w'' ⟨rfl, rfl⟩)
      | (go_at_call 152; refine (k1 _).mono ?_; clear k1; rintro e w'' ⟨rfl, rfl⟩)
      | (go_at_call 152; refine (k2 _).mono ?_; clear k2; rintro e w'' ⟨rfl, rfl⟩)
      | (go_at_call 152; refine (k3 _).mono ?_; clear k3; rintro e w'' ⟨rfl, rfl⟩)
      | (go_at_call 152; refine (k4 _).mono ?_; clear k4; rintro e w'' ⟨rfl, rfl⟩)
      | (go_at_call 152; refine (k5 _).mono ?_; clear k5; rintro e w'' ⟨rfl, rfl⟩))
    go_ret
    exact ⟨rfl, rfl⟩

theorem right_any (r m a b s t : Int) (w : World) :
    Calls Tryz.prog 139 #[.int .i64 r, .int .i64 m, .agg #[.int .i64 a, .int .i64 b], .agg #[.int .i64 s, .int .i64 t]] w fun e w' => e = .returned (.bool (decide (lr r m a b s t))) ∧ w' = (w.alloc (.cells #[.int .i64 a, .int .i64 b] 67)).alloc (.cells #[.int .i64 s, .int .i64 t] 67) := by
  have := right_of r m a b s t w _ _ _ _ _ _ (fun h => by simp only [Bool.and_eq_true, decide_eq_true_iff] at h; exact h) (within_any r 1 12) (within_any m 0 16) (within_any a 0 16) (within_any b 0 (16 - a)) (within_any s 0 12) (within_any t 0 12)
  refine this.mono ?_
  rintro e w' ⟨rfl, rfl⟩
  refine ⟨?_, rfl⟩
  congr 2
  rw [Bool.eq_iff_iff]
  simp only [Bool.and_eq_true, decide_eq_true_iff]
  unfold lr
  omega

end Go.Proofs.YtjageagnclmnjabGreatDoor.K
