/- PROVED: what ledbat.Next answers. CONDITIONS: none beyond each theorem's own. -/
import Derived.Test.YtjageagnclmnjabGreatDoorG44GRight
namespace Go.Proofs.YtjageagnclmnjabGreatDoor.G
set_option maxRecDepth 100000
open Go.RowKit
set_option linter.unusedVariables false

set_option maxHeartbeats 1600000 in
theorem next_form (k n b a s q d : Int) (w : World) (h : ¬ mright k n b a s q) :
    Calls Tryz.prog 26 #[.agg #[.int .i64 k, .int .i64 n, .int .i64 b, .int .i64 a, .int .i64 s, .int .i64 q], .int .i64 d] w fun e w' => e = .returned (.tuple #[.agg #[.int .i64 0, .int .i64 0, .int .i64 0, .int .i64 0, .int .i64 0, .int .i64 0], .int .i64 1]) ∧ Below w.heap.size w w' := by
  have r := fun v => right_any k n b a s q v
  rw [decide_eq_false h] at r
  clear h
  go_enter Tryz.func26, Tryz.ntmps26
  go_wp2_with (go_at_call 40; refine (r _).mono ?_; rintro e w1 ⟨rfl, hb⟩; obtain ⟨d0, d1, d2, d3, d4, d5, g0, g1, g2, g3, g4, g5⟩ := (two hb).2)
  refine bodyPost_ret (v := .tuple #[.agg #[.int .i64 0, .int .i64 0, .int .i64 0, .int .i64 0, .int .i64 0, .int .i64 0], .int .i64 1]) (by simp [results, Tryz.results26, go_sem, d0, d1, d2, d3, d4, d5]) rfl ⟨rfl, ?_⟩
  repeat (refine Below.setCell ?_ (by simp) _)
  exact up2 hb

set_option maxHeartbeats 1600000 in
theorem next_range (k n b a s q d : Int) (w : World) (h : mright k n b a s q) (hd : ¬ inr d) :
    Calls Tryz.prog 26 #[.agg #[.int .i64 k, .int .i64 n, .int .i64 b, .int .i64 a, .int .i64 s, .int .i64 q], .int .i64 d] w fun e w' => e = .returned (.tuple #[.agg #[.int .i64 0, .int .i64 0, .int .i64 0, .int .i64 0, .int .i64 0, .int .i64 0], .int .i64 2]) ∧ Below w.heap.size w w' := by
  have r := fun v => right_any k n b a s q v
  rw [decide_eq_true h] at r
  clear h
  unfold inr at hd
  by_cases h0 : d < 0
  case' neg => have h1 : 1099511627776 < d := (by omega)
  all_goals
    clear hd
    go_enter Tryz.func26, Tryz.ntmps26
    go_wp2_with (go_at_call 40; refine (r _).mono ?_; rintro e w1 ⟨rfl, hb⟩; obtain ⟨d0, d1, d2, d3, d4, d5, g0, g1, g2, g3, g4, g5⟩ := (two hb).2)
    refine bodyPost_ret (v := .tuple #[.agg #[.int .i64 0, .int .i64 0, .int .i64 0, .int .i64 0, .int .i64 0, .int .i64 0], .int .i64 2]) (by simp [results, Tryz.results26, go_sem, d0, d1, d2, d3, d4, d5]) rfl ⟨rfl, ?_⟩
    repeat (refine Below.setCell ?_ (by simp) _)
    exact up2 hb

set_option maxHeartbeats 1600000 in
theorem next_of (k n b a s q d B x g C V Q : Int) (w : World) (hn : 1 ≤ n ∧ n ≤ 12) (hq : 0 ≤ q ∧ q ≤ 3) (hg : -2 ≤ g ∧ g ≤ 2) (hC : 4 ≤ C ∧ C ≤ 48) (hV : C.tdiv 4 = V) (hQ : C.tmod 4 = Q) (hV1 : 1 ≤ V ∧ V ≤ 12)
    (r : ∀ v, Calls Tryz.prog 40 #[.agg #[.int .i64 k, .int .i64 n, .int .i64 b, .int .i64 a, .int .i64 s, .int .i64 q]] v fun e w' => e = .returned (.bool true) ∧ Below v.heap.size v w')
    (cg : ∀ v, Calls Tryz.prog 42 #[.int .i64 x] v fun e w' => e = .returned (.int .i64 g) ∧ w' = v)
    (cb : ∀ v, Calls Tryz.prog 41 #[.int .i64 (4 * n + q + g)] v fun e w' => e = .returned (.int .i64 C) ∧ w' = v) (h0 : 0 ≤ d) (h1 : d ≤ 1099511627776) (hx : d - B = x) (hx0 : 0 ≤ x) (hx1 : x ≤ 1099511627776)
    (h : b < 0 ∧ d = B ∨ ¬ b < 0 ∧ d < b ∧ d = B ∨ decide (b < 0) = false ∧ decide (d < b) = false ∧ b = B) :
    Calls Tryz.prog 26 #[.agg #[.int .i64 k, .int .i64 n, .int .i64 b, .int .i64 a, .int .i64 s, .int .i64 q], .int .i64 d] w fun e w' => e = .returned (.tuple #[.agg #[.int .i64 k, .int .i64 V, .int .i64 B, .int .i64 a, .int .i64 s, .int .i64 Q], .int .i64 0]) ∧ Below w.heap.size w w' := by
  rcases h with ⟨hb, rfl⟩ | ⟨hb, h2, rfl⟩ | ⟨hb, h2, rfl⟩
  · obtain rfl : 0 = x := by omega
    clear hx
    go_enter Tryz.func26, Tryz.ntmps26
    go_wp2_with (go_at_call 40; refine (r _).mono ?_; rintro e w1 ⟨rfl, HB⟩; obtain ⟨X, Y⟩ := two HB; clear r; obtain ⟨c0, c1, c2, c3, c4, c5, f0, f1, f2, f3, f4, f5⟩ := X)
    have X2 : Ctl (w1.setCell ⟨w.heap.size, 2, none⟩ (.int .i64 d)) w.heap.size k n d a s q := Ctl.set2 (Ctl.mk c0 c1 c2 c3 c4 c5 f0 f1 f2 f3 f4 f5) d
    replace Y : Ctl (w1.setCell ⟨w.heap.size, 2, none⟩ (.int .i64 d)) (w.heap.size + 1) 0 0 0 0 0 0 := Y.far (by omega) _
    replace HB : Below w.heap.size w (w1.setCell ⟨w.heap.size, 2, none⟩ (.int .i64 d)) := (up2 HB).setCell (by simp) _
    generalize w1.setCell ⟨w.heap.size, 2, none⟩ (.int .i64 d) = w2 at X2 Y HB ⊢
    clear c0 c1 c2 c3 c4 c5 f0 f1 f2 f3 f4 f5
    obtain ⟨c0, c1, c2, c3, c4, c5, f0, f1, f2, f3, f4, f5⟩ := X2
    obtain ⟨d0, d1, d2, d3, d4, d5, g0, g1, g2, g3, g4, g5⟩ := Y
    go_quiet (first | (go_at_call 42; refine (cg _).mono ?_; rintro e w'' ⟨rfl, rfl⟩; exact ⟨rfl, _, rfl⟩) | (go_at_call 41; refine (cb _).mono ?_; rintro e w'' ⟨rfl, rfl⟩; exact ⟨rfl, _, rfl⟩))
    go_wp2
    refine bodyPost_ret (v := .tuple #[.agg #[.int .i64 k, .int .i64 V, .int .i64 d, .int .i64 a, .int .i64 s, .int .i64 Q], .int .i64 0]) (by simp [results, Tryz.results26, go_sem, d0, d1, d2, d3, d4, d5]) rfl ⟨rfl, ?_⟩
    repeat (refine Below.setCell ?_ (by simp) _)
    exact below_drewN HB _
  · obtain rfl : 0 = x := by omega
    clear hx
    go_enter Tryz.func26, Tryz.ntmps26
    go_wp2_with (go_at_call 40; refine (r _).mono ?_; rintro e w1 ⟨rfl, HB⟩; obtain ⟨X, Y⟩ := two HB; clear r; obtain ⟨c0, c1, c2, c3, c4, c5, f0, f1, f2, f3, f4, f5⟩ := X)
    have X2 : Ctl (w1.setCell ⟨w.heap.size, 2, none⟩ (.int .i64 d)) w.heap.size k n d a s q := Ctl.set2 (Ctl.mk c0 c1 c2 c3 c4 c5 f0 f1 f2 f3 f4 f5) d
    replace Y : Ctl (w1.setCell ⟨w.heap.size, 2, none⟩ (.int .i64 d)) (w.heap.size + 1) 0 0 0 0 0 0 := Y.far (by omega) _
    replace HB : Below w.heap.size w (w1.setCell ⟨w.heap.size, 2, none⟩ (.int .i64 d)) := (up2 HB).setCell (by simp) _
    generalize w1.setCell ⟨w.heap.size, 2, none⟩ (.int .i64 d) = w2 at X2 Y HB ⊢
    clear c0 c1 c2 c3 c4 c5 f0 f1 f2 f3 f4 f5
    obtain ⟨c0, c1, c2, c3, c4, c5, f0, f1, f2, f3, f4, f5⟩ := X2
    obtain ⟨d0, d1, d2, d3, d4, d5, g0, g1, g2, g3, g4, g5⟩ := Y
    go_quiet (first | (go_at_call 42; refine (cg _).mono ?_; rintro e w'' ⟨rfl, rfl⟩; exact ⟨rfl, _, rfl⟩) | (go_at_call 41; refine (cb _).mono ?_; rintro e w'' ⟨rfl, rfl⟩; exact ⟨rfl, _, rfl⟩))
    go_wp2
    refine bodyPost_ret (v := .tuple #[.agg #[.int .i64 k, .int .i64 V, .int .i64 d, .int .i64 a, .int .i64 s, .int .i64 Q], .int .i64 0]) (by simp [results, Tryz.results26, go_sem, d0, d1, d2, d3, d4, d5]) rfl ⟨rfl, ?_⟩
    repeat (refine Below.setCell ?_ (by simp) _)
    exact below_drewN HB _
  · skip
    go_enter Tryz.func26, Tryz.ntmps26
    go_wp2_with (go_at_call 40; refine (r _).mono ?_; rintro e w1 ⟨rfl, HB⟩; obtain ⟨X, Y⟩ := two HB; clear r; obtain ⟨c0, c1, c2, c3, c4, c5, f0, f1, f2, f3, f4, f5⟩ := X)
    replace HB := up2 HB
    obtain ⟨d0, d1, d2, d3, d4, d5, g0, g1, g2, g3, g4, g5⟩ := Y
    go_quiet (first | (go_at_call 42; refine (cg _).mono ?_; rintro e w'' ⟨rfl, rfl⟩; exact ⟨rfl, _, rfl⟩) | (go_at_call 41; refine (cb _).mono ?_; rintro e w'' ⟨rfl, rfl⟩; exact ⟨rfl, _, rfl⟩))
    go_wp2
    refine bodyPost_ret (v := .tuple #[.agg #[.int .i64 k, .int .i64 V, .int .i64 b, .int .i64 a, .int .i64 s, .int .i64 Q], .int .i64 0]) (by simp [results, Tryz.results26, go_sem, d0, d1, d2, d3, d4, d5]) rfl ⟨rfl, ?_⟩
    repeat (refine Below.setCell ?_ (by simp) _)
    exact below_drewN HB _

theorem next_yes (k n b a s q d : Int) (w : World) (h : mright k n b a s q) (hd : inr d) :
    Calls Tryz.prog 26 #[.agg #[.int .i64 k, .int .i64 n, .int .i64 b, .int .i64 a, .int .i64 s, .int .i64 q], .int .i64 d] w fun e w' => e = .returned (.tuple #[.agg #[.int .i64 3, .int .i64 (ct n q (d - nb b d) / 4), .int .i64 (nb b d), .int .i64 0, .int .i64 0, .int .i64 (ct n q (d - nb b d) % 4)], .int .i64 0]) ∧ Below w.heap.size w w' := by
  have r := fun v => right_any k n b a s q v
  rw [decide_eq_true h] at r
  obtain ⟨hB0, hB1, hB2, hx0, hx1⟩ := nb_in (b := b) hd
  obtain ⟨rfl, hn, ⟨hb0, hb1⟩, rfl, rfl, hq, _⟩ := h
  obtain ⟨h0, h1⟩ := hd
  have hC := ct_in n q (d - nb b d)
  refine next_of 3 n b 0 0 q d (nb b d) _ _ _ _ _ w hn hq (gr_in hx0) hC (Int.tdiv_eq_ediv_of_nonneg (by omega)) (Int.tmod_eq_emod_of_nonneg (by omega)) (by omega) r (fun v => growth_any _ v hx0 hx1) (fun v => bounded_any _ v) h0 h1 rfl hx0 hx1 ?_
  unfold nb
  by_cases hb : b < 0
  · exact .inl ⟨hb, by rw [if_pos (.inl hb)]⟩
  · by_cases h2 : d < b
    · exact .inr (.inl ⟨hb, h2, by rw [if_pos (.inr h2)]⟩)
    · exact .inr (.inr ⟨decide_eq_false hb, decide_eq_false h2, by rw [if_neg (by omega)]⟩)

/-- what is answered: kind, window, base, part, and whether it may be -/
def nextC (k n b a s q d : Int) : Int × Int × Int × Int × Int :=
  if mright k n b a s q then if inr d then (3, ct n q (d - nb b d) / 4, nb b d, ct n q (d - nb b d) % 4, 0) else (0, 0, 0, 0, 2) else (0, 0, 0, 0, 1)

theorem next_any (k n b a s q d K V B Q E : Int) (h : nextC k n b a s q d = (K, V, B, Q, E)) (w : World) :
    Calls Tryz.prog 26 #[.agg #[.int .i64 k, .int .i64 n, .int .i64 b, .int .i64 a, .int .i64 s, .int .i64 q], .int .i64 d] w fun e w' => e = .returned (.tuple #[.agg #[.int .i64 K, .int .i64 V, .int .i64 B, .int .i64 0, .int .i64 0, .int .i64 Q], .int .i64 E]) ∧ Below w.heap.size w w' := by
  unfold nextC at h
  by_cases h1 : mright k n b a s q
  · rw [if_pos h1] at h
    by_cases h2 : inr d
    · rw [if_pos h2] at h
      obtain ⟨rfl, rfl, rfl, rfl, rfl⟩ : 3 = K ∧ ct n q (d - nb b d) / 4 = V ∧ nb b d = B ∧ ct n q (d - nb b d) % 4 = Q ∧ 0 = E := by simpa only [Prod.mk.injEq] using h
      exact next_yes k n b a s q d w h1 h2
    · rw [if_neg h2] at h
      obtain ⟨rfl, rfl, rfl, rfl, rfl⟩ : 0 = K ∧ 0 = V ∧ 0 = B ∧ 0 = Q ∧ 2 = E := by simpa only [Prod.mk.injEq] using h
      exact next_range k n b a s q d w h1 h2
  · rw [if_neg h1] at h
    obtain ⟨rfl, rfl, rfl, rfl, rfl⟩ : 0 = K ∧ 0 = V ∧ 0 = B ∧ 0 = Q ∧ 1 = E := by simpa only [Prod.mk.injEq] using h
    exact next_form k n b a s q d w h1

end Go.Proofs.YtjageagnclmnjabGreatDoor.G
