/- PROVED: alive17 answers true. CONDITIONS: none beyond each theorem's own. -/
import Derived.Test.YtikcjlignnfkdaaTold
namespace Go.Proofs.Ytikcjlignnfkdaa
open Go.RowKit
set_option linter.unusedVariables false

def es1 (x : Int) : List Eg := [⟨0, 1, 5⟩, ⟨1, 2, -2⟩, ⟨2, 0, x⟩]
/-- the graph's edges in block O -/
structure Nine (w : World) (O : Nat) (x : Int) : Prop where
  c0 : w.cell? ⟨O, 0, none⟩ = some (.int .i64 0)
  c1 : w.cell? ⟨O, 1, none⟩ = some (.int .i64 1)
  c2 : w.cell? ⟨O, 2, none⟩ = some (.int .i64 5)
  c3 : w.cell? ⟨O, 3, none⟩ = some (.int .i64 1)
  c4 : w.cell? ⟨O, 4, none⟩ = some (.int .i64 2)
  c5 : w.cell? ⟨O, 5, none⟩ = some (.int .i64 (-2))
  c6 : w.cell? ⟨O, 6, none⟩ = some (.int .i64 2)
  c7 : w.cell? ⟨O, 7, none⟩ = some (.int .i64 0)
  c8 : w.cell? ⟨O, 8, none⟩ = some (.int .i64 x)
  f8 : w.frozen? ⟨O, 8, none⟩ = false
theorem Nine.new (w : World) : Nine (w.alloc (.cells #[.int .i64 0, .int .i64 1, .int .i64 5, .int .i64 1, .int .i64 2, .int .i64 (-2), .int .i64 2, .int .i64 0, .int .i64 (-3)] 37)) w.heap.size (-3) := by
  constructor
  all_goals first | (rw [World.cell?_alloc_at _ _ _ _ rfl]; rfl) | (rw [World.frozen?_alloc_at _ _ _ _ rfl])
theorem Nine.kept {w w' : World} {O : Nat} {x : Int} (h : Nine w O x) (b : Below w.heap.size w w') : Nine w' O x :=
  have l : O < w.heap.size := block_lt h.c0
  ⟨(b.cell (p := ⟨O, 0, none⟩) l).trans h.c0, (b.cell (p := ⟨O, 1, none⟩) l).trans h.c1, (b.cell (p := ⟨O, 2, none⟩) l).trans h.c2, (b.cell (p := ⟨O, 3, none⟩) l).trans h.c3, (b.cell (p := ⟨O, 4, none⟩) l).trans h.c4, (b.cell (p := ⟨O, 5, none⟩) l).trans h.c5, (b.cell (p := ⟨O, 6, none⟩) l).trans h.c6, (b.cell (p := ⟨O, 7, none⟩) l).trans h.c7, (b.cell (p := ⟨O, 8, none⟩) l).trans h.c8, frozen_kept h.f8 l b⟩
theorem Nine.put {w : World} {O : Nat} {x : Int} (h : Nine w O x) (y : Int) : Nine (w.setCell ⟨O, 8, none⟩ (.int .i64 y)) O y where
  c0 := by rw [World.cell?_setCell_other _ _ _ _ (by simp)]; exact h.c0
  c1 := by rw [World.cell?_setCell_other _ _ _ _ (by simp)]; exact h.c1
  c2 := by rw [World.cell?_setCell_other _ _ _ _ (by simp)]; exact h.c2
  c3 := by rw [World.cell?_setCell_other _ _ _ _ (by simp)]; exact h.c3
  c4 := by rw [World.cell?_setCell_other _ _ _ _ (by simp)]; exact h.c4
  c5 := by rw [World.cell?_setCell_other _ _ _ _ (by simp)]; exact h.c5
  c6 := by rw [World.cell?_setCell_other _ _ _ _ (by simp)]; exact h.c6
  c7 := by rw [World.cell?_setCell_other _ _ _ _ (by simp)]; exact h.c7
  c8 := World.cell?_setCell_same _ _ _ h.c8
  f8 := by rw [World.frozen?_setCell]; exact h.f8
theorem Nine.row {w : World} {O : Nat} {x : Int} (h : Nine w O x) : GRow w (some ⟨O, 0, none⟩) (es1 x) := by
  refine .inr ⟨O, 0, rfl, fun j hj => ?_⟩
  obtain rfl | rfl | rfl : j = 0 ∨ j = 1 ∨ j = 2 := by simp [es1] at hj; omega
  · exact ⟨h.c0, h.c1, h.c2⟩
  · exact ⟨h.c3, h.c4, h.c5⟩
  · exact ⟨h.c6, h.c7, h.c8⟩
theorem gph1 (x : Int) (h : -1048576 ≤ x ∧ x ≤ 1048576) : Gph 3 (es1 x) := by
  refine ⟨by omega, by simp [es1], fun e he => ?_, fun e he => ?_⟩
  · simp only [es1, List.mem_cons, List.not_mem_nil, or_false] at he
    rcases he with rfl | rfl | rfl <;> simp
  · simp only [es1, List.mem_cons, List.not_mem_nil, or_false] at he
    rcases he with rfl | rfl | rfl <;> simp <;> omega
theorem ks (k : Nat) (h : k ≤ 3) : k = 0 ∨ k = 1 ∨ k = 2 ∨ k = 3 := by omega
theorem fin1 {k : Nat} (h : Fin 3 (es1 (-3)) k) : (cst (es1 (-3)) k).r = -1 ∧ (cst (es1 (-3)) k).d 1 = 5 ∧ (cst (es1 (-3)) k).d 2 = 3 := by
  obtain ⟨hk, h⟩ := h
  obtain rfl | rfl | rfl | rfl := ks k hk
  · rcases h with ⟨_, q⟩ | ⟨q, _⟩ <;> omega
  · rcases h with ⟨q, _⟩ | ⟨q, _⟩
    · exact absurd q (by decide +kernel)
    · omega
  · exact ⟨by decide +kernel, by decide +kernel, by decide +kernel⟩
  · exact ⟨by decide +kernel, by decide +kernel, by decide +kernel⟩
theorem fin2 {k : Nat} (h : Fin 3 (es1 (-2)) k) : (cst (es1 (-2)) k).r ≠ -1 := by
  obtain ⟨hk, h⟩ := h
  obtain rfl | rfl | rfl | rfl := ks k hk
  · rcases h with ⟨_, q⟩ | ⟨q, _⟩ <;> omega
  · decide +kernel
  · decide +kernel
  · decide +kernel
theorem rnd2 {v p : Nat} (h : Rnd 3 (es1 (-2)) (cst (es1 (-2)) 3) v p) : p = 3 := by
  have hv : v < 3 := h.vn
  have p1 := h.p1
  have pn := h.pn
  have hb := h.back
  have r0 : (cst (es1 (-2)) 3).r = (v : Int) := h.rv
  have hp : p ≠ 1 ∧ p ≠ 2 := by
    obtain rfl | rfl | rfl : v = 0 ∨ v = 1 ∨ v = 2 := by omega
    · refine ⟨fun e => ?_, fun e => ?_⟩
      · subst e; revert hb; decide +kernel
      · subst e; revert hb; decide +kernel
    · refine ⟨fun e => ?_, fun e => ?_⟩
      · subst e; revert hb; decide +kernel
      · subst e; revert hb; decide +kernel
    · refine ⟨fun e => ?_, fun e => ?_⟩
      · subst e; revert hb; decide +kernel
      · subst e; revert hb; decide +kernel
  omega

/-- what is another number lies elsewhere -/
theorem far_put {w : World} {O M : Nat} {x y : Int} (X : Nine w O x) (h : w.cell? ⟨M, 1, none⟩ = some (.int .i64 y)) (hy : y ≠ 1) (u : Int) : (w.setCell ⟨O, 8, none⟩ (.int .i64 u)).cell? ⟨M, 1, none⟩ = some (.int .i64 y) := by
  rw [World.cell?_setCell_other _ _ _ _ (by simp)]; exact h
theorem far_put2 {w : World} {O M : Nat} {x y : Int} (X : Nine w O x) (h : w.cell? ⟨M, 2, none⟩ = some (.int .i64 y)) (hy : y ≠ 5) (u : Int) : (w.setCell ⟨O, 8, none⟩ (.int .i64 u)).cell? ⟨M, 2, none⟩ = some (.int .i64 y) := by
  rw [World.cell?_setCell_other _ _ _ _ (by simp)]; exact h

theorem alive_most (O : Nat) (v : World) (h : Nine v O (-3)) : Calls Try.prog 11 #[.agg #[.int .i64 3, .slice (some ⟨O, 0, none⟩) 3 3]] v fun e w' => ∃ M, e = .returned (.tuple #[.slice (some ⟨M, 0, none⟩) 3 3, .int .i64 0]) ∧ w'.cell? ⟨M, 1, none⟩ = some (.int .i64 5) ∧ w'.cell? ⟨M, 2, none⟩ = some (.int .i64 3) ∧ Below v.heap.size v w' := by
  refine Calls.mono (most_any 3 (es1 (-3)) (gph1 _ (by omega)) (some ⟨O, 0, none⟩) 3 v h.row) fun e w' ⟨k, hf, hb, hh⟩ => ?_
  obtain ⟨h1, h2, h3⟩ := fin1 hf
  rcases hh with ⟨_, M, he, hc⟩ | ⟨hr, _⟩
  · have q1 := hc.c 1 (by omega)
    have q2 := hc.c 2 (by omega)
    rw [h2] at q1
    rw [h3] at q2
    exact ⟨M, he, q1, q2, hb⟩
  · exact absurd h1 hr
theorem alive_cyc1 (O : Nat) (v : World) (h : Nine v O (-3)) : Calls Try.prog 16 #[.agg #[.int .i64 3, .slice (some ⟨O, 0, none⟩) 3 3]] v fun e w' => e = .returned (.tuple #[.slice none 0 0, .int .i64 3]) ∧ Below v.heap.size v w' := by
  refine Calls.mono (cycle_any 3 (es1 (-3)) (gph1 _ (by omega)) (some ⟨O, 0, none⟩) 3 v h.row) fun e w' ⟨k, hf, hb, hh⟩ => ?_
  rcases hh with ⟨_, he⟩ | ⟨hr, _⟩
  · exact ⟨he, hb⟩
  · exact absurd (fin1 hf).1 hr
theorem alive_cyc2 (O : Nat) (v : World) (h : Nine v O (-2)) : Calls Try.prog 16 #[.agg #[.int .i64 3, .slice (some ⟨O, 0, none⟩) 3 3]] v fun e w' => ∃ g c, e = .returned (.tuple #[.slice (some ⟨g, 0, none⟩) 3 c, .int .i64 0]) ∧ Below v.heap.size v w' := by
  refine Calls.mono (cycle_any 3 (es1 (-2)) (gph1 _ (by omega)) (some ⟨O, 0, none⟩) 3 v h.row) fun e w' ⟨k, hf, hb, hh⟩ => ?_
  rcases hh with ⟨hr, he⟩ | ⟨_, u, p, g, c, he, hR, _⟩
  · exact absurd hr (fin2 hf)
  · obtain rfl := rnd2 hR
    exact ⟨g, c, he, hb⟩

set_option maxHeartbeats 3200000 in
theorem alive_any (w : World) : Calls Try.prog 17 #[] w fun e w' => e = .returned (.bool true) ∧ Below w.heap.size w w' := by
  have B : Below w.heap.size w ((w.alloc (.cells #[.int .i64 0, .int .i64 1, .int .i64 5, .int .i64 1, .int .i64 2, .int .i64 (-2), .int .i64 2, .int .i64 0, .int .i64 (-3)] 37)).alloc (.cells #[.int .i64 3, .slice (some ⟨w.heap.size, 0, none⟩) 3 3] 24)) := balloc (balloc (Below.refl _ _) _) _
  have X := (Nine.new w).kept (balloc (Below.refl _ _) (.cells #[.int .i64 3, .slice (some ⟨w.heap.size, 0, none⟩) 3 3] 24))
  have K := Gb.new (w.alloc (.cells #[.int .i64 0, .int .i64 1, .int .i64 5, .int .i64 1, .int .i64 2, .int .i64 (-2), .int .i64 2, .int .i64 0, .int .i64 (-3)] 37)) 3 (some ⟨w.heap.size, 0, none⟩) 3 3
  rw [show (w.alloc (.cells #[.int .i64 0, .int .i64 1, .int .i64 5, .int .i64 1, .int .i64 2, .int .i64 (-2), .int .i64 2, .int .i64 0, .int .i64 (-3)] 37)).heap.size = w.heap.size + 1 by simp] at K
  go_enter Try.func17, Try.ntmps17
  obtain ⟨W0, hW0⟩ : ∃ W0, (w.alloc (.cells #[.int .i64 0, .int .i64 1, .int .i64 5, .int .i64 1, .int .i64 2, .int .i64 (-2), .int .i64 2, .int .i64 0, .int .i64 (-3)] 37)).alloc (.cells #[.int .i64 3, .slice (some ⟨w.heap.size, 0, none⟩) 3 3] 24) = W0 := ⟨_, rfl⟩
  rw [hW0] at B X K
  obtain ⟨g0, g1⟩ := id K
  have T1 := True.intro
  go_wp2_with (first
    | (go_at_call 11; refine (alive_most w.heap.size _ X).mono ?_; rintro e v1 ⟨M, rfl, m1, m2, bb⟩; replace X := X.kept bb; replace K := K.kept bb; replace B := bthen B bb; clear g0 g1; obtain ⟨g0, g1⟩ := id K)
    | (go_at_call 16; clear T1; refine (alive_cyc1 w.heap.size _ X).mono ?_; rintro e v2 ⟨rfl, bb⟩; replace X := X.kept bb; replace K := K.kept bb; replace B := bthen B bb; have m3 := (bb.cell (p := ⟨M, 1, none⟩) (block_lt m1)).trans m1; have m4 := (bb.cell (p := ⟨M, 2, none⟩) (block_lt m2)).trans m2; clear m1 m2 g0 g1; obtain ⟨g0, g1⟩ := id K; obtain ⟨_, _, _, _, _, _, _, _, x8, f8⟩ := id X; have X2 := X.put (-2); have m5 := far_put X m3 (by decide) (-2); have m6 := far_put2 X m4 (by decide) (-2); have B2 := Below.setCell (p := ⟨w.heap.size, 8, none⟩) B (Nat.le_refl _) (.int .i64 (-2)))
    | (go_at_call 16; refine (alive_cyc2 w.heap.size _ X2).mono ?_; rintro e v3 ⟨g, c, rfl, bb⟩; replace m5 := (bb.cell (p := ⟨M, 1, none⟩) (block_lt m5)).trans m5; replace m6 := (bb.cell (p := ⟨M, 2, none⟩) (block_lt m6)).trans m6; replace B2 := bthen B2 bb; clear m3 m4))
  go_ret
  exact ⟨rfl, B2⟩

end Go.Proofs.Ytikcjlignnfkdaa
