/- PROVED: alive18 answers true, if mean.Greatest and mean.Best answer as they should. CONDITIONS: none beyond each theorem's own. -/
import Derived.Test.YtdbpgcaodgkcjaaMTo
namespace Go.Proofs.Ytdbpgcaodgkcjaa
open Go.RowKit
set_option linter.unusedVariables false

def es18 : List Eg := [⟨0, 1, 5⟩, ⟨1, 0, -2⟩, ⟨1, 2, 9⟩, ⟨2, 2, 1⟩]
def es18' : List Eg := [⟨0, 1, 5⟩]
/-- the graph's edges in block O -/
structure Twelve (w : World) (O : Nat) : Prop where
  c0 : w.cell? ⟨O, 0, none⟩ = some (.int .i64 0)
  c1 : w.cell? ⟨O, 1, none⟩ = some (.int .i64 1)
  c2 : w.cell? ⟨O, 2, none⟩ = some (.int .i64 5)
  c3 : w.cell? ⟨O, 3, none⟩ = some (.int .i64 1)
  c4 : w.cell? ⟨O, 4, none⟩ = some (.int .i64 0)
  c5 : w.cell? ⟨O, 5, none⟩ = some (.int .i64 (-2))
  c6 : w.cell? ⟨O, 6, none⟩ = some (.int .i64 1)
  c7 : w.cell? ⟨O, 7, none⟩ = some (.int .i64 2)
  c8 : w.cell? ⟨O, 8, none⟩ = some (.int .i64 9)
  c9 : w.cell? ⟨O, 9, none⟩ = some (.int .i64 2)
  c10 : w.cell? ⟨O, 10, none⟩ = some (.int .i64 2)
  c11 : w.cell? ⟨O, 11, none⟩ = some (.int .i64 1)
theorem Twelve.new (w : World) : Twelve (w.alloc (.cells #[.int .i64 0, .int .i64 1, .int .i64 5, .int .i64 1, .int .i64 0, .int .i64 (-2), .int .i64 1, .int .i64 2, .int .i64 9, .int .i64 2, .int .i64 2, .int .i64 1] 36)) w.heap.size := by
  constructor
  all_goals (rw [World.cell?_alloc_at _ _ _ _ rfl]; rfl)
theorem Twelve.kept {w w' : World} {O : Nat} (h : Twelve w O) (b : Below w.heap.size w w') : Twelve w' O :=
  have l : O < w.heap.size := block_lt h.c0
  have e : ∀ i, w'.cell? ⟨O, i, none⟩ = w.cell? ⟨O, i, none⟩ := fun i => b.cell (p := ⟨O, i, none⟩) l
  ⟨(e _).trans h.c0, (e _).trans h.c1, (e _).trans h.c2, (e _).trans h.c3, (e _).trans h.c4, (e _).trans h.c5, (e _).trans h.c6, (e _).trans h.c7, (e _).trans h.c8, (e _).trans h.c9, (e _).trans h.c10, (e _).trans h.c11⟩
theorem Twelve.row {w : World} {O : Nat} (h : Twelve w O) : GRow w (some ⟨O, 0, none⟩) es18 := by
  refine .inr ⟨O, 0, rfl, fun j hj => ?_⟩
  obtain rfl | rfl | rfl | rfl : j = 0 ∨ j = 1 ∨ j = 2 ∨ j = 3 := by simp [es18] at hj; omega
  · exact ⟨h.c0, h.c1, h.c2⟩
  · exact ⟨h.c3, h.c4, h.c5⟩
  · exact ⟨h.c6, h.c7, h.c8⟩
  · exact ⟨h.c9, h.c10, h.c11⟩
theorem Twelve.row' {w : World} {O : Nat} (h : Twelve w O) : GRow w (some ⟨O, 0, none⟩) es18' := by
  refine .inr ⟨O, 0, rfl, fun j hj => ?_⟩
  obtain rfl : j = 0 := by simp [es18'] at hj; omega
  exact ⟨h.c0, h.c1, h.c2⟩
theorem gph18 : Gph 3 es18 := by
  refine ⟨by omega, by simp [es18], fun e he => ?_, fun e he => ?_⟩
  · simp only [es18, List.mem_cons, List.not_mem_nil, or_false] at he
    rcases he with rfl | rfl | rfl | rfl <;> simp
  · simp only [es18, List.mem_cons, List.not_mem_nil, or_false] at he
    rcases he with rfl | rfl | rfl | rfl <;> simp
theorem gph18' : Gph 2 es18' := by
  refine ⟨by omega, by simp [es18'], fun e he => ?_, fun e he => ?_⟩
  · simp only [es18', List.mem_cons, List.not_mem_nil, or_false] at he
    subst he; simp
  · simp only [es18', List.mem_cons, List.not_mem_nil, or_false] at he
    subst he; simp
theorem lam18 : Lam es18 3 2 := by
  refine ⟨by omega, ⟨[⟨0, 1, 5⟩, ⟨1, 0, -2⟩], ⟨by simp, 0, by simp [es18], rfl, by simp [es18], rfl, rfl⟩, by simp [wt]⟩, fun l hl => ?_⟩
  have hp : noPos (sc es18 3 2) := by
    refine pots_noPos (m := fun v => if v = 0 then 0 else if v = 1 then 7 else 22) fun e he => ?_
    simp only [sc, es18, List.map_cons, List.map_nil, List.mem_cons, List.not_mem_nil, or_false] at he
    rcases he with rfl | rfl | rfl | rfl <;> simp
  have := (abv_sc es18 3 2)
  rcases Classical.em (Abv es18 3 2) with q | q
  · exact absurd hp (this.1 q)
  · exact Int.not_lt.1 fun k => q ⟨l, hl, k⟩
theorem none18 : ¬ ∃ l, Cyc es18' l := by
  rintro ⟨l, h0, u, hu⟩
  cases l with
  | nil => exact h0 rfl
  | cons e l =>
    obtain ⟨h1, h2, h3⟩ := hu
    simp only [es18', List.mem_cons, List.not_mem_nil, or_false] at h1
    subst h1
    cases l with
    | nil => have h3' : (1 : Nat) = u := h3; have h2' : (0 : Nat) = u := h2; omega
    | cons d l =>
      obtain ⟨g1, g2, _⟩ := h3
      simp only [es18', List.mem_cons, List.not_mem_nil, or_false] at g1
      subst g1
      have : (0 : Nat) = 1 := g2
      omega

attribute [local go_sem ↓] eqF

set_option maxHeartbeats 3200000 in
theorem alive18_any (hG : GSome) (hN : GNone) (hB : BSome) (w : World) : Calls Try.prog 11 #[] w fun e w' => e = .returned (.bool true) ∧ Below w.heap.size w w' := by
  have k7 : Hid (∀ (O : Nat) v, Twelve v O → Calls Try.prog 7 #[.agg #[.int .i64 3, .slice (some ⟨O, 0, none⟩) 4 4]] v fun e w' => e = .returned (.tuple #[.agg #[.int .i64 3, .int .i64 2], .int .i64 0]) ∧ Below v.heap.size v w') := fun O v h =>
    Calls.mono (hG 3 es18 gph18 (some ⟨O, 0, none⟩) 4 4 rfl 3 2 (by omega) (by omega) (by omega) lam18 v h.row) fun e w' ⟨P, Q, h1, h2, h3, h4⟩ => by
      obtain ⟨rfl, rfl⟩ := low_same h2 (P' := 3) (Q' := 2) ⟨by omega, by decide⟩ (by have h3' : P * 2 = 3 * Q := h3; exact h3')
      exact ⟨h1, h4⟩
  have k9 : Hid (∀ (O : Nat) v, Twelve v O → Calls Try.prog 9 #[.agg #[.int .i64 3, .slice (some ⟨O, 0, none⟩) 4 4]] v fun e w' => ∃ g o c, e = .returned (.tuple #[.slice (some ⟨g, o, none⟩) 2 c, .int .i64 0]) ∧ Below v.heap.size v w') := fun O v h =>
    Calls.mono (hB 3 es18 gph18 (some ⟨O, 0, none⟩) 4 4 rfl 3 2 (by omega) (by omega) (by omega) lam18 v h.row) fun e w' ⟨g, o, k, c, R, h1, h2, h3, h4, h5⟩ => by
      have h6 : (2 : Int) * nsum es18 R k = 3 * (k : Int) := h2.just
      have := h2.k1
      have := h2.kn
      obtain rfl : k = 2 := by omega
      exact ⟨g, o, c, h1, h5⟩
  have k7' : Hid (∀ (O : Nat) v, Twelve v O → Calls Try.prog 7 #[.agg #[.int .i64 2, .slice (some ⟨O, 0, none⟩) 1 4]] v fun e w' => e = .returned (.tuple #[.agg #[.int .i64 0, .int .i64 0], .int .i64 3]) ∧ Below v.heap.size v w') := fun O v h => hN 2 es18' gph18' (some ⟨O, 0, none⟩) 4 1 rfl none18 v h.row'
  have B : Below w.heap.size w ((w.alloc (.cells #[.int .i64 0, .int .i64 1, .int .i64 5, .int .i64 1, .int .i64 0, .int .i64 (-2), .int .i64 1, .int .i64 2, .int .i64 9, .int .i64 2, .int .i64 2, .int .i64 1] 36)).alloc (.cells #[.int .i64 3, .slice (some ⟨w.heap.size, 0, none⟩) 4 4] 24)) := balloc (balloc (Below.refl _ _) _) _
  have X := (Twelve.new w).kept (balloc (Below.refl _ _) (.cells #[.int .i64 3, .slice (some ⟨w.heap.size, 0, none⟩) 4 4] 24))
  have K := Gb.new (w.alloc (.cells #[.int .i64 0, .int .i64 1, .int .i64 5, .int .i64 1, .int .i64 0, .int .i64 (-2), .int .i64 1, .int .i64 2, .int .i64 9, .int .i64 2, .int .i64 2, .int .i64 1] 36)) 3 (some ⟨w.heap.size, 0, none⟩) 4 4
  rw [show (w.alloc (.cells #[.int .i64 0, .int .i64 1, .int .i64 5, .int .i64 1, .int .i64 0, .int .i64 (-2), .int .i64 1, .int .i64 2, .int .i64 9, .int .i64 2, .int .i64 2, .int .i64 1] 36)).heap.size = w.heap.size + 1 by simp] at K
  have sA : sameF 3 2 3 2 = true := same_self 3 2
  clear hG hN hB
  go_enter Try.func11, Try.ntmps11
  obtain ⟨W0, hW0⟩ : ∃ W0, (w.alloc (.cells #[.int .i64 0, .int .i64 1, .int .i64 5, .int .i64 1, .int .i64 0, .int .i64 (-2), .int .i64 1, .int .i64 2, .int .i64 9, .int .i64 2, .int .i64 2, .int .i64 1] 36)).alloc (.cells #[.int .i64 3, .slice (some ⟨w.heap.size, 0, none⟩) 4 4] 24) = W0 := ⟨_, rfl⟩
  rw [hW0] at B X K
  obtain ⟨g0, g1⟩ := id K
  have T1 := True.intro
  go_wp2_with (first
    | (go_at_call 7; clear T1; refine (k7.out w.heap.size _ X).mono ?_; rintro e v1 ⟨rfl, bb⟩; replace X := (X.kept bb).kept (balloc (Below.refl _ _) (.cells #[.int .i64 3, .int .i64 2] 26)); replace K := (K.kept bb).alloc (.cells #[.int .i64 3, .int .i64 2] 26); replace B := balloc (bthen B bb) (.cells #[.int .i64 3, .int .i64 2] 26); have F := Fr.new v1 v1.heap.size rfl 3 2; clear g0 g1; obtain ⟨g0, g1⟩ := id K)
    | (go_at_call 9; refine (k9.out w.heap.size _ X).mono ?_; rintro e v2 ⟨g, o, c, rfl, bb⟩; replace X := X.kept bb; replace K := K.kept bb; replace B := bthen B bb; replace F := F.kept bb; clear g0 g1; obtain ⟨g0, g1⟩ := id K)
    | (go_at_call 7; refine (k7'.out w.heap.size _ X).mono ?_; rintro e v3 ⟨rfl, bb⟩; replace F := (F.kept bb).alloc (.cells #[.int .i64 0, .int .i64 0] 26); replace B := balloc (bthen B bb) (.cells #[.int .i64 0, .int .i64 0] 26); obtain ⟨f0, f1, _, _⟩ := id F))
  go_ret
  exact ⟨rfl, B⟩

end Go.Proofs.Ytdbpgcaodgkcjaa
