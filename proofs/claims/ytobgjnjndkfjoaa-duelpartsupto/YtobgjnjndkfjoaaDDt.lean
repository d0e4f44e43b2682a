/- PROVED: what the law DuelParts answers, under what both runs tell. CONDITIONS: none beyond each theorem's own. -/
import Derived.Test.YtobgjnjndkfjoaaDParts
import Derived.Test.YtobgjnjndkfjoaaDAlive
import Derived.Test.YtobgjnjndkfjoaaDEq
import Derived.Test.YtobgjnjndkfjoaaDSame
import Derived.Test.YtobgjnjndkfjoaaDBulk
import Derived.Deep.CutRange
import Derived.Deep.RegionHeld3
namespace Go.Proofs.Ytobgjnjndkfjoaa.D
open Go.RowKit K
set_option linter.unusedVariables false
attribute [local go_sem ↓] eqSt appe_whole

/-- two slices in a block -/
structure Sls (w : World) (S n1 c1 n2 c2 : Nat) (a b : Option Addr) : Prop where
  c0 : w.cell? ⟨S, 0, none⟩ = some (.slice a n1 c1)
  c1 : w.cell? ⟨S, 1, none⟩ = some (.slice b n2 c2)
theorem Sls.new (w : World) (S : Nat) (hS : S = w.heap.size) (n1 c1 n2 c2 : Nat) (a b : Option Addr) : Sls (w.alloc (.cells #[.slice a n1 c1, .slice b n2 c2] 40)) S n1 c1 n2 c2 a b := by
  subst hS
  constructor <;> (rw [World.cell?_alloc_at _ _ _ _ rfl]; rfl)
theorem Sls.kept {w w' : World} {S n1 c1 n2 c2 : Nat} {a b : Option Addr} (h : Sls w S n1 c1 n2 c2 a b) (g : Below w.heap.size w w') : Sls w' S n1 c1 n2 c2 a b := by
  have hl : S < w.heap.size := block_lt h.c0
  exact ⟨(g.cell (p := ⟨S, 0, none⟩) hl).trans h.c0, (g.cell (p := ⟨S, 1, none⟩) hl).trans h.c1⟩

set_option maxHeartbeats 25600000 in
theorem dt_go (p0 p1 r m j k0 n0 b0 a0 c0 q0 k1 n1 b1 a1 c1 q1 w0 w1 t0 t1 t2 t3 t4 t5 t6 t7 t8 t9 t10 t11 t12 t13 E F : Int) (a b : Option Addr) (cA cB nA nB M NB NA : Nat) (xs ys : List (Int × Int)) (RA RB : List Rx) (hx : xs.length = nA) (hy : ys.length = nB) (hM : nA + nB = M) (hMb : M ≤ 1048576) (w : World) (hva : VRow w a xs) (hvb : VRow w b ys)
    (hRA : RA.length = NA) (hRB : RB.length = NB) (hE : (E != 0) = true ∧ F = E ∨ E = 0 ∧ NA = nA ∧ pright ⟨p0, p1, r, m, j⟩ ⟨⟨k0, n0, b0, a0, c0, q0⟩, ⟨k1, n1, b1, a1, c1, q1⟩, w0, w1⟩ ∧ (F = 0 ∧ allLate ⟨p0, p1, r, m, j⟩ ys ∧ steps ⟨p0, p1, r, m, j⟩ ⟨⟨k0, n0, b0, a0, c0, q0⟩, ⟨k1, n1, b1, a1, c1, q1⟩, w0, w1⟩ ys = ⟨⟨t0, t1, t2, t3, t4, t5⟩, ⟨t6, t7, t8, t9, t10, t11⟩, t12, t13⟩ ∧ RB = RA ++ rounds ⟨p0, p1, r, m, j⟩ ⟨⟨k0, n0, b0, a0, c0, q0⟩, ⟨k1, n1, b1, a1, c1, q1⟩, w0, w1⟩ ys ∨ F = 2 ∧ ¬ allLate ⟨p0, p1, r, m, j⟩ ys))
    (pa : ∀ v, VRow v a xs → Calls Try.prog 17 #[.agg #[.int .i64 p0, .int .i64 p1, .int .i64 r, .int .i64 m, .int .i64 j], .slice a nA cA] v fun e w' => ∃ t, e = .returned (.tuple #[t, .agg #[.int .i64 k0, .int .i64 n0, .int .i64 b0, .int .i64 a0, .int .i64 c0, .int .i64 q0, .int .i64 k1, .int .i64 n1, .int .i64 b1, .int .i64 a1, .int .i64 c1, .int .i64 q1, .int .i64 w0, .int .i64 w1], .int .i64 E]) ∧ Owned w' v.heap.size t NA (flatR RA) ∧ Below v.heap.size v w')
    (pc : ∀ ao cp v, VRow v ao (xs ++ ys) → Calls Try.prog 17 #[.agg #[.int .i64 p0, .int .i64 p1, .int .i64 r, .int .i64 m, .int .i64 j], .slice ao M cp] v fun e w' => ∃ al cp', e = .returned (.tuple #[.slice al NB cp', .agg #[.int .i64 t0, .int .i64 t1, .int .i64 t2, .int .i64 t3, .int .i64 t4, .int .i64 t5, .int .i64 t6, .int .i64 t7, .int .i64 t8, .int .i64 t9, .int .i64 t10, .int .i64 t11, .int .i64 t12, .int .i64 t13], .int .i64 F]) ∧ RRow w' al RB ∧ (∀ q, al = some q → v.heap.size ≤ q.block) ∧ Below v.heap.size v w') :
    Calls Try.prog 7 #[.agg #[.int .i64 p0, .int .i64 p1, .int .i64 r, .int .i64 m, .int .i64 j], .slice a nA cA, .slice b nB cB] w fun e w' => e = .returned (.bool true) ∧ Below w.heap.size w w' := by
  have X := Rul.new w _ rfl p0 p1 r m j
  have B : Below w.heap.size w (w.alloc (.cells #[.int .i64 p0, .int .i64 p1, .int .i64 r, .int .i64 m, .int .i64 j] 24)) := balloc (Below.refl _ _) _
  have hN1 : nA ≤ 1048576 := by omega
  have hN2 : nB ≤ 1048576 := by omega
  go_enter Try.func7, Try.ntmps7
  go_upto_region 4 with (first
    | (go_at_call 20; refine (alive_any _).mono ?_; rintro xx v0 ⟨rfl, bb⟩; replace X := X.kept bb; replace B := bthen B bb; clear bb; have wl : w.heap.size < v0.heap.size := block_lt X.c0; obtain ⟨x0, x1, x2, x3, x4, _, _, _, _, _⟩ := id X)
    | (go_at_call 17; refine (pa _ (hva.kept B)).mono ?_; clear pa x0 x1 x2 x3 x4; rintro xx v1 ⟨t, rfl, O, bb⟩; have wv : v0.heap.size ≤ v1.heap.size := bb.size; have ot : Hid (∀ q, t.ownBlock = some q → q < v1.heap.size) := fun q hq => (O.out.lt q hq).2; replace X := (X.kept bb).alloc (.cells #[.int .i64 k0, .int .i64 n0, .int .i64 b0, .int .i64 a0, .int .i64 c0, .int .i64 q0, .int .i64 k1, .int .i64 n1, .int .i64 b1, .int .i64 a1, .int .i64 c1, .int .i64 q1, .int .i64 w0, .int .i64 w1] 29); have Y := Sta.new v1 _ rfl k0 n0 b0 a0 c0 q0 k1 n1 b1 a1 c1 q1 w0 w1; have O2 : Owned (v1.alloc (.cells #[.int .i64 k0, .int .i64 n0, .int .i64 b0, .int .i64 a0, .int .i64 c0, .int .i64 q0, .int .i64 k1, .int .i64 n1, .int .i64 b1, .int .i64 a1, .int .i64 c1, .int .i64 q1, .int .i64 w0, .int .i64 w1] 29)) v0.heap.size t NA (flatR RA) := ⟨own_kept6 O.out (balloc (Below.refl _ _) _)⟩; replace B := balloc (bthen B bb) (.cells #[.int .i64 k0, .int .i64 n0, .int .i64 b0, .int .i64 a0, .int .i64 c0, .int .i64 q0, .int .i64 k1, .int .i64 n1, .int .i64 b1, .int .i64 a1, .int .i64 c1, .int .i64 q1, .int .i64 w0, .int .i64 w1] 29); clear bb O; obtain ⟨C, hC⟩ : ∃ C, v1.heap.size = C := ⟨_, rfl⟩; rw [hC] at Y ot wv; obtain ⟨W1, hW1⟩ : ∃ W1, v1.alloc (.cells #[.int .i64 k0, .int .i64 n0, .int .i64 b0, .int .i64 a0, .int .i64 c0, .int .i64 q0, .int .i64 k1, .int .i64 n1, .int .i64 b1, .int .i64 a1, .int .i64 c1, .int .i64 q1, .int .i64 w0, .int .i64 w1] 29) = W1 := ⟨_, rfl⟩; rw [hW1] at X Y O2 B; replace hC : Hid _ := hC))
  have hC' := hC.out
  rw [hC']
  clear hC hC'
  obtain ⟨x0, x1, x2, x3, x4, _, _, _, _, _⟩ := id X
  have hva1 := hva.kept B
  have hvb1 := hvb.kept B
  clear hva
  have hW0 : w.heap.size < W1.heap.size := block_lt X.c0
  go_cut [10, 11, 12] from 27 to 36 (fun al tp f wc => ∃ aa cp C2, al = .slice aa NB cp ∧ tp = .pointer (some ⟨C2, 0, none⟩) ∧ f = .int .i64 F ∧ RRow wc aa RB ∧ (∀ q, aa = some q → W1.heap.size ≤ q.block) ∧ Sta wc C2 t0 t1 t2 t3 t4 t5 t6 t7 t8 t9 t10 t11 t12 t13 ∧ W1.heap.size ≤ C2 ∧ Below W1.heap.size W1 wc)
  case first =>
    have Q1 : Below W1.heap.size W1 (W1.alloc (.cells #[.slice a nA cA, .slice b nB cB] 40)).drew := Below.drew (balloc (Below.refl _ _) _)
    have Q2 : Below W1.heap.size W1 ((W1.alloc (.cells #[.int .i64 0, .int .i64 0, .int .i64 0, .int .i64 0, .int .i64 0, .int .i64 0, .int .i64 0, .int .i64 0, .int .i64 0, .int .i64 0, .int .i64 0, .int .i64 0, .int .i64 0, .int .i64 0] 29)).alloc (.cells #[.slice a nA cA, .slice b nB cB] 40)).drew := Below.drew (balloc (balloc (Below.refl _ _) _) _)
    have Q3 : Below W1.heap.size W1 ((W1.alloc (.cells #[.slice a nA cA, .slice b nB cB] 40)).alloc (.cells #[.int .i64 0, .int .i64 0, .int .i64 0, .int .i64 0, .int .i64 0, .int .i64 0, .int .i64 0, .int .i64 0, .int .i64 0, .int .i64 0, .int .i64 0, .int .i64 0, .int .i64 0, .int .i64 0] 29)).drew := Below.drew (balloc (balloc (Below.refl _ _) _) _)
    have L1 := (Sls.new W1 W1.heap.size rfl nA cA nB cB a b).kept (below_drewN (Below.refl _ _) 1)
    have L2 := (Sls.new (W1.alloc (.cells #[.int .i64 0, .int .i64 0, .int .i64 0, .int .i64 0, .int .i64 0, .int .i64 0, .int .i64 0, .int .i64 0, .int .i64 0, .int .i64 0, .int .i64 0, .int .i64 0, .int .i64 0, .int .i64 0] 29)) (W1.heap.size + 1) (by simp) nA cA nB cB a b).kept (below_drewN (Below.refl _ _) 1)
    have L3 := ((Sls.new W1 W1.heap.size rfl nA cA nB cB a b).kept (balloc (Below.refl _ _) (.cells #[.int .i64 0, .int .i64 0, .int .i64 0, .int .i64 0, .int .i64 0, .int .i64 0, .int .i64 0, .int .i64 0, .int .i64 0, .int .i64 0, .int .i64 0, .int .i64 0, .int .i64 0, .int .i64 0] 29))).kept (below_drewN (Below.refl _ _) 1)
    have Y2 := ((Sta.new W1 _ rfl 0 0 0 0 0 0 0 0 0 0 0 0 0 0).alloc (.cells #[.slice a nA cA, .slice b nB cB] 40)).drew
    have Y3 := (Sta.new (W1.alloc (.cells #[.slice a nA cA, .slice b nB cB] 40)) (W1.heap.size + 1) (by simp) 0 0 0 0 0 0 0 0 0 0 0 0 0 0).drew
    have K1 := concat_any W1.heap.size nA nB M cA cB a b xs ys hx hy hM hMb (W1.alloc (.cells #[.slice a nA cA, .slice b nB cB] 40)).drew L1.c0 L1.c1 (hva1.kept Q1) (hvb1.kept Q1)
    have K2 := concat_any (W1.heap.size + 1) nA nB M cA cB a b xs ys hx hy hM hMb ((W1.alloc (.cells #[.int .i64 0, .int .i64 0, .int .i64 0, .int .i64 0, .int .i64 0, .int .i64 0, .int .i64 0, .int .i64 0, .int .i64 0, .int .i64 0, .int .i64 0, .int .i64 0, .int .i64 0, .int .i64 0] 29)).alloc (.cells #[.slice a nA cA, .slice b nB cB] 40)).drew L2.c0 L2.c1 (hva1.kept Q2) (hvb1.kept Q2)
    have K3 := concat_any W1.heap.size nA nB M cA cB a b xs ys hx hy hM hMb ((W1.alloc (.cells #[.slice a nA cA, .slice b nB cB] 40)).alloc (.cells #[.int .i64 0, .int .i64 0, .int .i64 0, .int .i64 0, .int .i64 0, .int .i64 0, .int .i64 0, .int .i64 0, .int .i64 0, .int .i64 0, .int .i64 0, .int .i64 0, .int .i64 0, .int .i64 0] 29)).drew L3.c0 L3.c1 (hva1.kept Q3) (hvb1.kept Q3)
    clear hW1 hva1 hvb1 L1 L2 L3 Y O2 ot wv hN1 hN2
    have X' := X
    go_region_held3 (fun w' => w'.cell? ⟨w.heap.size, 0, none⟩ = some (.int .i64 p0) ∧ w'.cell? ⟨w.heap.size, 1, none⟩ = some (.int .i64 p1) ∧ w'.cell? ⟨w.heap.size, 2, none⟩ = some (.int .i64 r) ∧ w'.cell? ⟨w.heap.size, 3, none⟩ = some (.int .i64 m) ∧ w'.cell? ⟨w.heap.size, 4, none⟩ = some (.int .i64 j)) (first | with_reducible exact ⟨x0, x1, x2, x3, x4⟩ | with_reducible exact ⟨Xf.c0, Xf.c1, Xf.c2, Xf.c3, Xf.c4⟩ | with_reducible exact ⟨Xa.c0, Xa.c1, Xa.c2, Xa.c3, Xa.c4⟩ | with_reducible exact ⟨Xb.c0, Xb.c1, Xb.c2, Xb.c3, Xb.c4⟩ | go_keep)
      (first
      | (go_at_call 24; with_reducible refine K1.mono ?_; clear K1 K2 K3 Y2 Y3; rintro xx u1 ⟨ao, cp, rfl, hrow, bb⟩; have FB := bthen Q1 bb; clear Q1 Q2 Q3; replace X := X.kept FB; clear bb x0 x1 x2 x3 x4; have Xa := X.alloc (.cells #[.int .i64 0, .int .i64 0, .int .i64 0, .int .i64 0, .int .i64 0, .int .i64 0, .int .i64 0, .int .i64 0, .int .i64 0, .int .i64 0, .int .i64 0, .int .i64 0, .int .i64 0, .int .i64 0] 29); have P1 := pc ao cp u1 hrow; have P2 := pc ao cp (u1.alloc (.cells #[.int .i64 0, .int .i64 0, .int .i64 0, .int .i64 0, .int .i64 0, .int .i64 0, .int .i64 0, .int .i64 0, .int .i64 0, .int .i64 0, .int .i64 0, .int .i64 0, .int .i64 0, .int .i64 0] 29)) (hrow.alloc (.cells #[.int .i64 0, .int .i64 0, .int .i64 0, .int .i64 0, .int .i64 0, .int .i64 0, .int .i64 0, .int .i64 0, .int .i64 0, .int .i64 0, .int .i64 0, .int .i64 0, .int .i64 0, .int .i64 0] 29)); have Y1 := Sta.new u1 _ rfl 0 0 0 0 0 0 0 0 0 0 0 0 0 0; obtain ⟨x0, x1, x2, x3, x4, _, _, _, _, _⟩ := id X)
      | (go_at_call 24; with_reducible refine K2.mono ?_; clear K1 K2 K3 Y3; rintro xx u1 ⟨ao, cp, rfl, hrow, bb⟩; have FB := bthen Q2 bb; clear Q1 Q2 Q3; replace X := X.kept FB; replace Y2 := Y2.kept bb; clear bb x0 x1 x2 x3 x4; have P1 := pc ao cp u1 hrow; obtain ⟨x0, x1, x2, x3, x4, _, _, _, _, _⟩ := id X)
      | (go_at_call 24; with_reducible refine K3.mono ?_; clear K1 K2 K3 Y2; rintro xx u1 ⟨ao, cp, rfl, hrow, bb⟩; have FB := bthen Q3 bb; clear Q1 Q2 Q3; replace X := X.kept FB; replace Y3 := Y3.kept bb; clear bb x0 x1 x2 x3 x4; have P1 := pc ao cp u1 hrow; obtain ⟨x0, x1, x2, x3, x4, _, _, _, _, _⟩ := id X)
      | (go_at_call 17; with_reducible refine P1.mono ?_; clear P1; rintro xx u2 ⟨aa, cp', rfl, hr, hq, bb⟩; have zs : W1.heap.size < u1.heap.size := block_lt Y2.c0; replace Y2 := Y2.kept bb; replace FB := bthen FB bb; replace X := X.kept bb; clear bb x0 x1 x2 x3 x4; have hz : ∀ q, aa = some q → q.block ≠ W1.heap.size := (fun q h => by have := hq q h; omega); have hz1 : W1.heap.size ≤ W1.heap.size := Nat.le_refl _; have Xf := ((((((((((((((X.far (D := W1.heap.size) (o := 0) (by omega) (.int .i64 t0)).far (D := W1.heap.size) (o := 1) (by omega) (.int .i64 t1)).far (D := W1.heap.size) (o := 2) (by omega) (.int .i64 t2)).far (D := W1.heap.size) (o := 3) (by omega) (.int .i64 t3)).far (D := W1.heap.size) (o := 4) (by omega) (.int .i64 t4)).far (D := W1.heap.size) (o := 5) (by omega) (.int .i64 t5)).far (D := W1.heap.size) (o := 6) (by omega) (.int .i64 t6)).far (D := W1.heap.size) (o := 7) (by omega) (.int .i64 t7)).far (D := W1.heap.size) (o := 8) (by omega) (.int .i64 t8)).far (D := W1.heap.size) (o := 9) (by omega) (.int .i64 t9)).far (D := W1.heap.size) (o := 10) (by omega) (.int .i64 t10)).far (D := W1.heap.size) (o := 11) (by omega) (.int .i64 t11)).far (D := W1.heap.size) (o := 12) (by omega) (.int .i64 t12)).far (D := W1.heap.size) (o := 13) (by omega) (.int .i64 t13)); have FR := ((((((((((((((hr.far (D := W1.heap.size) (o := 0) hz (.int .i64 t0)).far (D := W1.heap.size) (o := 1) hz (.int .i64 t1)).far (D := W1.heap.size) (o := 2) hz (.int .i64 t2)).far (D := W1.heap.size) (o := 3) hz (.int .i64 t3)).far (D := W1.heap.size) (o := 4) hz (.int .i64 t4)).far (D := W1.heap.size) (o := 5) hz (.int .i64 t5)).far (D := W1.heap.size) (o := 6) hz (.int .i64 t6)).far (D := W1.heap.size) (o := 7) hz (.int .i64 t7)).far (D := W1.heap.size) (o := 8) hz (.int .i64 t8)).far (D := W1.heap.size) (o := 9) hz (.int .i64 t9)).far (D := W1.heap.size) (o := 10) hz (.int .i64 t10)).far (D := W1.heap.size) (o := 11) hz (.int .i64 t11)).far (D := W1.heap.size) (o := 12) hz (.int .i64 t12)).far (D := W1.heap.size) (o := 13) hz (.int .i64 t13)); have FS := Y2.put t0 t1 t2 t3 t4 t5 t6 t7 t8 t9 t10 t11 t12 t13; replace FB := ((((((((((((((FB.setCell (p := ⟨W1.heap.size, 0, none⟩) hz1 (.int .i64 t0)).setCell (p := ⟨W1.heap.size, 1, none⟩) hz1 (.int .i64 t1)).setCell (p := ⟨W1.heap.size, 2, none⟩) hz1 (.int .i64 t2)).setCell (p := ⟨W1.heap.size, 3, none⟩) hz1 (.int .i64 t3)).setCell (p := ⟨W1.heap.size, 4, none⟩) hz1 (.int .i64 t4)).setCell (p := ⟨W1.heap.size, 5, none⟩) hz1 (.int .i64 t5)).setCell (p := ⟨W1.heap.size, 6, none⟩) hz1 (.int .i64 t6)).setCell (p := ⟨W1.heap.size, 7, none⟩) hz1 (.int .i64 t7)).setCell (p := ⟨W1.heap.size, 8, none⟩) hz1 (.int .i64 t8)).setCell (p := ⟨W1.heap.size, 9, none⟩) hz1 (.int .i64 t9)).setCell (p := ⟨W1.heap.size, 10, none⟩) hz1 (.int .i64 t10)).setCell (p := ⟨W1.heap.size, 11, none⟩) hz1 (.int .i64 t11)).setCell (p := ⟨W1.heap.size, 12, none⟩) hz1 (.int .i64 t12)).setCell (p := ⟨W1.heap.size, 13, none⟩) hz1 (.int .i64 t13)); have FQ : ∀ q, aa = some q → W1.heap.size ≤ q.block := (fun q h => by have := hq q h; omega); clear hz hr hq; obtain ⟨x0, x1, x2, x3, x4, _, _, _, _, _⟩ := id X; obtain ⟨y0, y1, y2, y3, y4, y5, y6, y7, y8, y9, y10, y11, y12, y13, f0, f1, f2, f3, f4, f5, f6, f7, f8, f9, f10, f11, f12, f13⟩ := Y2)
      | (go_at_call 17; with_reducible refine P1.mono ?_; clear P1; rintro xx u2 ⟨aa, cp', rfl, hr, hq, bb⟩; have zs : W1.heap.size + 1 < u1.heap.size := block_lt Y3.c0; replace Y3 := Y3.kept bb; replace FB := bthen FB bb; replace X := X.kept bb; clear bb x0 x1 x2 x3 x4; have hz : ∀ q, aa = some q → q.block ≠ W1.heap.size + 1 := (fun q h => by have := hq q h; omega); have hz1 : W1.heap.size ≤ W1.heap.size + 1 := Nat.le_succ _; have Xf := ((((((((((((((X.far (D := W1.heap.size + 1) (o := 0) (by omega) (.int .i64 t0)).far (D := W1.heap.size + 1) (o := 1) (by omega) (.int .i64 t1)).far (D := W1.heap.size + 1) (o := 2) (by omega) (.int .i64 t2)).far (D := W1.heap.size + 1) (o := 3) (by omega) (.int .i64 t3)).far (D := W1.heap.size + 1) (o := 4) (by omega) (.int .i64 t4)).far (D := W1.heap.size + 1) (o := 5) (by omega) (.int .i64 t5)).far (D := W1.heap.size + 1) (o := 6) (by omega) (.int .i64 t6)).far (D := W1.heap.size + 1) (o := 7) (by omega) (.int .i64 t7)).far (D := W1.heap.size + 1) (o := 8) (by omega) (.int .i64 t8)).far (D := W1.heap.size + 1) (o := 9) (by omega) (.int .i64 t9)).far (D := W1.heap.size + 1) (o := 10) (by omega) (.int .i64 t10)).far (D := W1.heap.size + 1) (o := 11) (by omega) (.int .i64 t11)).far (D := W1.heap.size + 1) (o := 12) (by omega) (.int .i64 t12)).far (D := W1.heap.size + 1) (o := 13) (by omega) (.int .i64 t13)); have FR := ((((((((((((((hr.far (D := W1.heap.size + 1) (o := 0) hz (.int .i64 t0)).far (D := W1.heap.size + 1) (o := 1) hz (.int .i64 t1)).far (D := W1.heap.size + 1) (o := 2) hz (.int .i64 t2)).far (D := W1.heap.size + 1) (o := 3) hz (.int .i64 t3)).far (D := W1.heap.size + 1) (o := 4) hz (.int .i64 t4)).far (D := W1.heap.size + 1) (o := 5) hz (.int .i64 t5)).far (D := W1.heap.size + 1) (o := 6) hz (.int .i64 t6)).far (D := W1.heap.size + 1) (o := 7) hz (.int .i64 t7)).far (D := W1.heap.size + 1) (o := 8) hz (.int .i64 t8)).far (D := W1.heap.size + 1) (o := 9) hz (.int .i64 t9)).far (D := W1.heap.size + 1) (o := 10) hz (.int .i64 t10)).far (D := W1.heap.size + 1) (o := 11) hz (.int .i64 t11)).far (D := W1.heap.size + 1) (o := 12) hz (.int .i64 t12)).far (D := W1.heap.size + 1) (o := 13) hz (.int .i64 t13)); have FS := Y3.put t0 t1 t2 t3 t4 t5 t6 t7 t8 t9 t10 t11 t12 t13; replace FB := ((((((((((((((FB.setCell (p := ⟨W1.heap.size + 1, 0, none⟩) hz1 (.int .i64 t0)).setCell (p := ⟨W1.heap.size + 1, 1, none⟩) hz1 (.int .i64 t1)).setCell (p := ⟨W1.heap.size + 1, 2, none⟩) hz1 (.int .i64 t2)).setCell (p := ⟨W1.heap.size + 1, 3, none⟩) hz1 (.int .i64 t3)).setCell (p := ⟨W1.heap.size + 1, 4, none⟩) hz1 (.int .i64 t4)).setCell (p := ⟨W1.heap.size + 1, 5, none⟩) hz1 (.int .i64 t5)).setCell (p := ⟨W1.heap.size + 1, 6, none⟩) hz1 (.int .i64 t6)).setCell (p := ⟨W1.heap.size + 1, 7, none⟩) hz1 (.int .i64 t7)).setCell (p := ⟨W1.heap.size + 1, 8, none⟩) hz1 (.int .i64 t8)).setCell (p := ⟨W1.heap.size + 1, 9, none⟩) hz1 (.int .i64 t9)).setCell (p := ⟨W1.heap.size + 1, 10, none⟩) hz1 (.int .i64 t10)).setCell (p := ⟨W1.heap.size + 1, 11, none⟩) hz1 (.int .i64 t11)).setCell (p := ⟨W1.heap.size + 1, 12, none⟩) hz1 (.int .i64 t12)).setCell (p := ⟨W1.heap.size + 1, 13, none⟩) hz1 (.int .i64 t13)); have FQ : ∀ q, aa = some q → W1.heap.size ≤ q.block := (fun q h => by have := hq q h; omega); clear hz hr hq; obtain ⟨x0, x1, x2, x3, x4, _, _, _, _, _⟩ := id X; obtain ⟨y0, y1, y2, y3, y4, y5, y6, y7, y8, y9, y10, y11, y12, y13, f0, f1, f2, f3, f4, f5, f6, f7, f8, f9, f10, f11, f12, f13⟩ := Y3)
      | (go_at_call 17; with_reducible refine P2.mono ?_; clear P1 P2; rintro xx u2 ⟨aa, cp', rfl, hr, hq, bb⟩; have zs : W1.heap.size ≤ u1.heap.size := FB.size; replace Y1 := Y1.kept bb; replace FB := bthen (balloc FB (.cells #[.int .i64 0, .int .i64 0, .int .i64 0, .int .i64 0, .int .i64 0, .int .i64 0, .int .i64 0, .int .i64 0, .int .i64 0, .int .i64 0, .int .i64 0, .int .i64 0, .int .i64 0, .int .i64 0] 29)) bb; replace X := Xa.kept bb; clear bb Xa x0 x1 x2 x3 x4; have wu : w.heap.size < u1.heap.size := (by omega); have hz : ∀ q, aa = some q → q.block ≠ u1.heap.size := (fun q h => by have := hq q h; simp at this; omega); have hz1 : W1.heap.size ≤ u1.heap.size := zs; have Xf := ((((((((((((((X.far (D := u1.heap.size) (o := 0) (by omega) (.int .i64 t0)).far (D := u1.heap.size) (o := 1) (by omega) (.int .i64 t1)).far (D := u1.heap.size) (o := 2) (by omega) (.int .i64 t2)).far (D := u1.heap.size) (o := 3) (by omega) (.int .i64 t3)).far (D := u1.heap.size) (o := 4) (by omega) (.int .i64 t4)).far (D := u1.heap.size) (o := 5) (by omega) (.int .i64 t5)).far (D := u1.heap.size) (o := 6) (by omega) (.int .i64 t6)).far (D := u1.heap.size) (o := 7) (by omega) (.int .i64 t7)).far (D := u1.heap.size) (o := 8) (by omega) (.int .i64 t8)).far (D := u1.heap.size) (o := 9) (by omega) (.int .i64 t9)).far (D := u1.heap.size) (o := 10) (by omega) (.int .i64 t10)).far (D := u1.heap.size) (o := 11) (by omega) (.int .i64 t11)).far (D := u1.heap.size) (o := 12) (by omega) (.int .i64 t12)).far (D := u1.heap.size) (o := 13) (by omega) (.int .i64 t13)); have FR := ((((((((((((((hr.far (D := u1.heap.size) (o := 0) hz (.int .i64 t0)).far (D := u1.heap.size) (o := 1) hz (.int .i64 t1)).far (D := u1.heap.size) (o := 2) hz (.int .i64 t2)).far (D := u1.heap.size) (o := 3) hz (.int .i64 t3)).far (D := u1.heap.size) (o := 4) hz (.int .i64 t4)).far (D := u1.heap.size) (o := 5) hz (.int .i64 t5)).far (D := u1.heap.size) (o := 6) hz (.int .i64 t6)).far (D := u1.heap.size) (o := 7) hz (.int .i64 t7)).far (D := u1.heap.size) (o := 8) hz (.int .i64 t8)).far (D := u1.heap.size) (o := 9) hz (.int .i64 t9)).far (D := u1.heap.size) (o := 10) hz (.int .i64 t10)).far (D := u1.heap.size) (o := 11) hz (.int .i64 t11)).far (D := u1.heap.size) (o := 12) hz (.int .i64 t12)).far (D := u1.heap.size) (o := 13) hz (.int .i64 t13)); have FS := Y1.put t0 t1 t2 t3 t4 t5 t6 t7 t8 t9 t10 t11 t12 t13; replace FB := ((((((((((((((FB.setCell (p := ⟨u1.heap.size, 0, none⟩) hz1 (.int .i64 t0)).setCell (p := ⟨u1.heap.size, 1, none⟩) hz1 (.int .i64 t1)).setCell (p := ⟨u1.heap.size, 2, none⟩) hz1 (.int .i64 t2)).setCell (p := ⟨u1.heap.size, 3, none⟩) hz1 (.int .i64 t3)).setCell (p := ⟨u1.heap.size, 4, none⟩) hz1 (.int .i64 t4)).setCell (p := ⟨u1.heap.size, 5, none⟩) hz1 (.int .i64 t5)).setCell (p := ⟨u1.heap.size, 6, none⟩) hz1 (.int .i64 t6)).setCell (p := ⟨u1.heap.size, 7, none⟩) hz1 (.int .i64 t7)).setCell (p := ⟨u1.heap.size, 8, none⟩) hz1 (.int .i64 t8)).setCell (p := ⟨u1.heap.size, 9, none⟩) hz1 (.int .i64 t9)).setCell (p := ⟨u1.heap.size, 10, none⟩) hz1 (.int .i64 t10)).setCell (p := ⟨u1.heap.size, 11, none⟩) hz1 (.int .i64 t11)).setCell (p := ⟨u1.heap.size, 12, none⟩) hz1 (.int .i64 t12)).setCell (p := ⟨u1.heap.size, 13, none⟩) hz1 (.int .i64 t13)); have FQ : ∀ q, aa = some q → W1.heap.size ≤ q.block := (fun q h => by have := hq q h; simp at this; omega); clear hz hr hq; obtain ⟨x0, x1, x2, x3, x4, _, _, _, _, _⟩ := id X; obtain ⟨y0, y1, y2, y3, y4, y5, y6, y7, y8, y9, y10, y11, y12, y13, f0, f1, f2, f3, f4, f5, f6, f7, f8, f9, f10, f11, f12, f13⟩ := Y1)
      | (go_at_call 17; with_reducible refine P1.mono ?_; clear P1 P2 Y1; rintro xx u2 ⟨aa, cp', rfl, hr, hq, bb⟩; have zs : W1.heap.size ≤ u1.heap.size := FB.size; have zs2 : u1.heap.size ≤ u2.heap.size := bb.size; replace FB := balloc (bthen FB bb) (.cells #[.int .i64 t0, .int .i64 t1, .int .i64 t2, .int .i64 t3, .int .i64 t4, .int .i64 t5, .int .i64 t6, .int .i64 t7, .int .i64 t8, .int .i64 t9, .int .i64 t10, .int .i64 t11, .int .i64 t12, .int .i64 t13] 29); replace X := X.kept bb; clear bb Xa x0 x1 x2 x3 x4; have hz1 : W1.heap.size ≤ u2.heap.size := (by omega); have Xa := X.alloc (.cells #[.int .i64 0, .int .i64 0, .int .i64 0, .int .i64 0, .int .i64 0, .int .i64 0, .int .i64 0, .int .i64 0, .int .i64 0, .int .i64 0, .int .i64 0, .int .i64 0, .int .i64 0, .int .i64 0] 29); have Xb := X.alloc (.cells #[.int .i64 t0, .int .i64 t1, .int .i64 t2, .int .i64 t3, .int .i64 t4, .int .i64 t5, .int .i64 t6, .int .i64 t7, .int .i64 t8, .int .i64 t9, .int .i64 t10, .int .i64 t11, .int .i64 t12, .int .i64 t13] 29); have FR := hr.alloc (.cells #[.int .i64 t0, .int .i64 t1, .int .i64 t2, .int .i64 t3, .int .i64 t4, .int .i64 t5, .int .i64 t6, .int .i64 t7, .int .i64 t8, .int .i64 t9, .int .i64 t10, .int .i64 t11, .int .i64 t12, .int .i64 t13] 29); have FS := Sta.new u2 _ rfl t0 t1 t2 t3 t4 t5 t6 t7 t8 t9 t10 t11 t12 t13; have FQ : ∀ q, aa = some q → W1.heap.size ≤ q.block := (fun q h => by have := hq q h; omega); clear hr hq; obtain ⟨x0, x1, x2, x3, x4, _, _, _, _, _⟩ := id X))
    all_goals
      go_wp2
      go_meet
      exact ⟨aa, cp', _, rfl, rfl, rfl, FR, FQ, FS, hz1, FB⟩
  case rest =>
    clear x0 x1 x2 x3 x4
    obtain ⟨aa, cp, C2, rfl, rfl, rfl, RR, hq, Z, hC2, B4⟩ := hcut
    have cw : C < W1.heap.size := block_lt Y.c0
    replace X := X.kept B4
    replace Y := Y.kept B4
    have O4 : Owned wc v0.heap.size t NA (flatR RA) := ⟨own_kept6 O2.out B4⟩
    replace B := bthen B B4
    clear hva1 hvb1 O2 hW1 pc
    rcases hE with ⟨hE, rfl⟩ | ⟨rfl, rfl, hp, hF⟩
    · have he2 : (F == F) = true := by simp
      clear X Y Z RR O4 hq ot
      go_wp2
      go_ret
      exact ⟨rfl, B⟩
    · obtain ⟨al, ha1, ha2, ha3⟩ : ∃ al, RRow wc al RB ∧ (∀ z, al = some z → W1.heap.size ≤ z.block ∧ z.block < wc.heap.size) ∧ Hid (∀ v, RRow v al RB → RRow v aa RB) := by
        by_cases e : RB = []
        · exact ⟨none, .inl e, fun z hz => (by cases hz), fun v _ => .inl e⟩
        · exact ⟨aa, RR, fun z hz => ⟨hq z hz, RR.lt (List.length_pos_iff.2 e) hz⟩, fun v q => q⟩
      obtain ⟨S0, hS0⟩ : ∃ S0 : Sx, S0 = ⟨⟨k0, n0, b0, a0, c0, q0⟩, ⟨k1, n1, b1, a1, c1, q1⟩, w0, w1⟩ := ⟨_, rfl⟩
      rw [← hS0] at hp hF
      have P : DpAt w v0.heap.size C C2 p0 p1 r m j (steps ⟨p0, p1, r, m, j⟩ S0 (ys.take 0)).f0.k (steps ⟨p0, p1, r, m, j⟩ S0 (ys.take 0)).f0.n (steps ⟨p0, p1, r, m, j⟩ S0 (ys.take 0)).f0.b (steps ⟨p0, p1, r, m, j⟩ S0 (ys.take 0)).f0.a (steps ⟨p0, p1, r, m, j⟩ S0 (ys.take 0)).f0.s (steps ⟨p0, p1, r, m, j⟩ S0 (ys.take 0)).f0.q (steps ⟨p0, p1, r, m, j⟩ S0 (ys.take 0)).f1.k (steps ⟨p0, p1, r, m, j⟩ S0 (ys.take 0)).f1.n (steps ⟨p0, p1, r, m, j⟩ S0 (ys.take 0)).f1.b (steps ⟨p0, p1, r, m, j⟩ S0 (ys.take 0)).f1.a (steps ⟨p0, p1, r, m, j⟩ S0 (ys.take 0)).f1.s (steps ⟨p0, p1, r, m, j⟩ S0 (ys.take 0)).f1.q (steps ⟨p0, p1, r, m, j⟩ S0 (ys.take 0)).w0 (steps ⟨p0, p1, r, m, j⟩ S0 (ys.take 0)).w1 t0 t1 t2 t3 t4 t5 t6 t7 t8 t9 t10 t11 t12 t13 t (RA ++ rounds ⟨p0, p1, r, m, j⟩ S0 (ys.take 0)) al RB wc := by
        subst hS0
        have e0 : RA ++ rounds ⟨p0, p1, r, m, j⟩ ⟨⟨k0, n0, b0, a0, c0, q0⟩, ⟨k1, n1, b1, a1, c1, q1⟩, w0, w1⟩ (ys.take 0) = RA := by simp [rounds]
        rw [e0]
        refine ⟨X, Y, Z, ⟨by rw [hRA]; exact O4.out⟩, fun q hq' => ?_, ha1, ⟨wl, by omega, by omega, by omega, fun z hz => ?_⟩, B⟩
        · have := ot.out q hq'
          exact ⟨by omega, by omega, fun z hz => by have := (ha2 z hz).1; omega⟩
        · have := ha2 z hz
          exact ⟨by omega, this.2⟩
      have wv0 : v0.heap.size ≤ wc.heap.size := by have := B4.size; omega
      clear X Y Z RR O4 hq ha1 ha2 ot
      have hy0 : Hid (ys.length = nB) := hy
      have hM0 : Hid (RA.length + nB = M) := by rw [hRA]; exact hM
      have st1 : Hid (∀ k x y, k < nB → ys.getD k (0, 0) = (x, y) → allLate ⟨p0, p1, r, m, j⟩ (ys.take k) → lates ⟨p0, p1, r, m, j⟩ x y → allLate ⟨p0, p1, r, m, j⟩ (ys.take (k + 1))) := fun k x y hk e h1 h2 => by
        rw [take_snoc (0, 0) ys k (by omega), e]
        intro p hp
        rcases List.mem_append.1 hp with hp | hp
        · exact h1 p hp
        · obtain rfl : p = (x, y) := by simpa using hp
          exact h2
      have st2 : Hid (∀ k x y, k < nB → ys.getD k (0, 0) = (x, y) → ¬ lates ⟨p0, p1, r, m, j⟩ x y → ¬ allLate ⟨p0, p1, r, m, j⟩ ys) := fun k x y hk e h2 h3 => by
        refine h2 (h3 (x, y) ?_)
        rw [← e, List.getD_eq_getElem?_getD, List.getElem?_eq_getElem (by omega)]
        exact List.getElem_mem _
      have st3 : Hid (∀ k x y, k < nB → ys.getD k (0, 0) = (x, y) → steps ⟨p0, p1, r, m, j⟩ S0 (ys.take (k + 1)) = K.step ⟨p0, p1, r, m, j⟩ (steps ⟨p0, p1, r, m, j⟩ S0 (ys.take k)) x y ∧ rounds ⟨p0, p1, r, m, j⟩ S0 (ys.take (k + 1)) = rounds ⟨p0, p1, r, m, j⟩ S0 (ys.take k) ++ [K.round ⟨p0, p1, r, m, j⟩ (steps ⟨p0, p1, r, m, j⟩ S0 (ys.take k))]) := fun k x y hk e => by
        rw [take_snoc (0, 0) ys k (by omega), e]
        exact ⟨steps_snoc _ _ _ _, rounds_snoc _ _ _ _⟩
      replace hp : Hid _ := hp
      replace hF : Hid _ := hF
      replace hy : Hid _ := hy
      clear hS0 hx hM
      go_wp2
      go_loopw [7, 44] (fun t i wr => ∃ k : Nat, k ≤ nB ∧ i = .int .i64 k ∧ allLate ⟨p0, p1, r, m, j⟩ (ys.take k) ∧ v0.heap.size ≤ wr.heap.size ∧ DpAt w v0.heap.size C C2 p0 p1 r m j (steps ⟨p0, p1, r, m, j⟩ S0 (ys.take k)).f0.k (steps ⟨p0, p1, r, m, j⟩ S0 (ys.take k)).f0.n (steps ⟨p0, p1, r, m, j⟩ S0 (ys.take k)).f0.b (steps ⟨p0, p1, r, m, j⟩ S0 (ys.take k)).f0.a (steps ⟨p0, p1, r, m, j⟩ S0 (ys.take k)).f0.s (steps ⟨p0, p1, r, m, j⟩ S0 (ys.take k)).f0.q (steps ⟨p0, p1, r, m, j⟩ S0 (ys.take k)).f1.k (steps ⟨p0, p1, r, m, j⟩ S0 (ys.take k)).f1.n (steps ⟨p0, p1, r, m, j⟩ S0 (ys.take k)).f1.b (steps ⟨p0, p1, r, m, j⟩ S0 (ys.take k)).f1.a (steps ⟨p0, p1, r, m, j⟩ S0 (ys.take k)).f1.s (steps ⟨p0, p1, r, m, j⟩ S0 (ys.take k)).f1.q (steps ⟨p0, p1, r, m, j⟩ S0 (ys.take k)).w0 (steps ⟨p0, p1, r, m, j⟩ S0 (ys.take k)).w1 t0 t1 t2 t3 t4 t5 t6 t7 t8 t9 t10 t11 t12 t13 t (RA ++ rounds ⟨p0, p1, r, m, j⟩ S0 (ys.take k)) al RB wr) (fun _ i _ => nB - (intOf i).toNat)
      case atStart => exact ⟨0, Nat.zero_le _, rfl, by simp [allLate], wv0, P⟩
      case round =>
        clear P wv0
        obtain ⟨k, hk, rfl, hL, wv0, P⟩ := hrel
        have hpk := steps_right hp.out hL
        have hRl : (RA ++ rounds ⟨p0, p1, r, m, j⟩ S0 (ys.take k)).length = RA.length + k := by have := hy0.out; rw [List.length_append, rounds_len, List.length_take]; omega
        by_cases hlt : k < nB
        · obtain ⟨bb, oo, rfl, hc⟩ := (hvb.kept P.below).at (by have := hy0.out; omega)
          obtain ⟨cx, cy⟩ := hc k (by have := hy0.out; omega)
          obtain ⟨⟨x, y⟩, hxy⟩ : ∃ p, ys.getD k (0, 0) = p := ⟨_, rfl⟩
          rw [hxy] at cx cy
          simp only at cx cy
          have hltI : (k : Int) < nB := by omega
          by_cases hla : lates ⟨p0, p1, r, m, j⟩ x y
          · obtain ⟨e1, e2⟩ := st3.out k x y hlt hxy
            have hL2 : Hid _ := st1.out k x y hlt hxy hL hla
            have sy := fun v => step_yes ⟨p0, p1, r, m, j⟩ (steps ⟨p0, p1, r, m, j⟩ S0 (ys.take k)) x y hpk hla v
            have fin : Hid (∀ t wr, DpAt w v0.heap.size C C2 p0 p1 r m j (K.step ⟨p0, p1, r, m, j⟩ (steps ⟨p0, p1, r, m, j⟩ S0 (ys.take k)) x y).f0.k (K.step ⟨p0, p1, r, m, j⟩ (steps ⟨p0, p1, r, m, j⟩ S0 (ys.take k)) x y).f0.n (K.step ⟨p0, p1, r, m, j⟩ (steps ⟨p0, p1, r, m, j⟩ S0 (ys.take k)) x y).f0.b (K.step ⟨p0, p1, r, m, j⟩ (steps ⟨p0, p1, r, m, j⟩ S0 (ys.take k)) x y).f0.a (K.step ⟨p0, p1, r, m, j⟩ (steps ⟨p0, p1, r, m, j⟩ S0 (ys.take k)) x y).f0.s (K.step ⟨p0, p1, r, m, j⟩ (steps ⟨p0, p1, r, m, j⟩ S0 (ys.take k)) x y).f0.q (K.step ⟨p0, p1, r, m, j⟩ (steps ⟨p0, p1, r, m, j⟩ S0 (ys.take k)) x y).f1.k (K.step ⟨p0, p1, r, m, j⟩ (steps ⟨p0, p1, r, m, j⟩ S0 (ys.take k)) x y).f1.n (K.step ⟨p0, p1, r, m, j⟩ (steps ⟨p0, p1, r, m, j⟩ S0 (ys.take k)) x y).f1.b (K.step ⟨p0, p1, r, m, j⟩ (steps ⟨p0, p1, r, m, j⟩ S0 (ys.take k)) x y).f1.a (K.step ⟨p0, p1, r, m, j⟩ (steps ⟨p0, p1, r, m, j⟩ S0 (ys.take k)) x y).f1.s (K.step ⟨p0, p1, r, m, j⟩ (steps ⟨p0, p1, r, m, j⟩ S0 (ys.take k)) x y).f1.q (K.step ⟨p0, p1, r, m, j⟩ (steps ⟨p0, p1, r, m, j⟩ S0 (ys.take k)) x y).w0 (K.step ⟨p0, p1, r, m, j⟩ (steps ⟨p0, p1, r, m, j⟩ S0 (ys.take k)) x y).w1 t0 t1 t2 t3 t4 t5 t6 t7 t8 t9 t10 t11 t12 t13 t (RA ++ rounds ⟨p0, p1, r, m, j⟩ S0 (ys.take k) ++ [K.round ⟨p0, p1, r, m, j⟩ (steps ⟨p0, p1, r, m, j⟩ S0 (ys.take k))]) al RB wr → DpAt w v0.heap.size C C2 p0 p1 r m j (steps ⟨p0, p1, r, m, j⟩ S0 (ys.take (k + 1))).f0.k (steps ⟨p0, p1, r, m, j⟩ S0 (ys.take (k + 1))).f0.n (steps ⟨p0, p1, r, m, j⟩ S0 (ys.take (k + 1))).f0.b (steps ⟨p0, p1, r, m, j⟩ S0 (ys.take (k + 1))).f0.a (steps ⟨p0, p1, r, m, j⟩ S0 (ys.take (k + 1))).f0.s (steps ⟨p0, p1, r, m, j⟩ S0 (ys.take (k + 1))).f0.q (steps ⟨p0, p1, r, m, j⟩ S0 (ys.take (k + 1))).f1.k (steps ⟨p0, p1, r, m, j⟩ S0 (ys.take (k + 1))).f1.n (steps ⟨p0, p1, r, m, j⟩ S0 (ys.take (k + 1))).f1.b (steps ⟨p0, p1, r, m, j⟩ S0 (ys.take (k + 1))).f1.a (steps ⟨p0, p1, r, m, j⟩ S0 (ys.take (k + 1))).f1.s (steps ⟨p0, p1, r, m, j⟩ S0 (ys.take (k + 1))).f1.q (steps ⟨p0, p1, r, m, j⟩ S0 (ys.take (k + 1))).w0 (steps ⟨p0, p1, r, m, j⟩ S0 (ys.take (k + 1))).w1 t0 t1 t2 t3 t4 t5 t6 t7 t8 t9 t10 t11 t12 t13 t (RA ++ rounds ⟨p0, p1, r, m, j⟩ S0 (ys.take (k + 1))) al RB wr) := fun t wr q => by rw [e1, e2, ← List.append_assoc]; exact q
            clear e1 e2 st1 st2 st3 hc hvb hL hxy
            generalize K.round ⟨p0, p1, r, m, j⟩ (steps ⟨p0, p1, r, m, j⟩ S0 (ys.take k)) = D at sy fin
            generalize K.step ⟨p0, p1, r, m, j⟩ (steps ⟨p0, p1, r, m, j⟩ S0 (ys.take k)) x y = T at sy fin
            generalize steps ⟨p0, p1, r, m, j⟩ S0 (ys.take k) = S at P sy hpk
            generalize RA ++ rounds ⟨p0, p1, r, m, j⟩ S0 (ys.take k) = R at P fin hRl
            have hRb : R.length + 1 ≤ 4194304 := by have := hM0.out; omega
            clear hpk hla hF hp
            obtain ⟨⟨k0, n0, b0, a0, c0, q0⟩, ⟨k1, n1, b1, a1, c1, q1⟩, w0, w1⟩ := S
            obtain ⟨⟨k2, n2, b2, a2, c2, q2⟩, ⟨k3, n3, b3, a3, c3, q3⟩, z0, z1⟩ := T
            obtain ⟨s0, s1, g0, g1, l0, l1⟩ := D
            simp only at P sy
            have otk : Hid (∀ q, u7.ownBlock = some q → q < wr.heap.size) := fun q hq => (P.own.out.lt q hq).2
            replace P := P.alloc (.cells #[.int .i64 x, .int .i64 y] 22)
            obtain ⟨⟨r0, r1, r2, r3, r4, _, _, _, _, _⟩, ⟨y0, y1, y2, y3, y4, y5, y6, y7, y8, y9, y10, y11, y12, y13, h0, h1, h2, h3, h4, h5, h6, h7, h8, h9, h10, h11, h12, h13⟩, _, _, _, _, _, _⟩ := id P
            go_wp2_with (go_at_call 11; refine (sy _).mono ?_; clear sy r0 r1 r2 r3 r4 y0 y1 y2 y3 y4 y5 y6 y7 y8 y9 y10 y11 y12 y13 h0 h1 h2 h3 h4 h5 h6 h7 h8 h9 h10 h11 h12 h13; rintro xx v1 ⟨rfl, b5⟩; have z4 : wr.heap.size ≤ v1.heap.size := Nat.le_trans (by simp) b5.size; have z5 : v0.heap.size ≤ v1.heap.size := Nat.le_trans wv0 z4; replace P := ((P.kept b5).alloc (.cells #[.int .i64 k2, .int .i64 n2, .int .i64 b2, .int .i64 a2, .int .i64 c2, .int .i64 q2, .int .i64 k3, .int .i64 n3, .int .i64 b3, .int .i64 a3, .int .i64 c3, .int .i64 q3, .int .i64 z0, .int .i64 z1] 29)).alloc (.cells #[.int .i64 s0, .int .i64 s1, .int .i64 g0, .int .i64 g1, .int .i64 l0, .int .i64 l1] 34); clear b5; have E := (Sta.new v1 _ rfl k2 n2 b2 a2 c2 q2 k3 n3 b3 a3 c3 q3 z0 z1).alloc (.cells #[.int .i64 s0, .int .i64 s1, .int .i64 g0, .int .i64 g1, .int .i64 l0, .int .i64 l1] 34); have G := Rnd.new (v1.alloc (.cells #[.int .i64 k2, .int .i64 n2, .int .i64 b2, .int .i64 a2, .int .i64 c2, .int .i64 q2, .int .i64 k3, .int .i64 n3, .int .i64 b3, .int .i64 a3, .int .i64 c3, .int .i64 q3, .int .i64 z0, .int .i64 z1] 29)) (v1.heap.size + 1) (by simp) s0 s1 g0 g1 l0 l1; obtain ⟨W5, hW5⟩ : ∃ W5, (v1.alloc (.cells #[.int .i64 k2, .int .i64 n2, .int .i64 b2, .int .i64 a2, .int .i64 c2, .int .i64 q2, .int .i64 k3, .int .i64 n3, .int .i64 b3, .int .i64 a3, .int .i64 c3, .int .i64 q3, .int .i64 z0, .int .i64 z1] 29)).alloc (.cells #[.int .i64 s0, .int .i64 s1, .int .i64 g0, .int .i64 g1, .int .i64 l0, .int .i64 l1] 34) = W5 := ⟨_, rfl⟩; rw [hW5] at P E G; have z6 : v0.heap.size ≤ W5.heap.size := (by rw [← hW5]; simp; omega); have z10 : v1.heap.size < W5.heap.size := block_lt E.c0; obtain ⟨t', w2, hrun, P2, blk⟩ := P.push hRb z6 ⟨s0, s1, g0, g1, l0, l1⟩; have blk1 := blk v1.heap.size z10 (fun q hq => by have := otk.out q hq; omega); have E2 := E.same (w' := w2) (fun o => World.cell?_of_block blk1) (fun o => World.frozen?_of_block blk1); clear blk blk1; obtain ⟨s0', s1', s2', s3', s4', s5', s6', s7', s8', s9', s10', s11', s12', s13', _, _, _, _, _, _, _, _, _, _, _, _, _, _⟩ := E2; obtain ⟨t0', t1', t2', t3', t4', t5', t6', t7', t8', t9', t10', t11', t12', t13', _, _, _, _, _, _, _, _, _, _, _, _, _, _⟩ := E; obtain ⟨G0, G1, G2, G3, G4, G5, _, _, _, _, _, _⟩ := G; clear P; simp only at hrun; have P3 := P2.put k2 n2 b2 a2 c2 q2 k3 n3 b3 a3 c3 q3 z0 z1; obtain ⟨_, ⟨y0, y1, y2, y3, y4, y5, y6, y7, y8, y9, y10, y11, y12, y13, f0, f1, f2, f3, f4, f5, f6, f7, f8, f9, f10, f11, f12, f13⟩, _, _, _, _, _, _⟩ := P2)
            go_region
            go_wp2
            have z12 : C < ((((((((((((((w2.setCell ⟨C, 0, none⟩ (.int .i64 k2)).setCell ⟨C, 1, none⟩ (.int .i64 n2)).setCell ⟨C, 2, none⟩ (.int .i64 b2)).setCell ⟨C, 3, none⟩ (.int .i64 a2)).setCell ⟨C, 4, none⟩ (.int .i64 c2)).setCell ⟨C, 5, none⟩ (.int .i64 q2)).setCell ⟨C, 6, none⟩ (.int .i64 k3)).setCell ⟨C, 7, none⟩ (.int .i64 n3)).setCell ⟨C, 8, none⟩ (.int .i64 b3)).setCell ⟨C, 9, none⟩ (.int .i64 a3)).setCell ⟨C, 10, none⟩ (.int .i64 c3)).setCell ⟨C, 11, none⟩ (.int .i64 q3)).setCell ⟨C, 12, none⟩ (.int .i64 z0)).setCell ⟨C, 13, none⟩ (.int .i64 z1)).heap.size := block_lt P3.hS.c0
            have z11 : v0.heap.size ≤ ((((((((((((((w2.setCell ⟨C, 0, none⟩ (.int .i64 k2)).setCell ⟨C, 1, none⟩ (.int .i64 n2)).setCell ⟨C, 2, none⟩ (.int .i64 b2)).setCell ⟨C, 3, none⟩ (.int .i64 a2)).setCell ⟨C, 4, none⟩ (.int .i64 c2)).setCell ⟨C, 5, none⟩ (.int .i64 q2)).setCell ⟨C, 6, none⟩ (.int .i64 k3)).setCell ⟨C, 7, none⟩ (.int .i64 n3)).setCell ⟨C, 8, none⟩ (.int .i64 b3)).setCell ⟨C, 9, none⟩ (.int .i64 a3)).setCell ⟨C, 10, none⟩ (.int .i64 c3)).setCell ⟨C, 11, none⟩ (.int .i64 q3)).setCell ⟨C, 12, none⟩ (.int .i64 z0)).setCell ⟨C, 13, none⟩ (.int .i64 z1)).heap.size := by omega
            go_roundw
            case rel => exact ⟨k + 1, by omega, by go_num, hL2.out, z11, fin.out _ _ P3⟩
            case measure => simp [intOf]; omega
          · have hno := st2.out k x y hlt hxy hla
            obtain rfl : F = 2 := by
              rcases hF.out with ⟨_, h, _⟩ | ⟨h, _⟩
              · exact absurd h hno
              · exact h
            have sy := fun v => step_no ⟨p0, p1, r, m, j⟩ (steps ⟨p0, p1, r, m, j⟩ S0 (ys.take k)) x y 2 (by unfold wstep; rw [if_pos (wrong_ok.2 hpk.1), if_pos hpk, if_neg hla]) (by decide) v
            clear st1 st2 st3 hc hvb hL hxy hno hla hF hp
            generalize steps ⟨p0, p1, r, m, j⟩ S0 (ys.take k) = S at P sy hpk
            generalize RA ++ rounds ⟨p0, p1, r, m, j⟩ S0 (ys.take k) = R at P hRl
            clear hpk
            obtain ⟨⟨k0, n0, b0, a0, c0, q0⟩, ⟨k1, n1, b1, a1, c1, q1⟩, w0, w1⟩ := S
            simp only at P sy
            replace P := P.alloc (.cells #[.int .i64 x, .int .i64 y] 22)
            obtain ⟨⟨r0, r1, r2, r3, r4, _, _, _, _, _⟩, ⟨y0, y1, y2, y3, y4, y5, y6, y7, y8, y9, y10, y11, y12, y13, h0, h1, h2, h3, h4, h5, h6, h7, h8, h9, h10, h11, h12, h13⟩, _, _, _, _, _, _⟩ := id P
            go_wp2_with (go_at_call 11; refine (sy _).mono ?_; clear sy r0 r1 r2 r3 r4 y0 y1 y2 y3 y4 y5 y6 y7 y8 y9 y10 y11 y12 y13 h0 h1 h2 h3 h4 h5 h6 h7 h8 h9 h10 h11 h12 h13; rintro xx v1 ⟨rfl, b5⟩; replace P := ((P.kept b5).alloc (.cells #[.int .i64 0, .int .i64 0, .int .i64 0, .int .i64 0, .int .i64 0, .int .i64 0, .int .i64 0, .int .i64 0, .int .i64 0, .int .i64 0, .int .i64 0, .int .i64 0, .int .i64 0, .int .i64 0] 29)).alloc (.cells #[.int .i64 0, .int .i64 0, .int .i64 0, .int .i64 0, .int .i64 0, .int .i64 0] 34); clear b5)
            go_ret
            exact ⟨rfl, P.below⟩
        · obtain rfl : k = nB := by omega
          have hfull : ys.take k = ys := List.take_of_length_le (by have := hy0.out; omega)
          rw [hfull] at hL P hRl
          obtain ⟨rfl, hT, hRBe⟩ : F = 0 ∧ steps ⟨p0, p1, r, m, j⟩ S0 ys = ⟨⟨t0, t1, t2, t3, t4, t5⟩, ⟨t6, t7, t8, t9, t10, t11⟩, t12, t13⟩ ∧ RB = RA ++ rounds ⟨p0, p1, r, m, j⟩ S0 ys := by
            rcases hF.out with ⟨h, _, h2, h3⟩ | ⟨_, h⟩
            · exact ⟨h, h2, h3⟩
            · exact absurd hL h
          rw [hT, ← hRBe] at P
          rw [← hRBe] at hRl
          simp only at P
          have hNBb : NB ≤ 1048576 := by have := hM0.out; omega
          obtain ⟨ao, cpx, et, _, hrr, _⟩ := owned6 rfl P.own.out
          rw [hRB] at et
          subst et
          have hbb := ha3.out _ P.hB
          have s1 := sameS_self t0 t1 t2 t3 t4 t5 t6 t7 t8 t9 t10 t11 t12 t13
          obtain ⟨_, ⟨y0, y1, y2, y3, y4, y5, y6, y7, y8, y9, y10, y11, y12, y13, h0, h1, h2, h3, h4, h5, h6, h7, h8, h9, h10, h11, h12, h13⟩, ⟨f0, f1, f2, f3, f4, f5, f6, f7, f8, f9, f10, f11, f12, f13, _, _, _, _, _, _, _, _, _, _, _, _, _, _⟩, _, _, _, _, hBB⟩ := P
          clear st1 st2 st3 hvb hL hfull hF hp hpk hT hRBe
          go_wp2_with (go_at_call 19; refine (equal_same _ _ _ _ NB RB hRB (by omega) _ hrr hbb).mono ?_; rintro xx v3 ⟨rfl, q, rfl⟩; replace hBB := below_drewN hBB q)
          go_ret
          exact ⟨rfl, hBB⟩

end Go.Proofs.Ytobgjnjndkfjoaa.D
