/- PROVED: what potential.climb answers. CONDITIONS: none beyond each theorem's own. -/
import Derived.Test.YtjageagnclmnjabGreatDoorB33QRepeat
import Derived.Deep.RegionHeld3
import Derived.Deep.CutRange
namespace Go.Proofs.YtjageagnclmnjabGreatDoor.Q
set_option maxRecDepth 100000
open Go.RowKit

theorem tok : True := trivial
theorem far3 {w : World} {P O : Nat} {x y z u : Value} (h : P ≠ O) (hc : w.cell? ⟨O, 0, none⟩ = some u) : (((w.setCell ⟨P, 0, none⟩ x).setCell ⟨P, 1, none⟩ y).setCell ⟨P, 2, none⟩ z).cell? ⟨O, 0, none⟩ = some u := by
  rw [World.cell?_setCell_other _ _ _ _ (fun q => h (by injection q)), World.cell?_setCell_other _ _ _ _ (fun q => h (by injection q)), World.cell?_setCell_other _ _ _ _ (fun q => h (by injection q))]
  exact hc
theorem Cells.new (w : World) (O : Nat) (hO : O = w.heap.size) (n : Nat) : Cells (w.alloc (.cells (madeCells #[.int .i64 0] n) 3)) O n (fun _ => 0) := by
  subst hO; exact Cells.start w n _ fun _ _ => rfl
/-- minus one, in block O -/
def Lit1 (w : World) (O : Nat) : Prop := w.cell? ⟨O, 0, none⟩ = some (.int .i64 (-1))
theorem Lit1.new (w : World) (O : Nat) (hO : O = w.heap.size) : Lit1 (w.alloc (.cells #[.int .i64 (-1)] 3)) O := by
  subst hO; unfold Lit1; rw [World.cell?_alloc_at _ _ _ _ rfl]; rfl
theorem Lit1.alloc {w : World} {O : Nat} (h : Lit1 w O) (o : Obj) : Lit1 (w.alloc o) O := by
  have := (balloc (Below.refl _ w) o).cell (p := ⟨O, 0, none⟩) (block_lt h)
  exact this.trans h
theorem Lit1.drew {w : World} {O : Nat} (h : Lit1 w O) : Lit1 w.drew O := h
/-- three cells that may be written, in block O -/
structure Pz (w : World) (O : Nat) : Prop where
  c0 : ∃ u, w.cell? ⟨O, 0, none⟩ = some u
  c1 : ∃ u, w.cell? ⟨O, 1, none⟩ = some u
  c2 : ∃ u, w.cell? ⟨O, 2, none⟩ = some u
  f0 : w.frozen? ⟨O, 0, none⟩ = false
  f1 : w.frozen? ⟨O, 1, none⟩ = false
  f2 : w.frozen? ⟨O, 2, none⟩ = false
theorem Pz.new (w : World) (O : Nat) (hO : O = w.heap.size) : Pz (w.alloc (.cells #[.slice none 0 0, .slice none 0 0, .int .i64 0] 126)) O := by
  subst hO
  refine ⟨⟨_, by rw [World.cell?_alloc_at _ _ _ _ rfl]; rfl⟩, ⟨_, by rw [World.cell?_alloc_at _ _ _ _ rfl]; rfl⟩, ⟨_, by rw [World.cell?_alloc_at _ _ _ _ rfl]; rfl⟩, ?_, ?_, ?_⟩
  all_goals rw [World.frozen?_alloc_at _ _ _ _ rfl]
theorem Pz.kept {w w' : World} {O : Nat} (h : Pz w O) (b : Below w.heap.size w w') : Pz w' O := by
  obtain ⟨⟨u0, h0⟩, ⟨u1, h1⟩, ⟨u2, h2⟩, f0, f1, f2⟩ := h
  exact ⟨⟨u0, (b.cell (p := ⟨O, 0, none⟩) (block_lt h0)).trans h0⟩, ⟨u1, (b.cell (p := ⟨O, 1, none⟩) (block_lt h1)).trans h1⟩, ⟨u2, (b.cell (p := ⟨O, 2, none⟩) (block_lt h2)).trans h2⟩, frozen_kept f0 (block_lt h0) b, frozen_kept f1 (block_lt h0) b, frozen_kept f2 (block_lt h0) b⟩
theorem Pz.alloc {w : World} {O : Nat} (h : Pz w O) (o : Obj) : Pz (w.alloc o) O := h.kept (balloc (Below.refl _ _) o)
theorem Pz.drew {w : World} {O : Nat} (h : Pz w O) : Pz w.drew O := ⟨h.c0, h.c1, h.c2, h.f0, h.f1, h.f2⟩
theorem rep_at (w : World) (L : Nat) (hL : Lit1 w L) (n : Nat) (hn : n ≤ 300) :
    Calls Tryz.prog 95 #[.slice (some ⟨L, 0, none⟩) 1 1, .int .i64 n] w fun e w' => ∃ A, e = .returned (.slice (some ⟨A, 0, none⟩) n n) ∧ w.heap.size ≤ A ∧ A < w'.heap.size ∧ Cells w' A n (fun _ => -1) ∧ Below w.heap.size w w' :=
  (repeat_any L 0 1 n (-1) w hL hn).mono fun _ _ ⟨he, hc, hs, hb⟩ => ⟨_, he, Nat.le_refl _, hs, hc, hb⟩

theorem Cb.fresh {n : Nat} {es : List Eg} (w : World) {P M A : Nat} (hP : P = w.heap.size) (hM : Cells w M n (fun _ => 0)) (hA : Cells w A n (fun _ => -1)) (m1 : M < w.heap.size) (m2 : A < w.heap.size) (ma : M ≠ A) :
    Cb (w.alloc (.cells #[.slice (some ⟨M, 0, none⟩) n n, .slice (some ⟨A, 0, none⟩) n n, .int .i64 (-1)] 126)) P M A n (cst es 0) := by
  subst hP
  exact ⟨by rw [World.cell?_alloc_at _ _ _ _ rfl]; rfl, by rw [World.cell?_alloc_at _ _ _ _ rfl]; rfl, by rw [World.cell?_alloc_at _ _ _ _ rfl]; rfl, by rw [World.frozen?_alloc_at _ _ _ _ rfl], hM.alloc _, hA.alloc _, by omega, by omega, ma⟩
theorem Cb.late {n : Nat} {es : List Eg} (w : World) {P M A : Nat} (hP : P = w.heap.size) (hM : M = w.heap.size + 1) (hA : Cells w A n (fun _ => -1)) (m2 : A < w.heap.size) :
    Cb ((w.alloc (.cells #[.slice (some ⟨M, 0, none⟩) n n, .slice (some ⟨A, 0, none⟩) n n, .int .i64 (-1)] 126)).alloc (.cells (madeCells #[.int .i64 0] n) 3)) P M A n (cst es 0) := by
  subst hP
  have b : Below (w.alloc (.cells #[.slice (some ⟨M, 0, none⟩) n n, .slice (some ⟨A, 0, none⟩) n n, .int .i64 (-1)] 126)).heap.size (w.alloc (.cells #[.slice (some ⟨M, 0, none⟩) n n, .slice (some ⟨A, 0, none⟩) n n, .int .i64 (-1)] 126)) ((w.alloc (.cells #[.slice (some ⟨M, 0, none⟩) n n, .slice (some ⟨A, 0, none⟩) n n, .int .i64 (-1)] 126)).alloc (.cells (madeCells #[.int .i64 0] n) 3)) := balloc (Below.refl _ _) _
  have lt : w.heap.size < (w.alloc (.cells #[.slice (some ⟨M, 0, none⟩) n n, .slice (some ⟨A, 0, none⟩) n n, .int .i64 (-1)] 126)).heap.size := by simp
  exact ⟨(b.cell (p := ⟨w.heap.size, 0, none⟩) lt).trans (by rw [World.cell?_alloc_at _ _ _ _ rfl]; rfl), (b.cell (p := ⟨w.heap.size, 1, none⟩) lt).trans (by rw [World.cell?_alloc_at _ _ _ _ rfl]; rfl), (b.cell (p := ⟨w.heap.size, 2, none⟩) lt).trans (by rw [World.cell?_alloc_at _ _ _ _ rfl]; rfl),
    frozen_kept (by rw [World.frozen?_alloc_at _ _ _ _ rfl]) lt b, Cells.new _ M (by simp [hM]) n, (hA.alloc _).alloc _, by omega, by omega, by omega⟩
theorem Pz.put {w : World} {P : Nat} (h : Pz w P) (x y z : Value) : (((w.setCell ⟨P, 0, none⟩ x).setCell ⟨P, 1, none⟩ y).setCell ⟨P, 2, none⟩ z).cell? ⟨P, 0, none⟩ = some x ∧ (((w.setCell ⟨P, 0, none⟩ x).setCell ⟨P, 1, none⟩ y).setCell ⟨P, 2, none⟩ z).cell? ⟨P, 1, none⟩ = some y ∧ (((w.setCell ⟨P, 0, none⟩ x).setCell ⟨P, 1, none⟩ y).setCell ⟨P, 2, none⟩ z).cell? ⟨P, 2, none⟩ = some z ∧ (((w.setCell ⟨P, 0, none⟩ x).setCell ⟨P, 1, none⟩ y).setCell ⟨P, 2, none⟩ z).frozen? ⟨P, 2, none⟩ = false := by
  obtain ⟨⟨u0, p0⟩, ⟨u1, p1⟩, ⟨u2, p2⟩, f0, f1, f2⟩ := h
  refine ⟨?_, ?_, ?_, ?_⟩
  · rw [World.cell?_setCell_other _ _ _ _ (by simp), World.cell?_setCell_other _ _ _ _ (by simp)]
    exact World.cell?_setCell_same _ _ _ p0
  · rw [World.cell?_setCell_other _ _ _ _ (by simp)]
    exact World.cell?_setCell_same _ _ _ (by rw [World.cell?_setCell_other _ _ _ _ (by simp)]; exact p1)
  · exact World.cell?_setCell_same _ _ _ (by rw [World.cell?_setCell_other _ _ _ _ (by simp), World.cell?_setCell_other _ _ _ _ (by simp)]; exact p2)
  · rw [World.frozen?_setCell, World.frozen?_setCell, World.frozen?_setCell]; exact f2
theorem Cb.stored {n : Nat} {es : List Eg} {w : World} {P M A : Nat} (h : Pz w P) (hM : Cells w M n (fun _ => 0)) (hA : Cells w A n (fun _ => -1)) (pm : P ≠ M) (pa : P ≠ A) (ma : M ≠ A) :
    Cb (((w.setCell ⟨P, 0, none⟩ (.slice (some ⟨M, 0, none⟩) n n)).setCell ⟨P, 1, none⟩ (.slice (some ⟨A, 0, none⟩) n n)).setCell ⟨P, 2, none⟩ (.int .i64 (-1))) P M A n (cst es 0) := by
  obtain ⟨h0, h1, h2, h3⟩ := h.put (.slice (some ⟨M, 0, none⟩) n n) (.slice (some ⟨A, 0, none⟩) n n) (.int .i64 (-1))
  exact ⟨h0, h1, h2, h3, ((hM.far pm _).far pm _).far pm _, ((hA.far pa _).far pa _).far pa _, pm, pa, ma⟩
theorem put3 {B P : Nat} {w v : World} (b : Below B w v) (h : B ≤ P) (x y z : Value) : Below B w (((v.setCell ⟨P, 0, none⟩ x).setCell ⟨P, 1, none⟩ y).setCell ⟨P, 2, none⟩ z) := Below.setCell (Below.setCell (Below.setCell b h _) h _) h _

set_option maxRecDepth 100000 in
set_option maxHeartbeats 6400000 in
theorem climb_any (n : Nat) (es : List Eg) (hG : Gph n es) (a : Option Addr) (cap : Nat) (w : World) (hE : GRow w a es) :
    Calls Tryz.prog 74 #[.agg #[.int .i64 n, .slice a es.length cap]] w fun e w' => ∃ M A k : Nat, e = .returned (.agg #[.slice (some ⟨M, 0, none⟩) n n, .slice (some ⟨A, 0, none⟩) n n, .int .i64 (cst es k).r])
      ∧ k ≤ n ∧ ((cst es k).r = -1 ∧ (1 ≤ k ∨ n = 0) ∨ k = n ∧ (cst es k).r ≠ -1) ∧ Cells w' M n (cst es k).d ∧ Cells w' A n (cst es k).l ∧ w.heap.size ≤ M ∧ w.heap.size ≤ A ∧ M ≠ A ∧ Below w.heap.size w w' := by
  have hm4 := hG.m4
  have hn3 := hG.n3
  have hmk := run_make_row' (P := Tryz.prog) 24 3 (.int .i64 0) 8 Tryz.underlying24 Tryz.info3 rfl .i64 .i64 n (by omega) (by omega)
  obtain ⟨m, hm⟩ : ∃ m, es.length = m := ⟨_, rfl⟩
  have hlm : Hid (es.length = m) := hm
  rw [hm] at hm4 ⊢
  clear hm
  have K2 := (Gb.new w n a m cap).alloc (.cells #[.slice none 0 0, .slice none 0 0, .int .i64 0] 126)
  have B2 : Below w.heap.size w ((w.alloc (.cells #[.int .i64 n, .slice a m cap] 91)).alloc (.cells #[.slice none 0 0, .slice none 0 0, .int .i64 0] 126)) := balloc (balloc (Below.refl _ _) _) _
  have R2 := Pz.new (w.alloc (.cells #[.int .i64 n, .slice a m cap] 91)) (w.heap.size + 1) (by simp)
  have E2 := hE.kept B2
  go_enter Tryz.func74, Tryz.ntmps74
  go_upto_region 1 with (fail)
  obtain ⟨W2, hW2⟩ : ∃ W2, (w.alloc (.cells #[.int .i64 n, .slice a m cap] 91)).alloc (.cells #[.slice none 0 0, .slice none 0 0, .int .i64 0] 126) = W2 := ⟨_, rfl⟩
  rw [hW2] at K2 B2 R2 E2 ⊢
  clear hW2 hE
  obtain ⟨k0, k1⟩ := id K2
  have wl : w.heap.size < W2.heap.size := block_lt k0
  go_cut [3] from 4 to 11 (fun c wc => ∃ P M A : Nat, c = .pointer (some ⟨P, 0, none⟩) ∧ Cb wc P M A n (cst es 0) ∧ Below W2.heap.size W2 wc ∧ W2.heap.size ≤ P ∧ W2.heap.size ≤ M ∧ W2.heap.size ≤ A)
  case first =>
    have lcL := (Lit1.new W2 (W2.heap.size) (by simp)).drew
    have bbL : Below W2.heap.size W2 (W2.alloc (.cells #[.int .i64 (-1)] 3)).drew := (balloc (Below.refl _ _) (.cells #[.int .i64 (-1)] 3)).drew
    have lcLM := ((Lit1.new W2 (W2.heap.size) (by simp)).alloc (.cells (madeCells #[.int .i64 0] n) 3)).drew
    have mzLM := (Cells.new (W2.alloc (.cells #[.int .i64 (-1)] 3)) (W2.heap.size + 1) (by simp) n).drew
    have bbLM : Below W2.heap.size W2 ((W2.alloc (.cells #[.int .i64 (-1)] 3)).alloc (.cells (madeCells #[.int .i64 0] n) 3)).drew := (balloc (balloc (Below.refl _ _) (.cells #[.int .i64 (-1)] 3)) (.cells (madeCells #[.int .i64 0] n) 3)).drew
    have mzML := ((Cells.new W2 (W2.heap.size) (by simp) n).alloc (.cells #[.int .i64 (-1)] 3)).drew
    have lcML := (Lit1.new (W2.alloc (.cells (madeCells #[.int .i64 0] n) 3)) (W2.heap.size + 1) (by simp)).drew
    have bbML : Below W2.heap.size W2 ((W2.alloc (.cells (madeCells #[.int .i64 0] n) 3)).alloc (.cells #[.int .i64 (-1)] 3)).drew := (balloc (balloc (Below.refl _ _) (.cells (madeCells #[.int .i64 0] n) 3)) (.cells #[.int .i64 (-1)] 3)).drew
    have lcLP := ((Lit1.new W2 (W2.heap.size) (by simp)).alloc (.cells #[.slice none 0 0, .slice none 0 0, .int .i64 0] 126)).drew
    have pzLP := (Pz.new (W2.alloc (.cells #[.int .i64 (-1)] 3)) (W2.heap.size + 1) (by simp)).drew
    have bbLP : Below W2.heap.size W2 ((W2.alloc (.cells #[.int .i64 (-1)] 3)).alloc (.cells #[.slice none 0 0, .slice none 0 0, .int .i64 0] 126)).drew := (balloc (balloc (Below.refl _ _) (.cells #[.int .i64 (-1)] 3)) (.cells #[.slice none 0 0, .slice none 0 0, .int .i64 0] 126)).drew
    have pzPL := ((Pz.new W2 (W2.heap.size) (by simp)).alloc (.cells #[.int .i64 (-1)] 3)).drew
    have lcPL := (Lit1.new (W2.alloc (.cells #[.slice none 0 0, .slice none 0 0, .int .i64 0] 126)) (W2.heap.size + 1) (by simp)).drew
    have bbPL : Below W2.heap.size W2 ((W2.alloc (.cells #[.slice none 0 0, .slice none 0 0, .int .i64 0] 126)).alloc (.cells #[.int .i64 (-1)] 3)).drew := (balloc (balloc (Below.refl _ _) (.cells #[.slice none 0 0, .slice none 0 0, .int .i64 0] 126)) (.cells #[.int .i64 (-1)] 3)).drew
    have lcLMP := (((Lit1.new W2 (W2.heap.size) (by simp)).alloc (.cells (madeCells #[.int .i64 0] n) 3)).alloc (.cells #[.slice none 0 0, .slice none 0 0, .int .i64 0] 126)).drew
    have mzLMP := ((Cells.new (W2.alloc (.cells #[.int .i64 (-1)] 3)) (W2.heap.size + 1) (by simp) n).alloc (.cells #[.slice none 0 0, .slice none 0 0, .int .i64 0] 126)).drew
    have pzLMP := (Pz.new ((W2.alloc (.cells #[.int .i64 (-1)] 3)).alloc (.cells (madeCells #[.int .i64 0] n) 3)) (W2.heap.size + 1 + 1) (by simp)).drew
    have gkLMP : (((W2.alloc (.cells #[.int .i64 (-1)] 3)).alloc (.cells (madeCells #[.int .i64 0] n) 3)).alloc (.cells #[.slice none 0 0, .slice none 0 0, .int .i64 0] 126)).drew.cell? ⟨w.heap.size, 0, none⟩ = some (.int .i64 n) := (((K2.alloc (.cells #[.int .i64 (-1)] 3)).alloc (.cells (madeCells #[.int .i64 0] n) 3)).alloc (.cells #[.slice none 0 0, .slice none 0 0, .int .i64 0] 126)).g
    have bbLMP : Below W2.heap.size W2 (((W2.alloc (.cells #[.int .i64 (-1)] 3)).alloc (.cells (madeCells #[.int .i64 0] n) 3)).alloc (.cells #[.slice none 0 0, .slice none 0 0, .int .i64 0] 126)).drew := (balloc (balloc (balloc (Below.refl _ _) (.cells #[.int .i64 (-1)] 3)) (.cells (madeCells #[.int .i64 0] n) 3)) (.cells #[.slice none 0 0, .slice none 0 0, .int .i64 0] 126)).drew
    have lcLPM := (((Lit1.new W2 (W2.heap.size) (by simp)).alloc (.cells #[.slice none 0 0, .slice none 0 0, .int .i64 0] 126)).alloc (.cells (madeCells #[.int .i64 0] n) 3)).drew
    have pzLPM := ((Pz.new (W2.alloc (.cells #[.int .i64 (-1)] 3)) (W2.heap.size + 1) (by simp)).alloc (.cells (madeCells #[.int .i64 0] n) 3)).drew
    have mzLPM := (Cells.new ((W2.alloc (.cells #[.int .i64 (-1)] 3)).alloc (.cells #[.slice none 0 0, .slice none 0 0, .int .i64 0] 126)) (W2.heap.size + 1 + 1) (by simp) n).drew
    have gkLPM : (((W2.alloc (.cells #[.int .i64 (-1)] 3)).alloc (.cells #[.slice none 0 0, .slice none 0 0, .int .i64 0] 126)).alloc (.cells (madeCells #[.int .i64 0] n) 3)).drew.cell? ⟨w.heap.size, 0, none⟩ = some (.int .i64 n) := (((K2.alloc (.cells #[.int .i64 (-1)] 3)).alloc (.cells #[.slice none 0 0, .slice none 0 0, .int .i64 0] 126)).alloc (.cells (madeCells #[.int .i64 0] n) 3)).g
    have bbLPM : Below W2.heap.size W2 (((W2.alloc (.cells #[.int .i64 (-1)] 3)).alloc (.cells #[.slice none 0 0, .slice none 0 0, .int .i64 0] 126)).alloc (.cells (madeCells #[.int .i64 0] n) 3)).drew := (balloc (balloc (balloc (Below.refl _ _) (.cells #[.int .i64 (-1)] 3)) (.cells #[.slice none 0 0, .slice none 0 0, .int .i64 0] 126)) (.cells (madeCells #[.int .i64 0] n) 3)).drew
    have mzMLP := (((Cells.new W2 (W2.heap.size) (by simp) n).alloc (.cells #[.int .i64 (-1)] 3)).alloc (.cells #[.slice none 0 0, .slice none 0 0, .int .i64 0] 126)).drew
    have lcMLP := ((Lit1.new (W2.alloc (.cells (madeCells #[.int .i64 0] n) 3)) (W2.heap.size + 1) (by simp)).alloc (.cells #[.slice none 0 0, .slice none 0 0, .int .i64 0] 126)).drew
    have pzMLP := (Pz.new ((W2.alloc (.cells (madeCells #[.int .i64 0] n) 3)).alloc (.cells #[.int .i64 (-1)] 3)) (W2.heap.size + 1 + 1) (by simp)).drew
    have gkMLP : (((W2.alloc (.cells (madeCells #[.int .i64 0] n) 3)).alloc (.cells #[.int .i64 (-1)] 3)).alloc (.cells #[.slice none 0 0, .slice none 0 0, .int .i64 0] 126)).drew.cell? ⟨w.heap.size, 0, none⟩ = some (.int .i64 n) := (((K2.alloc (.cells (madeCells #[.int .i64 0] n) 3)).alloc (.cells #[.int .i64 (-1)] 3)).alloc (.cells #[.slice none 0 0, .slice none 0 0, .int .i64 0] 126)).g
    have bbMLP : Below W2.heap.size W2 (((W2.alloc (.cells (madeCells #[.int .i64 0] n) 3)).alloc (.cells #[.int .i64 (-1)] 3)).alloc (.cells #[.slice none 0 0, .slice none 0 0, .int .i64 0] 126)).drew := (balloc (balloc (balloc (Below.refl _ _) (.cells (madeCells #[.int .i64 0] n) 3)) (.cells #[.int .i64 (-1)] 3)) (.cells #[.slice none 0 0, .slice none 0 0, .int .i64 0] 126)).drew
    have mzMPL := (((Cells.new W2 (W2.heap.size) (by simp) n).alloc (.cells #[.slice none 0 0, .slice none 0 0, .int .i64 0] 126)).alloc (.cells #[.int .i64 (-1)] 3)).drew
    have pzMPL := ((Pz.new (W2.alloc (.cells (madeCells #[.int .i64 0] n) 3)) (W2.heap.size + 1) (by simp)).alloc (.cells #[.int .i64 (-1)] 3)).drew
    have lcMPL := (Lit1.new ((W2.alloc (.cells (madeCells #[.int .i64 0] n) 3)).alloc (.cells #[.slice none 0 0, .slice none 0 0, .int .i64 0] 126)) (W2.heap.size + 1 + 1) (by simp)).drew
    have gkMPL : (((W2.alloc (.cells (madeCells #[.int .i64 0] n) 3)).alloc (.cells #[.slice none 0 0, .slice none 0 0, .int .i64 0] 126)).alloc (.cells #[.int .i64 (-1)] 3)).drew.cell? ⟨w.heap.size, 0, none⟩ = some (.int .i64 n) := (((K2.alloc (.cells (madeCells #[.int .i64 0] n) 3)).alloc (.cells #[.slice none 0 0, .slice none 0 0, .int .i64 0] 126)).alloc (.cells #[.int .i64 (-1)] 3)).g
    have bbMPL : Below W2.heap.size W2 (((W2.alloc (.cells (madeCells #[.int .i64 0] n) 3)).alloc (.cells #[.slice none 0 0, .slice none 0 0, .int .i64 0] 126)).alloc (.cells #[.int .i64 (-1)] 3)).drew := (balloc (balloc (balloc (Below.refl _ _) (.cells (madeCells #[.int .i64 0] n) 3)) (.cells #[.slice none 0 0, .slice none 0 0, .int .i64 0] 126)) (.cells #[.int .i64 (-1)] 3)).drew
    have pzPLM := (((Pz.new W2 (W2.heap.size) (by simp)).alloc (.cells #[.int .i64 (-1)] 3)).alloc (.cells (madeCells #[.int .i64 0] n) 3)).drew
    have lcPLM := ((Lit1.new (W2.alloc (.cells #[.slice none 0 0, .slice none 0 0, .int .i64 0] 126)) (W2.heap.size + 1) (by simp)).alloc (.cells (madeCells #[.int .i64 0] n) 3)).drew
    have mzPLM := (Cells.new ((W2.alloc (.cells #[.slice none 0 0, .slice none 0 0, .int .i64 0] 126)).alloc (.cells #[.int .i64 (-1)] 3)) (W2.heap.size + 1 + 1) (by simp) n).drew
    have gkPLM : (((W2.alloc (.cells #[.slice none 0 0, .slice none 0 0, .int .i64 0] 126)).alloc (.cells #[.int .i64 (-1)] 3)).alloc (.cells (madeCells #[.int .i64 0] n) 3)).drew.cell? ⟨w.heap.size, 0, none⟩ = some (.int .i64 n) := (((K2.alloc (.cells #[.slice none 0 0, .slice none 0 0, .int .i64 0] 126)).alloc (.cells #[.int .i64 (-1)] 3)).alloc (.cells (madeCells #[.int .i64 0] n) 3)).g
    have bbPLM : Below W2.heap.size W2 (((W2.alloc (.cells #[.slice none 0 0, .slice none 0 0, .int .i64 0] 126)).alloc (.cells #[.int .i64 (-1)] 3)).alloc (.cells (madeCells #[.int .i64 0] n) 3)).drew := (balloc (balloc (balloc (Below.refl _ _) (.cells #[.slice none 0 0, .slice none 0 0, .int .i64 0] 126)) (.cells #[.int .i64 (-1)] 3)) (.cells (madeCells #[.int .i64 0] n) 3)).drew
    have pzPML := (((Pz.new W2 (W2.heap.size) (by simp)).alloc (.cells (madeCells #[.int .i64 0] n) 3)).alloc (.cells #[.int .i64 (-1)] 3)).drew
    have mzPML := ((Cells.new (W2.alloc (.cells #[.slice none 0 0, .slice none 0 0, .int .i64 0] 126)) (W2.heap.size + 1) (by simp) n).alloc (.cells #[.int .i64 (-1)] 3)).drew
    have lcPML := (Lit1.new ((W2.alloc (.cells #[.slice none 0 0, .slice none 0 0, .int .i64 0] 126)).alloc (.cells (madeCells #[.int .i64 0] n) 3)) (W2.heap.size + 1 + 1) (by simp)).drew
    have gkPML : (((W2.alloc (.cells #[.slice none 0 0, .slice none 0 0, .int .i64 0] 126)).alloc (.cells (madeCells #[.int .i64 0] n) 3)).alloc (.cells #[.int .i64 (-1)] 3)).drew.cell? ⟨w.heap.size, 0, none⟩ = some (.int .i64 n) := (((K2.alloc (.cells #[.slice none 0 0, .slice none 0 0, .int .i64 0] 126)).alloc (.cells (madeCells #[.int .i64 0] n) 3)).alloc (.cells #[.int .i64 (-1)] 3)).g
    have bbPML : Below W2.heap.size W2 (((W2.alloc (.cells #[.slice none 0 0, .slice none 0 0, .int .i64 0] 126)).alloc (.cells (madeCells #[.int .i64 0] n) 3)).alloc (.cells #[.int .i64 (-1)] 3)).drew := (balloc (balloc (balloc (Below.refl _ _) (.cells #[.slice none 0 0, .slice none 0 0, .int .i64 0] 126)) (.cells (madeCells #[.int .i64 0] n) 3)) (.cells #[.int .i64 (-1)] 3)).drew
    go_region_held3 (fun w' => w'.cell? ⟨w.heap.size, 0, none⟩ = some (.int .i64 n)) (first | with_reducible exact k0 | with_reducible exact g0 | with_reducible assumption | go_keep | (with_reducible refine far3 ?_ ?_; (· omega); (· first | with_reducible exact g0 | go_keep)))
      (first
      | (go_at_call 95; with_reducible refine (rep_at _ _ lcL n hn3).mono ?_; rintro e v ⟨A, rfl, hA, hAv, hC, b⟩; have YL := tok; have bv := bthen bbL b; have vl := bv.size; have Kv := K2.kept bv; obtain ⟨g0, g1⟩ := id Kv; have hAW : W2.heap.size + 1 ≤ A := (by simpa using hA); have hvW : W2.heap.size + 1 ≤ v.heap.size := (by simpa using b.size); clear lcL bbL lcLM mzLM bbLM mzML lcML bbML lcLP pzLP bbLP pzPL lcPL bbPL lcLMP mzLMP pzLMP bbLMP lcLPM pzLPM mzLPM bbLPM mzMLP lcMLP pzMLP bbMLP mzMPL pzMPL lcMPL bbMPL pzPLM lcPLM mzPLM bbPLM pzPML mzPML lcPML bbPML)
      | (go_at_call 95; with_reducible refine (rep_at _ _ lcLM n hn3).mono ?_; rintro e v ⟨A, rfl, hA, hAv, hC, b⟩; have YLM := tok; have bv := bthen bbLM b; have vl := bv.size; have Kv := K2.kept bv; obtain ⟨g0, g1⟩ := id Kv; have hAW : W2.heap.size + 1 + 1 ≤ A := (by simpa using hA); have hvW : W2.heap.size + 1 + 1 ≤ v.heap.size := (by simpa using b.size); have Mz := mzLM.kept b; clear lcL bbL lcLM mzLM bbLM mzML lcML bbML lcLP pzLP bbLP pzPL lcPL bbPL lcLMP mzLMP pzLMP bbLMP lcLPM pzLPM mzLPM bbLPM mzMLP lcMLP pzMLP bbMLP mzMPL pzMPL lcMPL bbMPL pzPLM lcPLM mzPLM bbPLM pzPML mzPML lcPML bbPML)
      | (go_at_call 95; with_reducible refine (rep_at _ _ lcML n hn3).mono ?_; rintro e v ⟨A, rfl, hA, hAv, hC, b⟩; have YML := tok; have bv := bthen bbML b; have vl := bv.size; have Kv := K2.kept bv; obtain ⟨g0, g1⟩ := id Kv; have hAW : W2.heap.size + 1 + 1 ≤ A := (by simpa using hA); have hvW : W2.heap.size + 1 + 1 ≤ v.heap.size := (by simpa using b.size); have Mz := mzML.kept b; clear lcL bbL lcLM mzLM bbLM mzML lcML bbML lcLP pzLP bbLP pzPL lcPL bbPL lcLMP mzLMP pzLMP bbLMP lcLPM pzLPM mzLPM bbLPM mzMLP lcMLP pzMLP bbMLP mzMPL pzMPL lcMPL bbMPL pzPLM lcPLM mzPLM bbPLM pzPML mzPML lcPML bbPML)
      | (go_at_call 95; with_reducible refine (rep_at _ _ lcLP n hn3).mono ?_; rintro e v ⟨A, rfl, hA, hAv, hC, b⟩; have YLP := tok; have bv := bthen bbLP b; have vl := bv.size; have Kv := K2.kept bv; obtain ⟨g0, g1⟩ := id Kv; have hAW : W2.heap.size + 1 + 1 ≤ A := (by simpa using hA); have hvW : W2.heap.size + 1 + 1 ≤ v.heap.size := (by simpa using b.size); have Pv := pzLP.kept b; obtain ⟨⟨u0, p0⟩, ⟨u1, p1⟩, ⟨u2, p2⟩, f0, f1, f2⟩ := id Pv; obtain ⟨⟨t0, r0⟩, ⟨t1, r1⟩, ⟨t2, r2⟩, e0, e1, e2⟩ := id (Pv.alloc (.cells (madeCells #[.int .i64 0] n) 3)); clear lcL bbL lcLM mzLM bbLM mzML lcML bbML lcLP pzLP bbLP pzPL lcPL bbPL lcLMP mzLMP pzLMP bbLMP lcLPM pzLPM mzLPM bbLPM mzMLP lcMLP pzMLP bbMLP mzMPL pzMPL lcMPL bbMPL pzPLM lcPLM mzPLM bbPLM pzPML mzPML lcPML bbPML)
      | (go_at_call 95; with_reducible refine (rep_at _ _ lcPL n hn3).mono ?_; rintro e v ⟨A, rfl, hA, hAv, hC, b⟩; have YPL := tok; have bv := bthen bbPL b; have vl := bv.size; have Kv := K2.kept bv; obtain ⟨g0, g1⟩ := id Kv; have hAW : W2.heap.size + 1 + 1 ≤ A := (by simpa using hA); have hvW : W2.heap.size + 1 + 1 ≤ v.heap.size := (by simpa using b.size); have Pv := pzPL.kept b; obtain ⟨⟨u0, p0⟩, ⟨u1, p1⟩, ⟨u2, p2⟩, f0, f1, f2⟩ := id Pv; obtain ⟨⟨t0, r0⟩, ⟨t1, r1⟩, ⟨t2, r2⟩, e0, e1, e2⟩ := id (Pv.alloc (.cells (madeCells #[.int .i64 0] n) 3)); clear lcL bbL lcLM mzLM bbLM mzML lcML bbML lcLP pzLP bbLP pzPL lcPL bbPL lcLMP mzLMP pzLMP bbLMP lcLPM pzLPM mzLPM bbLPM mzMLP lcMLP pzMLP bbMLP mzMPL pzMPL lcMPL bbMPL pzPLM lcPLM mzPLM bbPLM pzPML mzPML lcPML bbPML)
      | (go_at_call 95; with_reducible refine (rep_at _ _ lcLMP n hn3).mono ?_; rintro e v ⟨A, rfl, hA, hAv, hC, b⟩; have YLMP := tok; have bv := bthen bbLMP b; have vl := bv.size; have Kv := K2.kept bv; obtain ⟨g0, g1⟩ := id Kv; have hAW : W2.heap.size + 1 + 1 + 1 ≤ A := (by simpa using hA); have hvW : W2.heap.size + 1 + 1 + 1 ≤ v.heap.size := (by simpa using b.size); have Mz := mzLMP.kept b; have Pv := pzLMP.kept b; obtain ⟨⟨u0, p0⟩, ⟨u1, p1⟩, ⟨u2, p2⟩, f0, f1, f2⟩ := id Pv; clear lcL bbL lcLM mzLM bbLM mzML lcML bbML lcLP pzLP bbLP pzPL lcPL bbPL lcLMP mzLMP pzLMP bbLMP lcLPM pzLPM mzLPM bbLPM mzMLP lcMLP pzMLP bbMLP mzMPL pzMPL lcMPL bbMPL pzPLM lcPLM mzPLM bbPLM pzPML mzPML lcPML bbPML)
      | (go_at_call 95; with_reducible refine (rep_at _ _ lcLPM n hn3).mono ?_; rintro e v ⟨A, rfl, hA, hAv, hC, b⟩; have YLPM := tok; have bv := bthen bbLPM b; have vl := bv.size; have Kv := K2.kept bv; obtain ⟨g0, g1⟩ := id Kv; have hAW : W2.heap.size + 1 + 1 + 1 ≤ A := (by simpa using hA); have hvW : W2.heap.size + 1 + 1 + 1 ≤ v.heap.size := (by simpa using b.size); have Mz := mzLPM.kept b; have Pv := pzLPM.kept b; obtain ⟨⟨u0, p0⟩, ⟨u1, p1⟩, ⟨u2, p2⟩, f0, f1, f2⟩ := id Pv; clear lcL bbL lcLM mzLM bbLM mzML lcML bbML lcLP pzLP bbLP pzPL lcPL bbPL lcLMP mzLMP pzLMP bbLMP lcLPM pzLPM mzLPM bbLPM mzMLP lcMLP pzMLP bbMLP mzMPL pzMPL lcMPL bbMPL pzPLM lcPLM mzPLM bbPLM pzPML mzPML lcPML bbPML)
      | (go_at_call 95; with_reducible refine (rep_at _ _ lcMLP n hn3).mono ?_; rintro e v ⟨A, rfl, hA, hAv, hC, b⟩; have YMLP := tok; have bv := bthen bbMLP b; have vl := bv.size; have Kv := K2.kept bv; obtain ⟨g0, g1⟩ := id Kv; have hAW : W2.heap.size + 1 + 1 + 1 ≤ A := (by simpa using hA); have hvW : W2.heap.size + 1 + 1 + 1 ≤ v.heap.size := (by simpa using b.size); have Mz := mzMLP.kept b; have Pv := pzMLP.kept b; obtain ⟨⟨u0, p0⟩, ⟨u1, p1⟩, ⟨u2, p2⟩, f0, f1, f2⟩ := id Pv; clear lcL bbL lcLM mzLM bbLM mzML lcML bbML lcLP pzLP bbLP pzPL lcPL bbPL lcLMP mzLMP pzLMP bbLMP lcLPM pzLPM mzLPM bbLPM mzMLP lcMLP pzMLP bbMLP mzMPL pzMPL lcMPL bbMPL pzPLM lcPLM mzPLM bbPLM pzPML mzPML lcPML bbPML)
      | (go_at_call 95; with_reducible refine (rep_at _ _ lcMPL n hn3).mono ?_; rintro e v ⟨A, rfl, hA, hAv, hC, b⟩; have YMPL := tok; have bv := bthen bbMPL b; have vl := bv.size; have Kv := K2.kept bv; obtain ⟨g0, g1⟩ := id Kv; have hAW : W2.heap.size + 1 + 1 + 1 ≤ A := (by simpa using hA); have hvW : W2.heap.size + 1 + 1 + 1 ≤ v.heap.size := (by simpa using b.size); have Mz := mzMPL.kept b; have Pv := pzMPL.kept b; obtain ⟨⟨u0, p0⟩, ⟨u1, p1⟩, ⟨u2, p2⟩, f0, f1, f2⟩ := id Pv; clear lcL bbL lcLM mzLM bbLM mzML lcML bbML lcLP pzLP bbLP pzPL lcPL bbPL lcLMP mzLMP pzLMP bbLMP lcLPM pzLPM mzLPM bbLPM mzMLP lcMLP pzMLP bbMLP mzMPL pzMPL lcMPL bbMPL pzPLM lcPLM mzPLM bbPLM pzPML mzPML lcPML bbPML)
      | (go_at_call 95; with_reducible refine (rep_at _ _ lcPLM n hn3).mono ?_; rintro e v ⟨A, rfl, hA, hAv, hC, b⟩; have YPLM := tok; have bv := bthen bbPLM b; have vl := bv.size; have Kv := K2.kept bv; obtain ⟨g0, g1⟩ := id Kv; have hAW : W2.heap.size + 1 + 1 + 1 ≤ A := (by simpa using hA); have hvW : W2.heap.size + 1 + 1 + 1 ≤ v.heap.size := (by simpa using b.size); have Mz := mzPLM.kept b; have Pv := pzPLM.kept b; obtain ⟨⟨u0, p0⟩, ⟨u1, p1⟩, ⟨u2, p2⟩, f0, f1, f2⟩ := id Pv; clear lcL bbL lcLM mzLM bbLM mzML lcML bbML lcLP pzLP bbLP pzPL lcPL bbPL lcLMP mzLMP pzLMP bbLMP lcLPM pzLPM mzLPM bbLPM mzMLP lcMLP pzMLP bbMLP mzMPL pzMPL lcMPL bbMPL pzPLM lcPLM mzPLM bbPLM pzPML mzPML lcPML bbPML)
      | (go_at_call 95; with_reducible refine (rep_at _ _ lcPML n hn3).mono ?_; rintro e v ⟨A, rfl, hA, hAv, hC, b⟩; have YPML := tok; have bv := bthen bbPML b; have vl := bv.size; have Kv := K2.kept bv; obtain ⟨g0, g1⟩ := id Kv; have hAW : W2.heap.size + 1 + 1 + 1 ≤ A := (by simpa using hA); have hvW : W2.heap.size + 1 + 1 + 1 ≤ v.heap.size := (by simpa using b.size); have Mz := mzPML.kept b; have Pv := pzPML.kept b; obtain ⟨⟨u0, p0⟩, ⟨u1, p1⟩, ⟨u2, p2⟩, f0, f1, f2⟩ := id Pv; clear lcL bbL lcLM mzLM bbLM mzML lcML bbML lcLP pzLP bbLP pzPL lcPL bbPL lcLMP mzLMP pzLMP bbLMP lcLPM pzLPM mzLPM bbLPM mzMLP lcMLP pzMLP bbMLP mzMPL pzMPL lcMPL bbMPL pzPLM lcPLM mzPLM bbPLM pzPML mzPML lcPML bbPML))
    all_goals
      go_wp2
      go_meet
      first
        | exact ⟨_, _, _, rfl, Cb.fresh v rfl Mz hC (by omega) (by omega) (by omega), balloc bv _, by omega, by omega, by omega⟩
        | exact ⟨_, _, _, rfl, Cb.stored Pv Mz hC (by omega) (by omega) (by omega), put3 bv (by omega) _ _ _, by omega, by omega, by omega⟩
        | exact ⟨_, _, _, rfl, Cb.fresh (v.alloc (.cells (madeCells #[.int .i64 0] n) 3)) (by simp) (Cells.new v _ rfl n) (hC.alloc _) (by simp) (by simp; omega) (by omega), balloc (balloc bv _) _, by omega, by omega, by omega⟩
        | exact ⟨_, _, _, rfl, Cb.late v rfl rfl hC (by omega), balloc (balloc bv _) _, by omega, by omega, by omega⟩
        | exact ⟨_, _, _, rfl, Cb.stored (Pv.alloc _) (Cells.new v _ rfl n) (hC.alloc _) (by omega) (by omega) (by omega), put3 (balloc bv _) (by omega) _ _ _, by omega, by omega, by omega⟩
  case rest =>
    obtain ⟨P, M, A, rfl, hst, hB, hP, hM, hA⟩ := hcut
    obtain ⟨k3, k4⟩ := id (K2.kept hB)
    clear k0 k1
    have hgh : Hid (Gph n es) := hG
    have hr2 : w.heap.size + 1 < W2.heap.size := by obtain ⟨⟨u, p⟩, _⟩ := R2; exact block_lt p
    clear hG hmk
    go_wp2
    clear k3 k4
    go_loopw [14] (fun i wr => ∃ k : Nat, k ≤ n ∧ i = .int .i64 k ∧ (k = 0 ∨ (cst es k).r ≠ -1) ∧ Cb wr P M A n (cst es k) ∧ Below W2.heap.size W2 wr) (fun i _ => n - (intOf i).toNat)
    case atStart => exact ⟨0, Nat.zero_le _, rfl, .inl rfl, hst, hB⟩
    case round =>
      obtain ⟨k, hk, rfl, hr, hC, hBr⟩ := hrel
      clear hst hB
      have hRr : ¬ w.heap.size + 1 = M := by omega
      have hRa : ¬ w.heap.size + 1 = A := by omega
      by_cases hlt : k < n
      · have hp := pass_any n es hgh.out k (by omega) P M A a cap W2 wr E2 hBr hP hM hA hC
        rw [hlm.out] at hp
        have hkI : (k : Int) < (n : Int) := by omega
        obtain ⟨g0, g1⟩ := K2.kept hBr
        clear hC hr
        obtain ⟨s1, hs1⟩ : ∃ s1, cst es (k + 1) = s1 := ⟨_, rfl⟩
        rw [hs1] at hp
        replace hs1 : Hid _ := hs1
        by_cases h1 : s1.r = -1
        · have d : (s1.r == -1) = true := beq_iff_eq.2 h1
          replace h1 : Hid _ := h1
          go_wp2_with (go_at_call 96; refine hp.mono ?_; rintro e v ⟨rfl, hC2, b2⟩; clear hp; obtain ⟨c0, c1, c2, _, cd, cl, _, _, ma⟩ := id hC2; have hRv := R2.kept b2; obtain ⟨⟨u0, p0⟩, ⟨u1, p1⟩, ⟨u2, p2⟩, f0, f1, f2⟩ := id hRv)
          obtain ⟨z0, z1, z2, _⟩ := hRv.put (.slice (some ⟨M, 0, none⟩) n n) (.slice (some ⟨A, 0, none⟩) n n) (.int .i64 s1.r)
          refine bodyPost_ret (v := .agg #[.slice (some ⟨M, 0, none⟩) n n, .slice (some ⟨A, 0, none⟩) n n, .int .i64 s1.r]) (by simp [results, Tryz.results74, go_sem, z0, z1, z2]) rfl ⟨M, A, k + 1, by rw [hs1.out], by omega, .inl ⟨by rw [hs1.out]; exact h1.out, .inl (by omega)⟩, by rw [hs1.out]; exact ((cd.far hRr _).far hRr _).far hRr _, by rw [hs1.out]; exact ((cl.far hRa _).far hRa _).far hRa _, by omega, by omega, ma, put3 (bthen B2 b2) (by omega) _ _ _⟩
        · have d : (s1.r == -1) = false := beq_eq_false_iff_ne.2 h1
          replace h1 : Hid _ := h1
          go_wp2_with (go_at_call 96; refine hp.mono ?_; rintro e v ⟨rfl, hC2, b2⟩; clear hp; obtain ⟨c0, c1, c2, _, cd, cl, _, _, ma⟩ := id hC2)
          go_roundw
          case rel => exact ⟨k + 1, by omega, by go_num, .inr (by rw [hs1.out]; exact h1.out), by rw [hs1.out]; exact hC2, b2⟩
          case measure => simp [intOf]; omega
      · obtain rfl : k = n := by omega
        obtain ⟨c0, c1, c2, _, cd, cl, _, _, ma⟩ := id hC
        have hRv := R2.kept hBr
        obtain ⟨⟨u0, p0⟩, ⟨u1, p1⟩, ⟨u2, p2⟩, f0, f1, f2⟩ := id hRv
        obtain ⟨z0, z1, z2, _⟩ := hRv.put (.slice (some ⟨M, 0, none⟩) k k) (.slice (some ⟨A, 0, none⟩) k k) (.int .i64 (cst es k).r)
        clear hr
        go_wp2
        refine bodyPost_ret (v := .agg #[.slice (some ⟨M, 0, none⟩) k k, .slice (some ⟨A, 0, none⟩) k k, .int .i64 (cst es k).r]) (by simp [results, Tryz.results74, go_sem, z0, z1, z2]) rfl ⟨M, A, k, rfl, Nat.le_refl _, (by by_cases q : (cst es k).r = -1; (exact .inl ⟨q, by omega⟩); (exact .inr ⟨rfl, q⟩)), ((cd.far hRr _).far hRr _).far hRr _, ((cl.far hRa _).far hRa _).far hRa _, by omega, by omega, ma, put3 (bthen B2 hBr) (by omega) _ _ _⟩

end Go.Proofs.YtjageagnclmnjabGreatDoor.Q
