/- PROVED: what verdict.Judge answers. what verdict.Judge answers, in each of its three cases. what Judge answers, in letters. what the most of walks can be. what bench.lineOf answers; how lines are gathered. CONDITIONS: none beyond each theorem's own. -/
import Derived.Test.YtjageagnclmnjabGreatDoorB31QCl
import Derived.Test.YtjageagnclmnjabGreatDoorB32Lts
import Derived.Test.YtjageagnclmnjabGreatDoorB36QTold
import Derived.Deep.RegionHeld3
import Derived.Test.YtjageagnclmnjabGreatDoorB07Fam
import Derived.Lib.ItoaLen
namespace Go.Proofs.YtjageagnclmnjabGreatDoor.D
set_option maxRecDepth 100000
open Go.RowKit K
set_option linter.unusedVariables false

/-- a verdict -/
def vd4 (k m : Int) (a : Option Addr) (na ca : Nat) (b : Option Addr) (nb cb : Nat) : Nat → Value
  | 0 => .int .i64 k
  | 1 => .int .i64 m
  | 2 => .slice a na ca
  | _ => .slice b nb cb
theorem Res4.verdict (w : World) (C : Nat) (hC : C = w.heap.size) : Res4 (w.alloc (.cells #[.int .i64 0, .int .i64 0, .slice none 0 0, .slice none 0 0] 74)) C (vd4 0 0 none 0 0 none 0 0) := ⟨fun c hc => by
  subst hC
  rw [World.cell?_alloc_at _ _ _ _ rfl, World.frozen?_alloc_at _ _ _ _ rfl]
  rcases (show c = 0 ∨ c = 1 ∨ c = 2 ∨ c = 3 by omega) with rfl | rfl | rfl | rfl <;> exact ⟨rfl, rfl⟩⟩
theorem Res4.kept {w w' : World} {P : Nat} {x : Nat → Value} (h : Res4 w P x) (b : Below w.heap.size w w') : Res4 w' P x := h.same (b.block _ h.lt)
theorem Res4.cells {w : World} {P : Nat} {k m : Int} {a : Option Addr} {na ca : Nat} {b : Option Addr} {nb cb : Nat} (h : Res4 w P (vd4 k m a na ca b nb cb)) :
    w.cell? ⟨P, 0, none⟩ = some (.int .i64 k) ∧ w.cell? ⟨P, 1, none⟩ = some (.int .i64 m) ∧ w.cell? ⟨P, 2, none⟩ = some (.slice a na ca) ∧ w.cell? ⟨P, 3, none⟩ = some (.slice b nb cb) ∧ w.frozen? ⟨P, 0, none⟩ = false ∧ w.frozen? ⟨P, 1, none⟩ = false ∧ w.frozen? ⟨P, 2, none⟩ = false ∧ w.frozen? ⟨P, 3, none⟩ = false :=
  ⟨(h.c 0 (by omega)).1, (h.c 1 (by omega)).1, (h.c 2 (by omega)).1, (h.c 3 (by omega)).1, (h.c 0 (by omega)).2, (h.c 1 (by omega)).2, (h.c 2 (by omega)).2, (h.c 3 (by omega)).2⟩

theorem VRow.far {w : World} {ao : Option Addr} {ps : List (Int × Int)} {B : Nat} (h : VRow w ao ps) (hf : Fr B ao) {C o : Nat} (hC : C < B) (v : Value) : VRow (w.setCell ⟨C, o, none⟩ v) ao ps := by
  rcases h with h | ⟨b, off, rfl, h⟩
  · exact .inl h
  · have hb : B ≤ b := hf _ rfl
    refine .inr ⟨b, off, rfl, fun j hj => ?_⟩
    rw [World.cell?_setCell_other _ _ _ _ (fun q => by injection q with q _ _; omega), World.cell?_setCell_other _ _ _ _ (fun q => by injection q with q _ _; omega)]
    exact h j hj
theorem VRow.put4 {w : World} {ao : Option Addr} {ps : List (Int × Int)} {B : Nat} (h : VRow w ao ps) (hf : Fr B ao) {C : Nat} (hC : C < B) (x : Nat → Value) : VRow (put4 w C x) ao ps := (((h.far hf hC _).far hf hC _).far hf hC _).far hf hC _

set_option maxHeartbeats 1600000 in
theorem judge_err_go (r : Ru) (who ratio E : Int) (hE : (E != 0) = true) (w : World)
    (gr : ∀ v, Calls Tryz.prog 59 #[.agg #[.int .i64 r.k0, .int .i64 r.k1, .int .i64 r.r, .int .i64 r.m, .int .i64 r.j], .int .i64 who, .int .i64 ratio] v fun e w' => e = .returned (.tuple #[.agg #[.int .i64 0, .slice none 0 0], .int .i64 E]) ∧ Below v.heap.size v w') :
    Calls Tryz.prog 44 #[.agg #[.int .i64 r.k0, .int .i64 r.k1, .int .i64 r.r, .int .i64 r.m, .int .i64 r.j], .int .i64 who, .int .i64 ratio] w fun e w' => e = .returned (.tuple #[.agg #[.int .i64 0, .int .i64 0, .slice none 0 0, .slice none 0 0], .int .i64 E]) ∧ Below w.heap.size w w' := by
  have X := (Rul.new w _ rfl r.k0 r.k1 r.r r.m r.j).alloc (.cells #[.int .i64 0, .int .i64 0, .slice none 0 0, .slice none 0 0] 74)
  have Y := Res4.verdict (w.alloc (.cells #[.int .i64 r.k0, .int .i64 r.k1, .int .i64 r.r, .int .i64 r.m, .int .i64 r.j] 69)) (w.heap.size + 1) (by simp)
  have B : Below w.heap.size w ((w.alloc (.cells #[.int .i64 r.k0, .int .i64 r.k1, .int .i64 r.r, .int .i64 r.m, .int .i64 r.j] 69)).alloc (.cells #[.int .i64 0, .int .i64 0, .slice none 0 0, .slice none 0 0] 74)) := balloc (balloc (Below.refl _ _) _) _
  obtain ⟨w0, hw0⟩ : ∃ w0, (w.alloc (.cells #[.int .i64 r.k0, .int .i64 r.k1, .int .i64 r.r, .int .i64 r.m, .int .i64 r.j] 69)).alloc (.cells #[.int .i64 0, .int .i64 0, .slice none 0 0, .slice none 0 0] 74) = w0 := ⟨_, rfl⟩
  rw [hw0] at X Y B
  obtain ⟨x0, x1, x2, x3, x4, -, -, -, -, -⟩ := id X
  go_enter Tryz.func44, Tryz.ntmps44
  go_wp2_with (go_at_call 59; refine (gr _).mono ?_; clear gr x0 x1 x2 x3 x4 hw0; rintro e w1 ⟨rfl, b⟩; replace Y := (Y.kept b).kept (balloc (Below.refl _ _) (.cells #[.int .i64 0, .slice none 0 0] 91)); replace B := balloc (bthen B b) (.cells #[.int .i64 0, .slice none 0 0] 91); obtain ⟨y0, y1, y2, y3, f0, f1, f2, f3⟩ := Y.cells)
  obtain ⟨z0, z1, z2, z3, -⟩ := (Y.all (vd4 0 0 none 0 0 none 0 0)).cells
  have e5 := below_put4 (C := w.heap.size + 1) B (by omega) (vd4 0 0 none 0 0 none 0 0)
  simp only [put4, vd4] at z0 z1 z2 z3 e5
  exact bodyPost_ret (v := .tuple #[.agg #[.int .i64 0, .int .i64 0, .slice none 0 0, .slice none 0 0], .int .i64 E]) (by simp [results, Tryz.results44, go_sem, z0, z1, z2, z3]) rfl ⟨rfl, e5⟩

set_option maxHeartbeats 3200000 in
theorem judge_bnd_go (r : Ru) (who ratio : Int) (n m : Nat) (es : List Q.Eg) (d : Nat → Int) (top : Int) (w : World)
    (gr : ∀ v, Calls Tryz.prog 59 #[.agg #[.int .i64 r.k0, .int .i64 r.k1, .int .i64 r.r, .int .i64 r.m, .int .i64 r.j], .int .i64 who, .int .i64 ratio] v fun e w' => ∃ h cp, e = .returned (.tuple #[.agg #[.int .i64 (n : Int), .slice (some ⟨h, 0, none⟩) m cp], .int .i64 0]) ∧ Q.GRow w' (some ⟨h, 0, none⟩) es ∧ Below v.heap.size v w')
    (mo : Hid (∀ v h cp, Q.GRow v (some ⟨h, 0, none⟩) es → Calls Tryz.prog 60 #[.agg #[.int .i64 (n : Int), .slice (some ⟨h, 0, none⟩) m cp]] v fun e w' => ∃ M, e = .returned (.tuple #[.slice (some ⟨M, 0, none⟩) n n, .int .i64 0]) ∧ Q.Cells w' M n d ∧ Below v.heap.size v w'))
    (tx : Hid (∀ v M, Q.Cells v M n d → Calls Tryz.prog 19 #[.slice (some ⟨M, 0, none⟩) n n] v fun e w' => e = .returned (.int .i64 top) ∧ w' = v)) :
    Calls Tryz.prog 44 #[.agg #[.int .i64 r.k0, .int .i64 r.k1, .int .i64 r.r, .int .i64 r.m, .int .i64 r.j], .int .i64 who, .int .i64 ratio] w fun e w' => e = .returned (.tuple #[.agg #[.int .i64 1, .int .i64 top, .slice none 0 0, .slice none 0 0], .int .i64 0]) ∧ Below w.heap.size w w' := by
  have X := (Rul.new w _ rfl r.k0 r.k1 r.r r.m r.j).alloc (.cells #[.int .i64 0, .int .i64 0, .slice none 0 0, .slice none 0 0] 74)
  have Y := Res4.verdict (w.alloc (.cells #[.int .i64 r.k0, .int .i64 r.k1, .int .i64 r.r, .int .i64 r.m, .int .i64 r.j] 69)) (w.heap.size + 1) (by simp)
  have B : Below w.heap.size w ((w.alloc (.cells #[.int .i64 r.k0, .int .i64 r.k1, .int .i64 r.r, .int .i64 r.m, .int .i64 r.j] 69)).alloc (.cells #[.int .i64 0, .int .i64 0, .slice none 0 0, .slice none 0 0] 74)) := balloc (balloc (Below.refl _ _) _) _
  obtain ⟨w0, hw0⟩ : ∃ w0, (w.alloc (.cells #[.int .i64 r.k0, .int .i64 r.k1, .int .i64 r.r, .int .i64 r.m, .int .i64 r.j] 69)).alloc (.cells #[.int .i64 0, .int .i64 0, .slice none 0 0, .slice none 0 0] 74) = w0 := ⟨_, rfl⟩
  rw [hw0] at X Y B
  obtain ⟨x0, x1, x2, x3, x4, -, -, -, -, -⟩ := id X
  go_enter Tryz.func44, Tryz.ntmps44
  go_wp2_with (first
    | (go_at_call 59; refine (gr _).mono ?_; clear gr x0 x1 x2 x3 x4 hw0 X; rintro e w1 ⟨h, cp, rfl, hE, b⟩; replace Y := (Y.kept b).kept (balloc (Below.refl _ _) (.cells #[.int .i64 (n : Int), .slice (some ⟨h, 0, none⟩) m cp] 91)); replace B := balloc (bthen B b) (.cells #[.int .i64 (n : Int), .slice (some ⟨h, 0, none⟩) m cp] 91); have G := Q.Gb.new w1 n (some ⟨h, 0, none⟩) m cp; replace hE := hE.alloc (.cells #[.int .i64 (n : Int), .slice (some ⟨h, 0, none⟩) m cp] 91); obtain ⟨g0, g1⟩ := id G)
    | (go_at_call 60; refine (mo.out _ _ _ hE).mono ?_; clear mo g0 g1 G hE; rintro e w2 ⟨M, rfl, hM, b2⟩; replace Y := Y.kept b2; replace B := bthen B b2)
    | (go_at_call 19; refine (tx.out _ _ hM).mono ?_; clear tx hM; rintro e w3 ⟨rfl, rfl⟩; obtain ⟨y0, y1, y2, y3, f0, f1, f2, f3⟩ := Y.cells))
  obtain ⟨z0, z1, z2, z3, -⟩ := (Y.all (vd4 1 top none 0 0 none 0 0)).cells
  have e5 := below_put4 (C := w.heap.size + 1) B (by omega) (vd4 1 top none 0 0 none 0 0)
  simp only [put4, vd4] at z0 z1 z2 z3 e5
  exact bodyPost_ret (v := .tuple #[.agg #[.int .i64 1, .int .i64 top, .slice none 0 0, .slice none 0 0], .int .i64 0]) (by simp [results, Tryz.results44, go_sem, z0, z1, z2, z3]) rfl ⟨rfl, e5⟩

set_option maxHeartbeats 6400000 in
theorem judge_stv_go (r : Ru) (who ratio : Int) (n m : Nat) (es : List Q.Eg) (w : World)
    (gr : ∀ v, Calls Tryz.prog 59 #[.agg #[.int .i64 r.k0, .int .i64 r.k1, .int .i64 r.r, .int .i64 r.m, .int .i64 r.j], .int .i64 who, .int .i64 ratio] v fun e w' => ∃ h cp, e = .returned (.tuple #[.agg #[.int .i64 (n : Int), .slice (some ⟨h, 0, none⟩) m cp], .int .i64 0]) ∧ Q.GRow w' (some ⟨h, 0, none⟩) es ∧ Below v.heap.size v w')
    (mo : Hid (∀ v h cp, Q.GRow v (some ⟨h, 0, none⟩) es → Calls Tryz.prog 60 #[.agg #[.int .i64 (n : Int), .slice (some ⟨h, 0, none⟩) m cp]] v fun e w' => e = .returned (.tuple #[.slice none 0 0, .int .i64 3]) ∧ Below v.heap.size v w'))
    (cy : Hid (∀ v h cp, Q.GRow v (some ⟨h, 0, none⟩) es → Calls Tryz.prog 61 #[.agg #[.int .i64 (n : Int), .slice (some ⟨h, 0, none⟩) m cp]] v fun e w' => ∃ g p c q f, ∃ S : World → Prop, e = .returned (.tuple #[.slice (some ⟨g, 0, none⟩) p c, .int .i64 0]) ∧ Hid (∀ v v', S v → Below v.heap.size v v' → S v') ∧ 0 < p ∧ w'.cell? ⟨g, 0, none⟩ = some (.int .i64 (q : Nat)) ∧ q < m ∧ w'.cell? ⟨h, q * 3, none⟩ = some (.int .i64 (f : Nat)) ∧ S w' ∧ Below v.heap.size v w' ∧
      Hid (∀ v, S v → Calls Tryz.prog 62 #[.agg #[.int .i64 r.k0, .int .i64 r.k1, .int .i64 r.r, .int .i64 r.m, .int .i64 r.j], .int .i64 (f : Int)] v fun e w' => ∃ a na ca, e = .returned (.tuple #[.slice a na ca, .int .i64 0]) ∧ Fr v.heap.size a ∧ Below v.heap.size v w' ∧
        Hid (∀ v, S v → Below w'.heap.size w' v → Calls Tryz.prog 63 #[.slice (some ⟨g, 0, none⟩) p c, .int .i64 r.j] v fun e w' => ∃ b nb cb, e = .returned (.slice b nb cb) ∧ Fr v.heap.size b ∧ Below v.heap.size v w' ∧ ∃ A C, Sv r who ratio A C ∧ A.length = na ∧ C.length = nb ∧ VRow w' a A ∧ VRow w' b C)))) :
    Calls Tryz.prog 44 #[.agg #[.int .i64 r.k0, .int .i64 r.k1, .int .i64 r.r, .int .i64 r.m, .int .i64 r.j], .int .i64 who, .int .i64 ratio] w fun e w' => ∃ a na ca b nb cb A C, e = .returned (.tuple #[.agg #[.int .i64 2, .int .i64 0, .slice a na ca, .slice b nb cb], .int .i64 0]) ∧ Sv r who ratio A C ∧ A.length = na ∧ C.length = nb ∧ VRow w' a A ∧ VRow w' b C ∧ Below w.heap.size w w' := by
  have X := (Rul.new w _ rfl r.k0 r.k1 r.r r.m r.j).alloc (.cells #[.int .i64 0, .int .i64 0, .slice none 0 0, .slice none 0 0] 74)
  have Y := Res4.verdict (w.alloc (.cells #[.int .i64 r.k0, .int .i64 r.k1, .int .i64 r.r, .int .i64 r.m, .int .i64 r.j] 69)) (w.heap.size + 1) (by simp)
  have B : Below w.heap.size w ((w.alloc (.cells #[.int .i64 r.k0, .int .i64 r.k1, .int .i64 r.r, .int .i64 r.m, .int .i64 r.j] 69)).alloc (.cells #[.int .i64 0, .int .i64 0, .slice none 0 0, .slice none 0 0] 74)) := balloc (balloc (Below.refl _ _) _) _
  obtain ⟨w0, hw0⟩ : ∃ w0, (w.alloc (.cells #[.int .i64 r.k0, .int .i64 r.k1, .int .i64 r.r, .int .i64 r.m, .int .i64 r.j] 69)).alloc (.cells #[.int .i64 0, .int .i64 0, .slice none 0 0, .slice none 0 0] 74) = w0 := ⟨_, rfl⟩
  rw [hw0] at X Y B
  obtain ⟨x0, x1, x2, x3, x4, -, -, -, -, -⟩ := id X
  go_enter Tryz.func44, Tryz.ntmps44
  go_wp2_with (first
    | (go_at_call 59; refine (gr _).mono ?_; clear gr x0 x1 x2 x3 x4 hw0; rintro e w1 ⟨h, cp, rfl, hE, b⟩; replace Y := (Y.kept b).kept (balloc (Below.refl _ _) (.cells #[.int .i64 (n : Int), .slice (some ⟨h, 0, none⟩) m cp] 91)); replace X := (X.kept b).kept (balloc (Below.refl _ _) (.cells #[.int .i64 (n : Int), .slice (some ⟨h, 0, none⟩) m cp] 91)); replace B := balloc (bthen B b) (.cells #[.int .i64 (n : Int), .slice (some ⟨h, 0, none⟩) m cp] 91); have G := Q.Gb.new w1 n (some ⟨h, 0, none⟩) m cp; replace hE := hE.alloc (.cells #[.int .i64 (n : Int), .slice (some ⟨h, 0, none⟩) m cp] 91); obtain ⟨g0, g1⟩ := id G)
    | (go_at_call 60; refine (mo.out _ _ _ hE).mono ?_; clear mo g0 g1; rintro e w2 ⟨rfl, b2⟩; replace Y := Y.kept b2; replace X := X.kept b2; replace G := G.kept b2; replace hE := hE.kept b2; replace B := bthen B b2; obtain ⟨g0, g1⟩ := id G)
    | (go_at_call 61; refine (cy.out _ _ _ hE).mono ?_; clear cy g0 g1; rintro e w3 ⟨g, p, c, q, f, S, rfl, hS, hp, hq, hqm, hf, hSS, b3, ld⟩; replace Y := Y.kept b3; replace X := X.kept b3; replace G := G.kept b3; replace B := bthen B b3; clear hE))
  have hpI : (0 : Int) < (p : Int) := by omega
  have hqI : (q : Int) < (m : Int) := by omega
  have hC3 : Hid (w.heap.size + 1 < w3.heap.size) := Y.lt
  go_region_held3 (fun w' => w'.cell? ⟨w.heap.size, 0, none⟩ = some (.int .i64 r.k0) ∧ w'.cell? ⟨w.heap.size, 1, none⟩ = some (.int .i64 r.k1) ∧ w'.cell? ⟨w.heap.size, 2, none⟩ = some (.int .i64 r.r) ∧ w'.cell? ⟨w.heap.size, 3, none⟩ = some (.int .i64 r.m) ∧ w'.cell? ⟨w.heap.size, 4, none⟩ = some (.int .i64 r.j) ∧ w'.cell? ⟨w1.heap.size, 1, none⟩ = some (.slice (some ⟨h, 0, none⟩) m cp) ∧ w'.cell? ⟨g, 0, none⟩ = some (.int .i64 (q : Int)) ∧ w'.cell? ⟨h, q * 3, none⟩ = some (.int .i64 (f : Int))) (exact ⟨X.c0, X.c1, X.c2, X.c3, X.c4, G.s, hq, hf⟩) (first
    | (go_at_call 62; refine (ld.out _ (hS.out _ _ hSS (Below.drew (Below.refl _ _)))).mono ?_; clear ld; rintro e w4 ⟨a, na, ca, rfl, fa, b4, lo⟩; replace fa := fa.mono (show w3.heap.size ≤ _ from Nat.le_refl _); replace hSS := hS.out _ _ hSS (bthen (Below.drew (Below.refl _ _)) b4); have b34 : Hid (w3.heap.size ≤ w4.heap.size) := b4.size; replace Y := (Y.kept (Below.drew (Below.refl _ _))).kept b4; replace X := X.drew.kept b4; replace G := (G.drewN 1).kept b4; replace hq := ((Below.drew (Below.refl _ _)).cell (p := ⟨g, 0, none⟩) (block_lt hq)).trans hq; replace hf := ((Below.drew (Below.refl _ _)).cell (p := ⟨h, q * 3, none⟩) (block_lt hf)).trans hf; replace hq := (b4.cell (p := ⟨g, 0, none⟩) (block_lt hq)).trans hq; replace hf := (b4.cell (p := ⟨h, q * 3, none⟩) (block_lt hf)).trans hf; replace B := bthen (Below.drew B) b4))
  obtain ⟨x0, x1, x2, x3, x4, -, -, -, -, -⟩ := id X
  go_wp2_with (go_at_call 63; refine (lo.out _ hSS (Below.refl _ _)).mono ?_; clear lo hSS; rintro e w5 ⟨bb, nb, cb, rfl, fb, b5, A, C, sv, la, lc, va, vc⟩; replace Y := Y.kept b5; replace B := bthen B b5; obtain ⟨y0, y1, y2, y3, f0, f1, f2, f3⟩ := Y.cells)
  obtain ⟨z0, z1, z2, z3, -⟩ := (Y.all (vd4 2 0 a na ca bb nb cb)).cells
  have e5 := below_put4 (C := w.heap.size + 1) B (by omega) (vd4 2 0 a na ca bb nb cb)
  have hC3 : w.heap.size + 1 < w3.heap.size := hC3.out
  have va' := va.put4 fa hC3 (vd4 2 0 a na ca bb nb cb)
  have vc' := vc.put4 (fb.mono b34.out) hC3 (vd4 2 0 a na ca bb nb cb)
  simp only [D.put4, vd4] at z0 z1 z2 z3 e5 va' vc'
  exact bodyPost_ret (v := .tuple #[.agg #[.int .i64 2, .int .i64 0, .slice a na ca, .slice bb nb cb], .int .i64 0]) (by simp [results, Tryz.results44, go_sem, z0, z1, z2, z3]) rfl ⟨a, na, ca, bb, nb, cb, A, C, rfl, sv, la, lc, va', vc', e5⟩

end Go.Proofs.YtjageagnclmnjabGreatDoor.D

namespace Go.Proofs.YtjageagnclmnjabGreatDoor.D
set_option maxRecDepth 100000
open Go.RowKit K
set_option linter.unusedVariables false

theorem grow_of {r : Ru} {T : Nat} {who ratio : Int} {w : World} {h : Nat} (hE : ∀ u, u < T → EAt w h (u * 3) ((u / ee r : Nat) : Int) (((xp r T).2.getD u 0 : Nat) : Int) (wgt who ratio (K.round r ((xp r T).1.getD (u / ee r) (K.start r))))) : Q.GRow w (some ⟨h, 0, none⟩) (esG r T who ratio) := .inr ⟨h, 0, rfl, fun j hj => by
  rw [List.length_map, esG_len] at hj
  rw [Q.ed_up (by rw [esG_len]; exact hj), esG_eg hj, Nat.zero_add]
  obtain ⟨a, b, c⟩ := hE j hj
  exact ⟨a, b, c⟩⟩
theorem gr_row {r : Ru} {who ratio : Int} {T : Nat} (hg : Rg who ratio) (ok : wrong r = 0) (hT : Dn r T) {n : Nat} (hn : (xp r T).1.length = n) (v : World) :
    Calls Tryz.prog 59 #[.agg #[.int .i64 r.k0, .int .i64 r.k1, .int .i64 r.r, .int .i64 r.m, .int .i64 r.j], .int .i64 who, .int .i64 ratio] v fun e w' => ∃ h cp, e = .returned (.tuple #[.agg #[.int .i64 (n : Int), .slice (some ⟨h, 0, none⟩) T cp], .int .i64 0]) ∧ Q.GRow w' (some ⟨h, 0, none⟩) (esG r T who ratio) ∧ Below v.heap.size v w' := by
  refine (grS r T who ratio ok hT hg.1 hg.2 v).mono ?_
  rintro e w' ⟨h, cp, rfl, _, hE, b⟩
  exact ⟨h, cp, by rw [hn], grow_of hE, b⟩

theorem judge_err {r : Ru} {who ratio E : Int} (h : Je r who ratio E) (w : World) :
    Calls Tryz.prog 44 #[.agg #[.int .i64 r.k0, .int .i64 r.k1, .int .i64 r.r, .int .i64 r.m, .int .i64 r.j], .int .i64 who, .int .i64 ratio] w fun e w' => e = .returned (.tuple #[.agg #[.int .i64 0, .int .i64 0, .slice none 0 0, .slice none 0 0], .int .i64 E]) ∧ Below w.heap.size w w' := by
  refine judge_err_go r who ratio E h.ne w ?_
  rcases h with ⟨hn, rfl⟩ | ⟨hg, ⟨hw, he⟩ | ⟨hw, hF, rfl⟩⟩
  · exact gr_range r who ratio hn
  · exact gr_wrong r E who ratio hw he hg.1 hg.2
  · exact grF r who ratio hw hF hg.1 hg.2

theorem judge_bnd {r : Ru} {who ratio : Int} {T : Nat} {d : Nat → Int} (h : Jb r who ratio T d) (w : World) :
    Calls Tryz.prog 44 #[.agg #[.int .i64 r.k0, .int .i64 r.k1, .int .i64 r.r, .int .i64 r.m, .int .i64 r.j], .int .i64 who, .int .i64 ratio] w fun e w' => e = .returned (.tuple #[.agg #[.int .i64 1, .int .i64 (mx d (xp r T).1.length), .slice none 0 0, .slice none 0 0], .int .i64 0]) ∧ Below w.heap.size w w' := by
  have hG := gph (who := who) h.ok h.dn h.rg.2
  have h1 : 0 < (xp r T).1.length := (dn_pos h.dn).1
  refine judge_bnd_go r who ratio (xp r T).1.length T (esG r T who ratio) d _ w (gr_row h.rg h.ok h.dn rfl) (fun v g cp hE => ?_) (fun v M hM => ?_)
  · refine (Q.most_yes _ _ hG (some ⟨g, 0, none⟩) cp T (esG_len r T who ratio) h.mst.noPos v hE).mono ?_
    rintro e w' ⟨M, d', rfl, hc, hm, b⟩
    exact ⟨M, rfl, hc.ext fun j _ => h.mst.same hm j, b⟩
  · exact max_any M _ _ d h1 h.dn.2.2 h.mst.2.1 v hM

theorem judge_stv {r : Ru} {who ratio : Int} {T : Nat} (h : Js r who ratio T) (w : World) :
    Calls Tryz.prog 44 #[.agg #[.int .i64 r.k0, .int .i64 r.k1, .int .i64 r.r, .int .i64 r.m, .int .i64 r.j], .int .i64 who, .int .i64 ratio] w fun e w' => ∃ a na ca b nb cb A C, e = .returned (.tuple #[.agg #[.int .i64 2, .int .i64 0, .slice a na ca, .slice b nb cb], .int .i64 0]) ∧ Sv r who ratio A C ∧ A.length = na ∧ C.length = nb ∧ VRow w' a A ∧ VRow w' b C ∧ Below w.heap.size w w' := by
  have hG := gph (who := who) h.ok h.dn h.rg.2
  refine judge_stv_go r who ratio (xp r T).1.length T (esG r T who ratio) w (gr_row h.rg h.ok h.dn rfl) (fun v g cp hE => Q.most_no _ _ hG (some ⟨g, 0, none⟩) cp T (esG_len r T who ratio) h.pos v hE) (fun v hh cp hE => ?_)
  refine (Q.cycle_no _ _ hG (some ⟨hh, 0, none⟩) cp T (esG_len r T who ratio) h.pos v hE).mono ?_
  rintro e w' ⟨g, p, c, R, rfl, hR, hpc, hC, b⟩
  have h0 := (hR.wok 0 hR.p1).1
  rw [esG_len] at h0
  have hi := (ed_is h.dn who ratio h0).1
  obtain ⟨l, hL⟩ := ld_some h.dn.1 (R 0 / ee r) hi
  obtain ⟨sv, _⟩ := sv_of h hR.p1 hR.pn hR.wok hR.ends hR.pos hL
  have n3 := h.dn.2.2
  have hp3 : p ≤ 300 := Nat.le_trans hR.pn n3
  have hrow := (hE.kept b).at (by rw [esG_len]; omega)
  obtain ⟨b', off, e', hx⟩ := hrow
  injection e' with e'
  injection e' with e1 e2 _
  subst e1 e2
  have hx0 := (hx (R 0) (by rw [esG_len]; exact h0)).1
  rw [esG_eg h0, Nat.zero_add] at hx0
  refine ⟨g, p, c, R 0, R 0 / ee r, fun v => Q.Cells v g p fun j => (R j : Int), rfl, fun v v' hv hb => hv.kept hb, hR.p1, hC.c 0 hR.p1, h0, hx0, hC, b, fun v hv => ?_⟩
  refine (ldS r T (R 0 / ee r) l h.ok h.dn hi hL v).mono ?_
  rintro e w2 ⟨ao, cp2, rfl, hV, hF, b2⟩
  refine ⟨ao, _, cp2, rfl, hF, b2, fun v' hv' hb' => ?_⟩
  refine (lates_of r (wrong_ok.1 h.ok).2 g c p R hp3 (fun j hj => ?_) v' hv').mono ?_
  · have := (hR.wok j hj).1
    have := hG.m4
    omega
  · rintro e w3 ⟨ao2, cp3, rfl, _, hV2, hF2, b3⟩
    exact ⟨ao2, p, cp3, rfl, hF2, b3, _, _, sv, by rw [List.length_map], lat_len r R p, (hV.kept hb').kept b3, hV2⟩

end Go.Proofs.YtjageagnclmnjabGreatDoor.D

namespace Go.Proofs.YtjageagnclmnjabGreatDoor.D
set_option maxRecDepth 100000
open Go.RowKit K
set_option linter.unusedVariables false

/-- what is told: the kind, the most, the error -/
def Jv (r : Ru) (who ratio k m E : Int) : Prop := (Je r who ratio E ∧ k = 0 ∧ m = 0) ∨ (∃ T d, Jb r who ratio T d ∧ k = 1 ∧ m = mx d (xp r T).1.length ∧ E = 0) ∨ ∃ T, Js r who ratio T ∧ k = 2 ∧ m = 0 ∧ E = 0
theorem judge_jv {r : Ru} {who ratio k m E : Int} (h : Jv r who ratio k m E) (w : World) :
    Calls Tryz.prog 44 #[.agg #[.int .i64 r.k0, .int .i64 r.k1, .int .i64 r.r, .int .i64 r.m, .int .i64 r.j], .int .i64 who, .int .i64 ratio] w fun e w' => ∃ a na ca b nb cb, e = .returned (.tuple #[.agg #[.int .i64 k, .int .i64 m, .slice a na ca, .slice b nb cb], .int .i64 E]) ∧ Below w.heap.size w w' := by
  rcases h with ⟨h, rfl, rfl⟩ | ⟨T, d, h, rfl, rfl, rfl⟩ | ⟨T, h, rfl, rfl, rfl⟩
  · exact (judge_err h w).mono fun e w' ⟨he, b⟩ => ⟨none, 0, 0, none, 0, 0, he, b⟩
  · exact (judge_bnd h w).mono fun e w' ⟨he, b⟩ => ⟨none, 0, 0, none, 0, 0, he, b⟩
  · exact (judge_stv h w).mono fun e w' ⟨a, na, ca, b, nb, cb, A, C, he, _, _, _, _, _, hb⟩ => ⟨a, na, ca, b, nb, cb, he, hb⟩
end Go.Proofs.YtjageagnclmnjabGreatDoor.D

namespace Go.Proofs.YtjageagnclmnjabGreatDoor.Q
set_option maxRecDepth 100000
set_option linter.unusedVariables false

/-- behind i edges of one more -/
def rx (es : List Eg) (g : Nat → Int) (i : Nat) (v : Nat) : Int := (es.take i).foldl (fun acc e => if e.t = v then max acc (g e.f + e.x) else acc) (g v)
theorem rx_zero (es : List Eg) (g : Nat → Int) (v : Nat) : rx es g 0 v = g v := rfl
theorem rx_all (es : List Eg) (g : Nat → Int) (v : Nat) : rx es g es.length v = relax es g v := by unfold rx relax; rw [List.take_length]
theorem rx_succ (es : List Eg) (g : Nat → Int) (i : Nat) (h : i < es.length) (v : Nat) : rx es g (i + 1) v = if (eg es i).t = v then max (rx es g i v) (g (eg es i).f + (eg es i).x) else rx es g i v := by
  have e : es.take (i + 1) = es.take i ++ [eg es i] := by
    rw [List.take_add_one, List.getElem?_eq_getElem h]
    unfold eg
    rw [List.getD_eq_getElem?_getD, List.getElem?_eq_getElem h]
    rfl
  unfold rx
  rw [e, List.foldl_append]
  rfl
theorem rx_range {es : List Eg} (hw : Wgt es) {g : Nat → Int} {B : Int} (hg : ∀ v, 0 ≤ g v ∧ g v ≤ B) (i : Nat) (hi : i ≤ es.length) (v : Nat) : 0 ≤ rx es g i v ∧ rx es g i v ≤ B + 1048576 := by
  induction i with
  | zero => have := hg v; rw [rx_zero]; omega
  | succ i ih =>
    rw [rx_succ _ _ _ (by omega)]
    have := ih (by omega)
    have := hg (eg es i).f
    have := hw _ (eg_mem (es := es) (i := i) (by omega))
    split <;> omega
theorem mo_range {es : List Eg} (hw : Wgt es) (k v : Nat) : 0 ≤ mo es k v ∧ mo es k v ≤ (k : Int) * 1048576 := by
  induction k generalizing v with
  | zero => exact ⟨Int.le_refl _, by show (0 : Int) ≤ _; omega⟩
  | succ k ih =>
    have := rx_range hw ih es.length (Nat.le_refl _) v
    rw [rx_all] at this
    show 0 ≤ relax es (mo es k) v ∧ relax es (mo es k) v ≤ _
    omega
end Go.Proofs.YtjageagnclmnjabGreatDoor.Q

namespace Go.Proofs.YtjageagnclmnjabGreatDoor.D
set_option maxRecDepth 100000
open Go.RowKit K
set_option linter.unusedVariables false

abbrev sStarves : ByteArray := ⟨#[115, 116, 97, 114, 118, 101, 115]⟩
abbrev sBounded : ByteArray := ⟨#[98, 111, 117, 110, 100, 101, 100]⟩
/-- a line -/
def ln (who k m : Int) : List UInt8 := if k = 2 then Lib.itoa who ++ 32 :: [115, 116, 97, 114, 118, 101, 115] else Lib.itoa who ++ 32 :: [98, 111, 117, 110, 100, 101, 100] ++ 32 :: Lib.itoa m
theorem below_grow (w : World) (k : Nat) (os : Array Obj) : Below w.heap.size w (Sort.grow (w.drewN k) os) :=
  ⟨rfl, rfl, rfl, by simp [Sort.grow], fun j hj => by
    show (w.heap ++ os)[j]? = w.heap[j]?
    rw [Array.getElem?_append_left hj]⟩
theorem itoa_any (n : Int) (h : -9223372036854775808 ≤ n ∧ n ≤ 9223372036854775807) (w : World) (L : Lw w) : Calls Tryz.prog 64 #[.int .i64 n] w fun e w' => e = .returned (.string ⟨(Lib.itoa n).toArray⟩) ∧ Below w.heap.size w w' := by
  refine (Tryz.strconv_Itoa n h.1 h.2 w L.tab).mono ?_
  rintro e w' ⟨rfl, k, os, rfl⟩
  exact ⟨rfl, below_grow _ _ _⟩

set_option maxHeartbeats 3200000 in
theorem line_of (who k m : Int) (a b : Option Addr) (na ca nb cb : Nat) (u d s1 s2 s3 s4 s5 : ByteArray) (w : World) (t : Bool) (ht : (k == 2) = t)
    (f0 : ∀ v, Lw v → Calls Tryz.prog 64 #[.int .i64 who] v fun e w' => e = .returned (.string u) ∧ Below v.heap.size v w')
    (f1 : ∀ v, Lw v → Calls Tryz.prog 64 #[.int .i64 m] v fun e w' => e = .returned (.string d) ∧ Below v.heap.size v w')
    (a1 : ∀ v, (Op.stringOp .add u ⟨#[32]⟩).run Tryz.prog v = .ok (.string s1) v) (a2 : ∀ v, (Op.stringOp .add s1 sStarves).run Tryz.prog v = .ok (.string s2) v)
    (a3 : ∀ v, (Op.stringOp .add s1 sBounded).run Tryz.prog v = .ok (.string s3) v) (a4 : ∀ v, (Op.stringOp .add s3 ⟨#[32]⟩).run Tryz.prog v = .ok (.string s4) v)
    (a5 : ∀ v, (Op.stringOp .add s4 d).run Tryz.prog v = .ok (.string s5) v) (L : Lw w) :
    Calls Tryz.prog 45 #[.int .i64 who, .agg #[.int .i64 k, .int .i64 m, .slice a na ca, .slice b nb cb]] w fun e w' => e = .returned (.string (if t then s2 else s5)) ∧ Below w.heap.size w w' := by
  have B : Below w.heap.size w (w.alloc (.cells #[.int .i64 k, .int .i64 m, .slice a na ca, .slice b nb cb] 74)) := balloc (Below.refl _ _) _
  replace L := L.kept B
  have c0 : (w.alloc (.cells #[.int .i64 k, .int .i64 m, .slice a na ca, .slice b nb cb] 74)).cell? ⟨w.heap.size, 0, none⟩ = some (.int .i64 k) := by rw [World.cell?_alloc_at _ _ _ _ rfl]; rfl
  have c1 : (w.alloc (.cells #[.int .i64 k, .int .i64 m, .slice a na ca, .slice b nb cb] 74)).cell? ⟨w.heap.size, 1, none⟩ = some (.int .i64 m) := by rw [World.cell?_alloc_at _ _ _ _ rfl]; rfl
  cases t
  all_goals
    go_enter Tryz.func45, Tryz.ntmps45
    go_wp2_with (first
      | (go_at_call 64; with_reducible refine (f0 _ L).mono ?_; clear f0; rintro e v1 ⟨rfl, b'⟩; replace c0 := (b'.cell (p := ⟨w.heap.size, 0, none⟩) (block_lt c0)).trans c0; replace c1 := (b'.cell (p := ⟨w.heap.size, 1, none⟩) (block_lt c1)).trans c1; replace L := L.kept b'; replace B := bthen B b'; clear b')
      | (go_at_call 64; with_reducible refine (f1 _ L).mono ?_; clear f1; rintro e v2 ⟨rfl, b'⟩; replace B := bthen B b'; clear b'))
    go_ret
    exact ⟨rfl, B⟩
theorem zadd (a b : ByteArray) (ha : a.size ≤ 1000) (hb : b.size ≤ 1000) (v : World) : (Op.stringOp .add a b).run Tryz.prog v = .ok (.string (a ++ b)) v := run_string_add_sum v a b (by omega)
theorem itoa_size (n : Int) (h : -9223372036854775808 ≤ n ∧ n ≤ 9223372036854775807) : (ByteArray.mk (Lib.itoa n).toArray).size ≤ 21 := by
  show (Lib.itoa n).toArray.size ≤ 21
  rw [List.size_toArray]
  exact Lib.itoa_length_le n h.1 h.2
theorem line_any (who k m : Int) (hw : 0 ≤ who ∧ who ≤ 1) (hm : 0 ≤ m ∧ m ≤ 1099511627776) (a b : Option Addr) (na ca nb cb : Nat) (w : World) (L : Lw w) :
    Calls Tryz.prog 45 #[.int .i64 who, .agg #[.int .i64 k, .int .i64 m, .slice a na ca, .slice b nb cb]] w fun e w' => e = .returned (.string ⟨(ln who k m).toArray⟩) ∧ Below w.heap.size w w' := by
  have z0 := itoa_size who (by omega)
  have z1 := itoa_size m (by omega)
  have sb : (ByteArray.mk #[32]).size = 1 := rfl
  have ss : sStarves.size = 7 := rfl
  have sc : sBounded.size = 7 := rfl
  have z := line_of who k m a b na ca nb cb ⟨(Lib.itoa who).toArray⟩ ⟨(Lib.itoa m).toArray⟩ _ _ _ _ _ w _ rfl (fun v l => itoa_any who (by omega) v l) (fun v l => itoa_any m (by omega) v l)
    (zadd _ _ (by omega) (by omega)) (zadd _ _ (by simp only [ByteArray.size_append]; omega) (by omega)) (zadd _ _ (by simp only [ByteArray.size_append]; omega) (by omega)) (zadd _ _ (by simp only [ByteArray.size_append]; omega) (by omega)) (zadd _ _ (by simp only [ByteArray.size_append]; omega) (by omega)) L
  refine z.mono ?_
  rintro e w' ⟨rfl, b'⟩
  refine ⟨?_, b'⟩
  congr 2
  refine bytes_is ?_
  unfold ln
  by_cases hk : k = 2
  · rw [if_pos hk, if_pos (by simpa using hk)]
    simp [ByteArray.data_append]
  · rw [if_neg hk, if_neg (by simpa using hk)]
    simp [ByteArray.data_append]
theorem mx_le_all {d : Nat → Int} {B : Int} (h0 : 0 ≤ B) (h : ∀ v, d v ≤ B) : ∀ n, 0 ≤ mx d n ∧ mx d n ≤ B
  | 0 => ⟨Int.le_refl _, h0⟩
  | n + 1 => by
    have := mx_le_all h0 h n
    have := h n
    show 0 ≤ max (mx d n) (d n) ∧ max (mx d n) (d n) ≤ B
    omega
theorem Jb.most {r : Ru} {who ratio : Int} {T : Nat} {d : Nat → Int} (h : Jb r who ratio T d) (n : Nat) : 0 ≤ mx d n ∧ mx d n ≤ 1099511627776 := by
  have G := gph (who := who) h.ok h.dn h.rg.2
  obtain ⟨k, hk, hs⟩ := (Q.still_iff G.inn).2 h.mst.noPos
  have hM : Q.Mst (esG r T who ratio) (Q.mo (esG r T who ratio) k) := ⟨Q.still_pots hs, fun v => Q.mo_nonneg _ k v, fun v => by obtain ⟨u, l, g1, _, g3⟩ := Q.mo_got _ k v; exact ⟨u, l, g1, g3⟩⟩
  have hn := h.dn.2.2
  refine mx_le_all (by omega) (fun v => ?_) n
  rw [h.mst.same hM v]
  have := (Q.mo_range G.wgt k v).2
  omega
theorem Jv.most {r : Ru} {who ratio k m E : Int} (h : Jv r who ratio k m E) : 0 ≤ m ∧ m ≤ 1099511627776 := by
  rcases h with ⟨h, rfl, rfl⟩ | ⟨T, d, h, rfl, rfl, rfl⟩ | ⟨T, h, rfl, rfl, rfl⟩
  · omega
  · exact h.most _
  · omega
end Go.Proofs.YtjageagnclmnjabGreatDoor.D
