/- PROVED: what lies in memory while link.Pass goes along the row of packets. CONDITIONS: none beyond each theorem's own. -/
import Derived.Test.YtobgjnjndkfjoaaKIter
namespace Go.Proofs.Ytobgjnjndkfjoaa.K
open Go.RowKit Go.Shelf

/-- one number of the call's own, in block C -/
structure One (w : World) (C : Nat) (v : Int) : Prop where
  c : w.cell? ⟨C, 0, none⟩ = some (.int .i64 v)
  f : w.frozen? ⟨C, 0, none⟩ = false
theorem One.new (w : World) (C : Nat) (hC : C = w.heap.size) (v : Int) : One (w.alloc (.cells #[.int .i64 v] 3)) C v := by
  subst hC
  constructor
  all_goals first
    | (rw [World.cell?_alloc_at _ _ _ _ rfl]; rfl)
    | (rw [World.frozen?_alloc_at _ _ _ _ rfl])
theorem One.kept {w w' : World} {C : Nat} {v : Int} (h : One w C v) (g : Below w.heap.size w w') : One w' C v := by
  have hl : C < w.heap.size := block_lt h.c
  exact ⟨(g.cell (p := ⟨C, 0, none⟩) hl).trans h.c, (g.frozen (p := ⟨C, 0, none⟩) hl).trans h.f⟩
theorem One.alloc {w : World} {C : Nat} {v : Int} (h : One w C v) (o : Obj) : One (w.alloc o) C v := h.kept (balloc (Below.refl _ _) o)
theorem One.far {w : World} {C D o : Nat} {v : Int} (h : One w C v) (hD : D ≠ C) (x : Value) : One (w.setCell ⟨D, o, none⟩ x) C v :=
  ⟨(World.cell?_setCell_other _ _ _ _ (fun p => hD (by injection p))).trans h.c, (World.frozen?_setCell _ _ _ _).trans h.f⟩
theorem One.set {w : World} {C : Nat} {v : Int} (h : One w C v) (x : Int) : One (w.setCell ⟨C, 0, none⟩ (.int .i64 x)) C x :=
  ⟨World.cell?_setCell_same _ _ _ h.c, (World.frozen?_setCell _ _ _ _).trans h.f⟩

theorem One.own {β : Type} (C : Nat) (v : β → Int) : Own (fun s W => One W C (v s)) := fun _ _ _ _ h hg hr => ⟨cell_kept h.c hg hr, (frozen_kept h.c hg hr).trans h.f⟩
theorem Arr.own {β : Type} (C : Nat) (a b : β → Int) : Own (fun s W => Arr W C (a s) (b s)) := fun _ _ _ _ h hg hr =>
  ⟨cell_kept h.c0 hg hr, cell_kept h.c1 hg hr, (frozen_kept h.c0 hg hr).trans h.f0, (frozen_kept h.c1 hg hr).trans h.f1⟩
theorem Rnd.own {β : Type} (C : Nat) (a b c d e f : β → Int) : Own (fun s W => Rnd W C (a s) (b s) (c s) (d s) (e s) (f s)) := fun _ _ _ _ h hg hr =>
  ⟨cell_kept h.c0 hg hr, cell_kept h.c1 hg hr, cell_kept h.c2 hg hr, cell_kept h.c3 hg hr, cell_kept h.c4 hg hr, cell_kept h.c5 hg hr,
    (frozen_kept h.c0 hg hr).trans h.f0, (frozen_kept h.c1 hg hr).trans h.f1, (frozen_kept h.c2 hg hr).trans h.f2, (frozen_kept h.c3 hg hr).trans h.f3, (frozen_kept h.c4 hg hr).trans h.f4, (frozen_kept h.c5 hg hr).trans h.f5⟩

/-- what lies there: the rate, the room, the row's place, what is told so far, and where it will be told -/
def At (w : World) (r m s t : Int) (L x0 x1 y0 y1 z0 z1 : Int) (W : World) : Prop :=
  ((One W w.heap.size r ∧ One W (w.heap.size + 1) m) ∧ (One W (w.heap.size + 1 + 1 + 1 + 1 + 1 + 1 + 1 + 1 + 1 + 1) L ∧ (Rnd W (w.heap.size + 1 + 1 + 1 + 1 + 1 + 1 + 1 + 1) s t x0 x1 y0 y1 ∧ (Arr W (w.heap.size + 1 + 1 + 1 + 1 + 1 + 1 + 1 + 1 + 1) z0 z1 ∧
    (Rnd W (w.heap.size + 1 + 1 + 1 + 1) 0 0 0 0 0 0 ∧ Arr W (w.heap.size + 1 + 1 + 1 + 1 + 1) 0 0))))) ∧ Below w.heap.size w W
theorem At.own {β : Type} (w : World) (r m s t : Int) (L x0 x1 y0 y1 z0 z1 : β → Int) (B : Nat) (hB : w.heap.size ≤ B) : OwnFrom B (fun p W => At w r m s t (L p) (x0 p) (x1 p) (y0 p) (y1 p) (z0 p) (z1 p) W) :=
  OwnFrom.and (OwnFrom.and (OwnFrom.and (Own.from (One.own _ (fun _ => r)) _) (Own.from (One.own _ (fun _ => m)) _)) (OwnFrom.and (Own.from (One.own _ L) _) (OwnFrom.and (Own.from (Rnd.own _ (fun _ => s) (fun _ => t) x0 x1 y0 y1) _) (OwnFrom.and (Own.from (Arr.own _ z0 z1) _)
    (OwnFrom.and (Own.from (Rnd.own _ (fun _ => 0) (fun _ => 0) (fun _ => 0) (fun _ => 0) (fun _ => 0) (fun _ => 0)) _) (Own.from (Arr.own _ (fun _ => 0) (fun _ => 0)) _)))))) (ownFrom_below (Nat.le_refl _) hB)

/-- one number more, and one place further -/
theorem At.put {w W : World} {r m s t L x0 x1 y0 y1 z0 z1 x0' x1' y0' y1' z0' z1' : Int} (h : At w r m s t L x0 x1 y0 y1 z0 z1 W) (D o : Nat) (v : Int)
    (hD : D = w.heap.size + 1 + 1 + 1 + 1 + 1 + 1 + 1 + 1 ∨ D = w.heap.size + 1 + 1 + 1 + 1 + 1 + 1 + 1 + 1 + 1)
    (hR : Rnd (W.setCell ⟨D, o, none⟩ (.int .i64 v)) (w.heap.size + 1 + 1 + 1 + 1 + 1 + 1 + 1 + 1) s t x0' x1' y0' y1') (hA : Arr (W.setCell ⟨D, o, none⟩ (.int .i64 v)) (w.heap.size + 1 + 1 + 1 + 1 + 1 + 1 + 1 + 1 + 1) z0' z1') (N : Nat) (u : Int) (hu : u = L + 1) :
    KeepsFrom N W ((W.setCell ⟨D, o, none⟩ (.int .i64 v)).setCell ⟨w.heap.size + 1 + 1 + 1 + 1 + 1 + 1 + 1 + 1 + 1 + 1, 0, none⟩ (.int .i64 u)) ∧
    Keep (w.heap.size + 1 + 1 + 1 + 1 + 1 + 1 + 1 + 1 + 1 + 1 + 1) (w.heap.size + 1 + 1 + 1 + 1 + 1 + 1 + 1 + 1 + 1 + 1 + 1 + 1) W ((W.setCell ⟨D, o, none⟩ (.int .i64 v)).setCell ⟨w.heap.size + 1 + 1 + 1 + 1 + 1 + 1 + 1 + 1 + 1 + 1, 0, none⟩ (.int .i64 u)) ∧
    At w r m s t (L + 1) x0' x1' y0' y1' z0' z1' ((W.setCell ⟨D, o, none⟩ (.int .i64 v)).setCell ⟨w.heap.size + 1 + 1 + 1 + 1 + 1 + 1 + 1 + 1 + 1 + 1, 0, none⟩ (.int .i64 u)) := by
  subst hu
  obtain ⟨⟨⟨h1, h2⟩, h3, h4, h5, h6, h7⟩, hb⟩ := h
  refine ⟨((KeepsOthers.setCell _ _ _).trans (KeepsOthers.setCell _ _ _)).from _, ⟨fun j => ?_, fun j => ?_⟩, ⟨⟨(h1.far (by omega) _).far (by omega) _, (h2.far (by omega) _).far (by omega) _⟩, (h3.far (by omega) _).set _, hR.far (by omega) _, hA.far (by omega) _, (h6.far (by omega) _).far (by omega) _, (h7.far (by omega) _).far (by omega) _⟩, ?_⟩
  · exact (World.cell?_setCell_other _ _ _ _ (fun p => by injection p; omega)).trans (World.cell?_setCell_other _ _ _ _ (fun p => by injection p; omega))
  · exact (World.cell?_setCell_other _ _ _ _ (fun p => by injection p; omega)).trans (World.cell?_setCell_other _ _ _ _ (fun p => by injection p; omega))
  · exact (hb.setCell (p := ⟨D, o, none⟩) (by simp; omega) _).setCell (p := ⟨w.heap.size + 1 + 1 + 1 + 1 + 1 + 1 + 1 + 1 + 1 + 1, 0, none⟩) (by simp; omega) _

/-- the world ahead of the row -/
def begun (w : World) (r m a b s t : Int) : World :=
  ((((((((((((w.alloc (.cells #[.int .i64 r] 3)).alloc (.cells #[.int .i64 m] 3)).alloc (.cells #[.int .i64 a, .int .i64 b] 22)).alloc (.cells #[.int .i64 s, .int .i64 t] 22)).alloc
    (.cells #[.int .i64 0, .int .i64 0, .int .i64 0, .int .i64 0, .int .i64 0, .int .i64 0] 34)).alloc (.cells #[.int .i64 0, .int .i64 0] 22)).alloc (.cells #[.int .i64 a, .int .i64 b] 22)).alloc (.cells #[.int .i64 s, .int .i64 t] 22)).alloc
    (.cells #[.int .i64 s, .int .i64 t, .int .i64 0, .int .i64 0, .int .i64 0, .int .i64 0] 34)).alloc (.cells #[.int .i64 0, .int .i64 0] 22)).alloc (.cells #[.int .i64 0] 3)).alloc (.cells #[.int .i64 a, .int .i64 b] 22)).alloc (.cells #[.int .i64 s, .int .i64 t] 22)
theorem begun_at (w : World) (r m a b s t : Int) :
    (begun w r m a b s t).heap.size = w.heap.size + 13 ∧ At w r m s t 0 0 0 0 0 0 0 (begun w r m a b s t) ∧ Arr (begun w r m a b s t) (w.heap.size + 1 + 1 + 1 + 1 + 1 + 1 + 1 + 1 + 1 + 1 + 1) a b ∧ Arr (begun w r m a b s t) (w.heap.size + 1 + 1 + 1 + 1 + 1 + 1 + 1 + 1 + 1 + 1 + 1 + 1) s t := by
  unfold begun
  refine ⟨?_, ⟨⟨⟨?_, ?_⟩, ?_, ?_, ?_, ?_, ?_⟩, ?_⟩, ?_, ?_⟩
  · simp
  · repeat (first | (refine One.new _ _ ?_ _; simp; done) | refine One.alloc ?_ _)
  · repeat (first | (refine One.new _ _ ?_ _; simp; done) | refine One.alloc ?_ _)
  · repeat (first | (refine One.new _ _ ?_ _; simp; done) | refine One.alloc ?_ _)
  · repeat (first | (refine Rnd.new _ _ ?_ _ _ _ _ _ _; simp; done) | refine Rnd.alloc ?_ _)
  · repeat (first | (refine Arr.new _ _ ?_ _ _; simp; done) | refine Arr.alloc ?_ _)
  · repeat (first | (refine Rnd.new _ _ ?_ _ _ _ _ _ _; simp; done) | refine Rnd.alloc ?_ _)
  · repeat (first | (refine Arr.new _ _ ?_ _ _; simp; done) | refine Arr.alloc ?_ _)
  · repeat (first | exact Below.refl _ _ | refine balloc ?_ _)
  · repeat (first | (refine Arr.new _ _ ?_ _ _; simp; done) | refine Arr.alloc ?_ _)
  · repeat (first | (refine Arr.new _ _ ?_ _ _; simp; done) | refine Arr.alloc ?_ _)

end Go.Proofs.Ytobgjnjndkfjoaa.K
