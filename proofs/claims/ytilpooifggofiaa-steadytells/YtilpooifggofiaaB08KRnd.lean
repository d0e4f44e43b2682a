/- PROVED: what lies in memory: a pair of numbers of the call's own; what keeps it. what is told of a round, of the call's own, in memory: its six cells. CONDITIONS: none beyond each theorem's own. -/
import Derived.Test.YtilpooifggofiaaRows
import Derived.Test.YtilpooifggofiaaB03KNums
import Derived.WalkKit
import Derived.Lib.MinMax
import Derived.Lib.SlicesMore
import Derived.Deep.Draws
import Derived.WalkSpells
import Derived.WalkLawsBesides
import Derived.Deep.QuietTactic
import Derived.BigQuiet
import Derived.ArgAppend
import Derived.Deep.LoopGhost
import Derived.Deep.OwnRows
namespace Go.Proofs.Ytilpooifggofiaa.K
open Go.RowKit

theorem ret_int {k : IntKind} {a b : Int} (h : a = b) : Ending.returned (.int k a) = .returned (.int k b) := by rw [h]

theorem below_drewN {B : Nat} {w w1 : World} (h : Below B w w1) (n : Nat) : Below B w (w1.drewN n) := by
  induction n with
  | zero => exact h
  | succ n ih => exact Below.drew ih
theorem block_lt {w : World} {a : Addr} {v : Value} (h : w.cell? a = some v) : a.block < w.heap.size := by
  rcases Nat.lt_or_ge a.block w.heap.size with k | k
  · exact k
  · simp [World.cell?, Array.getElem?_eq_none k] at h
theorem bthen {w w1 w2 : World} (h : Below w.heap.size w w1) (k : Below w1.heap.size w1 w2) : Below w.heap.size w w2 := h.trans (k.mono h.size)
theorem balloc {w w1 : World} (h : Below w.heap.size w w1) (o : Obj) : Below w.heap.size w (w1.alloc o) := h.alloc h.size o

/-- a pair of numbers of the call's own, in block C -/
structure Arr (w : World) (C : Nat) (a b : Int) : Prop where
  c0 : w.cell? ⟨C, 0, none⟩ = some (.int .i64 a)
  c1 : w.cell? ⟨C, 1, none⟩ = some (.int .i64 b)
  f0 : w.frozen? ⟨C, 0, none⟩ = false
  f1 : w.frozen? ⟨C, 1, none⟩ = false
theorem Arr.new (w : World) (C : Nat) (hC : C = w.heap.size) (a b : Int) : Arr (w.alloc (.cells #[.int .i64 a, .int .i64 b] 22)) C a b := by
  subst hC
  constructor
  all_goals first
    | (rw [World.cell?_alloc_at _ _ _ _ rfl]; rfl)
    | (rw [World.frozen?_alloc_at _ _ _ _ rfl])
theorem Arr.same {w w' : World} {C : Nat} {a b : Int} (h : Arr w C a b) (e : ∀ o, w'.cell? ⟨C, o, none⟩ = w.cell? ⟨C, o, none⟩) (f : ∀ o, w'.frozen? ⟨C, o, none⟩ = w.frozen? ⟨C, o, none⟩) : Arr w' C a b :=
  ⟨(e 0).trans h.c0, (e 1).trans h.c1, (f 0).trans h.f0, (f 1).trans h.f1⟩
theorem Arr.kept {w w' : World} {C : Nat} {a b : Int} (h : Arr w C a b) (g : Below w.heap.size w w') : Arr w' C a b := by
  have hl : C < w.heap.size := block_lt h.c0
  exact h.same (fun o => g.cell (p := ⟨C, o, none⟩) hl) (fun o => g.frozen (p := ⟨C, o, none⟩) hl)
theorem Arr.alloc {w : World} {C : Nat} {a b : Int} (h : Arr w C a b) (o : Obj) : Arr (w.alloc o) C a b := h.kept (balloc (Below.refl _ _) o)
theorem Arr.drewN {w : World} {C : Nat} {a b : Int} (h : Arr w C a b) (m : Nat) : Arr (w.drewN m) C a b := h.kept (below_drewN (Below.refl _ _) m)
theorem Arr.set0 {w : World} {C : Nat} {a b : Int} (h : Arr w C a b) (x : Int) : Arr (w.setCell ⟨C, 0, none⟩ (.int .i64 x)) C x b :=
  ⟨World.cell?_setCell_same _ _ _ h.c0, (World.cell?_setCell_other _ _ _ _ (by simp)).trans h.c1, (World.frozen?_setCell _ _ _ _).trans h.f0, (World.frozen?_setCell _ _ _ _).trans h.f1⟩
theorem Arr.set1 {w : World} {C : Nat} {a b : Int} (h : Arr w C a b) (x : Int) : Arr (w.setCell ⟨C, 1, none⟩ (.int .i64 x)) C a x :=
  ⟨(World.cell?_setCell_other _ _ _ _ (by simp)).trans h.c0, World.cell?_setCell_same _ _ _ h.c1, (World.frozen?_setCell _ _ _ _).trans h.f0, (World.frozen?_setCell _ _ _ _).trans h.f1⟩
theorem Arr.far {w : World} {C D o : Nat} {a b : Int} (h : Arr w C a b) (hD : D ≠ C) (v : Value) : Arr (w.setCell ⟨D, o, none⟩ v) C a b :=
  h.same (fun _ => World.cell?_setCell_other _ _ _ _ (fun p => hD (by injection p))) (fun _ => World.frozen?_setCell _ _ _ _)

end Go.Proofs.Ytilpooifggofiaa.K

namespace Go.Proofs.Ytilpooifggofiaa.K
open Go.RowKit

/-- what is told of a round, of the call's own, in block C -/
structure Rnd (w : World) (C : Nat) (k n b a s q : Int) : Prop where
  c0 : w.cell? ⟨C, 0, none⟩ = some (.int .i64 k)
  c1 : w.cell? ⟨C, 1, none⟩ = some (.int .i64 n)
  c2 : w.cell? ⟨C, 2, none⟩ = some (.int .i64 b)
  c3 : w.cell? ⟨C, 3, none⟩ = some (.int .i64 a)
  c4 : w.cell? ⟨C, 4, none⟩ = some (.int .i64 s)
  c5 : w.cell? ⟨C, 5, none⟩ = some (.int .i64 q)
  f0 : w.frozen? ⟨C, 0, none⟩ = false
  f1 : w.frozen? ⟨C, 1, none⟩ = false
  f2 : w.frozen? ⟨C, 2, none⟩ = false
  f3 : w.frozen? ⟨C, 3, none⟩ = false
  f4 : w.frozen? ⟨C, 4, none⟩ = false
  f5 : w.frozen? ⟨C, 5, none⟩ = false
theorem Rnd.new (w : World) (C : Nat) (hC : C = w.heap.size) (k n b a s q : Int) : Rnd (w.alloc (.cells #[.int .i64 k, .int .i64 n, .int .i64 b, .int .i64 a, .int .i64 s, .int .i64 q] 62)) C k n b a s q := by
  subst hC
  constructor
  all_goals first
    | (rw [World.cell?_alloc_at _ _ _ _ rfl]; rfl)
    | (rw [World.frozen?_alloc_at _ _ _ _ rfl])
theorem Rnd.kept {w w' : World} {C : Nat} {k n b a s q : Int} (h : Rnd w C k n b a s q) (g : Below w.heap.size w w') : Rnd w' C k n b a s q := by
  have hl : C < w.heap.size := block_lt h.c0
  have e : ∀ o, w'.cell? ⟨C, o, none⟩ = w.cell? ⟨C, o, none⟩ := fun o => g.cell (p := ⟨C, o, none⟩) hl
  have f : ∀ o, w'.frozen? ⟨C, o, none⟩ = w.frozen? ⟨C, o, none⟩ := fun o => g.frozen (p := ⟨C, o, none⟩) hl
  exact ⟨(e 0).trans h.c0, (e 1).trans h.c1, (e 2).trans h.c2, (e 3).trans h.c3, (e 4).trans h.c4, (e 5).trans h.c5, (f 0).trans h.f0, (f 1).trans h.f1, (f 2).trans h.f2, (f 3).trans h.f3, (f 4).trans h.f4, (f 5).trans h.f5⟩
theorem Rnd.alloc {w : World} {C : Nat} {k n b a s q : Int} (h : Rnd w C k n b a s q) (o : Obj) : Rnd (w.alloc o) C k n b a s q := h.kept (balloc (Below.refl _ _) o)
theorem Rnd.drewN {w : World} {C : Nat} {k n b a s q : Int} (h : Rnd w C k n b a s q) (m : Nat) : Rnd (w.drewN m) C k n b a s q := h.kept (below_drewN (Below.refl _ _) m)
theorem Rnd.set1 {w : World} {C : Nat} {k n b a s q : Int} (h : Rnd w C k n b a s q) (v : Int) : Rnd (w.setCell ⟨C, 1, none⟩ (.int .i64 v)) C k v b a s q :=
  ⟨(World.cell?_setCell_other _ _ _ _ (by simp)).trans h.c0, World.cell?_setCell_same _ _ _ h.c1, (World.cell?_setCell_other _ _ _ _ (by simp)).trans h.c2, (World.cell?_setCell_other _ _ _ _ (by simp)).trans h.c3, (World.cell?_setCell_other _ _ _ _ (by simp)).trans h.c4, (World.cell?_setCell_other _ _ _ _ (by simp)).trans h.c5,
    (World.frozen?_setCell _ _ _ _).trans h.f0, (World.frozen?_setCell _ _ _ _).trans h.f1, (World.frozen?_setCell _ _ _ _).trans h.f2, (World.frozen?_setCell _ _ _ _).trans h.f3, (World.frozen?_setCell _ _ _ _).trans h.f4, (World.frozen?_setCell _ _ _ _).trans h.f5⟩
theorem Rnd.set2 {w : World} {C : Nat} {k n b a s q : Int} (h : Rnd w C k n b a s q) (v : Int) : Rnd (w.setCell ⟨C, 2, none⟩ (.int .i64 v)) C k n v a s q :=
  ⟨(World.cell?_setCell_other _ _ _ _ (by simp)).trans h.c0, (World.cell?_setCell_other _ _ _ _ (by simp)).trans h.c1, World.cell?_setCell_same _ _ _ h.c2, (World.cell?_setCell_other _ _ _ _ (by simp)).trans h.c3, (World.cell?_setCell_other _ _ _ _ (by simp)).trans h.c4, (World.cell?_setCell_other _ _ _ _ (by simp)).trans h.c5,
    (World.frozen?_setCell _ _ _ _).trans h.f0, (World.frozen?_setCell _ _ _ _).trans h.f1, (World.frozen?_setCell _ _ _ _).trans h.f2, (World.frozen?_setCell _ _ _ _).trans h.f3, (World.frozen?_setCell _ _ _ _).trans h.f4, (World.frozen?_setCell _ _ _ _).trans h.f5⟩
theorem Rnd.far {w : World} {C D o : Nat} {k n b a s q : Int} (h : Rnd w C k n b a s q) (hD : D ≠ C) (v : Value) : Rnd (w.setCell ⟨D, o, none⟩ v) C k n b a s q := by
  have e : ∀ i, (w.setCell ⟨D, o, none⟩ v).cell? ⟨C, i, none⟩ = w.cell? ⟨C, i, none⟩ := fun i => World.cell?_setCell_other _ _ _ _ (fun p => hD (by injection p))
  have f : ∀ i, (w.setCell ⟨D, o, none⟩ v).frozen? ⟨C, i, none⟩ = w.frozen? ⟨C, i, none⟩ := fun i => World.frozen?_setCell _ _ _ _
  exact ⟨(e 0).trans h.c0, (e 1).trans h.c1, (e 2).trans h.c2, (e 3).trans h.c3, (e 4).trans h.c4, (e 5).trans h.c5, (f 0).trans h.f0, (f 1).trans h.f1, (f 2).trans h.f2, (f 3).trans h.f3, (f 4).trans h.f4, (f 5).trans h.f5⟩

theorem Rnd.set0 {w : World} {C : Nat} {k n b a s q : Int} (h : Rnd w C k n b a s q) (v : Int) : Rnd (w.setCell ⟨C, 0, none⟩ (.int .i64 v)) C v n b a s q :=
  ⟨World.cell?_setCell_same _ _ _ h.c0, (World.cell?_setCell_other _ _ _ _ (by simp)).trans h.c1, (World.cell?_setCell_other _ _ _ _ (by simp)).trans h.c2, (World.cell?_setCell_other _ _ _ _ (by simp)).trans h.c3, (World.cell?_setCell_other _ _ _ _ (by simp)).trans h.c4, (World.cell?_setCell_other _ _ _ _ (by simp)).trans h.c5,
    (World.frozen?_setCell _ _ _ _).trans h.f0, (World.frozen?_setCell _ _ _ _).trans h.f1, (World.frozen?_setCell _ _ _ _).trans h.f2, (World.frozen?_setCell _ _ _ _).trans h.f3, (World.frozen?_setCell _ _ _ _).trans h.f4, (World.frozen?_setCell _ _ _ _).trans h.f5⟩
theorem Rnd.set3 {w : World} {C : Nat} {k n b a s q : Int} (h : Rnd w C k n b a s q) (v : Int) : Rnd (w.setCell ⟨C, 3, none⟩ (.int .i64 v)) C k n b v s q :=
  ⟨(World.cell?_setCell_other _ _ _ _ (by simp)).trans h.c0, (World.cell?_setCell_other _ _ _ _ (by simp)).trans h.c1, (World.cell?_setCell_other _ _ _ _ (by simp)).trans h.c2, World.cell?_setCell_same _ _ _ h.c3, (World.cell?_setCell_other _ _ _ _ (by simp)).trans h.c4, (World.cell?_setCell_other _ _ _ _ (by simp)).trans h.c5,
    (World.frozen?_setCell _ _ _ _).trans h.f0, (World.frozen?_setCell _ _ _ _).trans h.f1, (World.frozen?_setCell _ _ _ _).trans h.f2, (World.frozen?_setCell _ _ _ _).trans h.f3, (World.frozen?_setCell _ _ _ _).trans h.f4, (World.frozen?_setCell _ _ _ _).trans h.f5⟩
theorem Rnd.set4 {w : World} {C : Nat} {k n b a s q : Int} (h : Rnd w C k n b a s q) (v : Int) : Rnd (w.setCell ⟨C, 4, none⟩ (.int .i64 v)) C k n b a v q :=
  ⟨(World.cell?_setCell_other _ _ _ _ (by simp)).trans h.c0, (World.cell?_setCell_other _ _ _ _ (by simp)).trans h.c1, (World.cell?_setCell_other _ _ _ _ (by simp)).trans h.c2, (World.cell?_setCell_other _ _ _ _ (by simp)).trans h.c3, World.cell?_setCell_same _ _ _ h.c4, (World.cell?_setCell_other _ _ _ _ (by simp)).trans h.c5,
    (World.frozen?_setCell _ _ _ _).trans h.f0, (World.frozen?_setCell _ _ _ _).trans h.f1, (World.frozen?_setCell _ _ _ _).trans h.f2, (World.frozen?_setCell _ _ _ _).trans h.f3, (World.frozen?_setCell _ _ _ _).trans h.f4, (World.frozen?_setCell _ _ _ _).trans h.f5⟩
theorem Rnd.set5 {w : World} {C : Nat} {k n b a s q : Int} (h : Rnd w C k n b a s q) (v : Int) : Rnd (w.setCell ⟨C, 5, none⟩ (.int .i64 v)) C k n b a s v :=
  ⟨(World.cell?_setCell_other _ _ _ _ (by simp)).trans h.c0, (World.cell?_setCell_other _ _ _ _ (by simp)).trans h.c1, (World.cell?_setCell_other _ _ _ _ (by simp)).trans h.c2, (World.cell?_setCell_other _ _ _ _ (by simp)).trans h.c3, (World.cell?_setCell_other _ _ _ _ (by simp)).trans h.c4, World.cell?_setCell_same _ _ _ h.c5,
    (World.frozen?_setCell _ _ _ _).trans h.f0, (World.frozen?_setCell _ _ _ _).trans h.f1, (World.frozen?_setCell _ _ _ _).trans h.f2, (World.frozen?_setCell _ _ _ _).trans h.f3, (World.frozen?_setCell _ _ _ _).trans h.f4, (World.frozen?_setCell _ _ _ _).trans h.f5⟩
theorem Rnd.put {w : World} {C : Nat} {k n b a s q : Int} (h : Rnd w C k n b a s q) (k' n' b' a' s' q' : Int) : Rnd ((((((w.setCell ⟨C, 0, none⟩ (.int .i64 k')).setCell ⟨C, 1, none⟩ (.int .i64 n')).setCell ⟨C, 2, none⟩ (.int .i64 b')).setCell ⟨C, 3, none⟩ (.int .i64 a')).setCell ⟨C, 4, none⟩ (.int .i64 s')).setCell ⟨C, 5, none⟩ (.int .i64 q')) C k' n' b' a' s' q' :=
  (((((h.set0 k').set1 n').set2 b').set3 a').set4 s').set5 q'
theorem Rnd.drew {w : World} {C : Nat} {k n b a s q : Int} (h : Rnd w C k n b a s q) : Rnd w.drew C k n b a s q := h.kept (Below.drew (Below.refl _ _))
/-- one step of a walk that is not taken yet -/
theorem tok : Hid True := trivial
/-- what is behind a call at a world that had one control more -/
theorem up1 {w w1 : World} {o : Obj} (h : Below (w.alloc o).heap.size (w.alloc o) w1) : Below w.heap.size w w1 := bthen (balloc (Below.refl _ _) o) h


end Go.Proofs.Ytilpooifggofiaa.K
