/- PROVED: what lies in memory: a pair of numbers of the call's own; what keeps it. CONDITIONS: none beyond each theorem's own. -/
import Derived.Test.YtjageagnclmnjaaDoorRows
import Derived.Test.YtjageagnclmnjaaDoorKPure
import Derived.WalkKit
import Derived.Lib.MinMax
import Derived.Lib.SlicesMore
import Derived.Deep.Draws
import Derived.WalkSpells
import Derived.WalkLawsBesides
import Derived.Deep.QuietTactic
import Derived.BigQuiet
import Derived.ArgAppend
import Derived.Deep.LoopGhost
import Derived.Deep.OwnRows
namespace Go.Proofs.YtjageagnclmnjaaDoor.K
open Go.RowKit

theorem ret_int {k : IntKind} {a b : Int} (h : a = b) : Ending.returned (.int k a) = .returned (.int k b) := by rw [h]

theorem below_drewN {B : Nat} {w w1 : World} (h : Below B w w1) (n : Nat) : Below B w (w1.drewN n) := by
  induction n with
  | zero => exact h
  | succ n ih => exact Below.drew ih
theorem block_lt {w : World} {a : Addr} {v : Value} (h : w.cell? a = some v) : a.block < w.heap.size := by
  rcases Nat.lt_or_ge a.block w.heap.size with k | k
  · exact k
  · simp [World.cell?, Array.getElem?_eq_none k] at h
theorem bthen {w w1 w2 : World} (h : Below w.heap.size w w1) (k : Below w1.heap.size w1 w2) : Below w.heap.size w w2 := h.trans (k.mono h.size)
theorem balloc {w w1 : World} (h : Below w.heap.size w w1) (o : Obj) : Below w.heap.size w (w1.alloc o) := h.alloc h.size o

/-- a pair of numbers of the call's own, in block C -/
structure Arr (w : World) (C : Nat) (a b : Int) : Prop where
  c0 : w.cell? ⟨C, 0, none⟩ = some (.int .i64 a)
  c1 : w.cell? ⟨C, 1, none⟩ = some (.int .i64 b)
  f0 : w.frozen? ⟨C, 0, none⟩ = false
  f1 : w.frozen? ⟨C, 1, none⟩ = false
theorem Arr.new (w : World) (C : Nat) (hC : C = w.heap.size) (a b : Int) : Arr (w.alloc (.cells #[.int .i64 a, .int .i64 b] 22)) C a b := by
  subst hC
  constructor
  all_goals first
    | (rw [World.cell?_alloc_at _ _ _ _ rfl]; rfl)
    | (rw [World.frozen?_alloc_at _ _ _ _ rfl])
theorem Arr.same {w w' : World} {C : Nat} {a b : Int} (h : Arr w C a b) (e : ∀ o, w'.cell? ⟨C, o, none⟩ = w.cell? ⟨C, o, none⟩) (f : ∀ o, w'.frozen? ⟨C, o, none⟩ = w.frozen? ⟨C, o, none⟩) : Arr w' C a b :=
  ⟨(e 0).trans h.c0, (e 1).trans h.c1, (f 0).trans h.f0, (f 1).trans h.f1⟩
theorem Arr.kept {w w' : World} {C : Nat} {a b : Int} (h : Arr w C a b) (g : Below w.heap.size w w') : Arr w' C a b := by
  have hl : C < w.heap.size := block_lt h.c0
  exact h.same (fun o => g.cell (p := ⟨C, o, none⟩) hl) (fun o => g.frozen (p := ⟨C, o, none⟩) hl)
theorem Arr.alloc {w : World} {C : Nat} {a b : Int} (h : Arr w C a b) (o : Obj) : Arr (w.alloc o) C a b := h.kept (balloc (Below.refl _ _) o)
theorem Arr.drewN {w : World} {C : Nat} {a b : Int} (h : Arr w C a b) (m : Nat) : Arr (w.drewN m) C a b := h.kept (below_drewN (Below.refl _ _) m)
theorem Arr.set0 {w : World} {C : Nat} {a b : Int} (h : Arr w C a b) (x : Int) : Arr (w.setCell ⟨C, 0, none⟩ (.int .i64 x)) C x b :=
  ⟨World.cell?_setCell_same _ _ _ h.c0, (World.cell?_setCell_other _ _ _ _ (by simp)).trans h.c1, (World.frozen?_setCell _ _ _ _).trans h.f0, (World.frozen?_setCell _ _ _ _).trans h.f1⟩
theorem Arr.set1 {w : World} {C : Nat} {a b : Int} (h : Arr w C a b) (x : Int) : Arr (w.setCell ⟨C, 1, none⟩ (.int .i64 x)) C a x :=
  ⟨(World.cell?_setCell_other _ _ _ _ (by simp)).trans h.c0, World.cell?_setCell_same _ _ _ h.c1, (World.frozen?_setCell _ _ _ _).trans h.f0, (World.frozen?_setCell _ _ _ _).trans h.f1⟩
theorem Arr.far {w : World} {C D o : Nat} {a b : Int} (h : Arr w C a b) (hD : D ≠ C) (v : Value) : Arr (w.setCell ⟨D, o, none⟩ v) C a b :=
  h.same (fun _ => World.cell?_setCell_other _ _ _ _ (fun p => hD (by injection p))) (fun _ => World.frozen?_setCell _ _ _ _)

end Go.Proofs.YtjageagnclmnjaaDoor.K
