/- PROVED: what lies in memory: a pair of numbers of the call's own; what keeps it. what is told of a round, of the call's own, in memory: its six cells. what '==' tells of two controls. what '==' tells of two pairs of numbers, and of two rounds. what '==' tells of two states. CONDITIONS: none beyond each theorem's own. -/
import Derived.Test.YtbnofjpiioneiaaRows
import Derived.Test.YtbnofjpiioneiaaB02KDuel
import Derived.WalkKit
import Derived.Lib.MinMax
import Derived.Lib.SlicesMore
import Derived.Deep.Draws
import Derived.WalkSpells
import Derived.WalkLawsBesides
import Derived.Deep.QuietTactic
import Derived.BigQuiet
import Derived.ArgAppend
import Derived.Deep.LoopGhost
import Derived.Deep.OwnRows
import Derived.Test.YtbnofjpiioneiaaB00Mem
import Derived.Laws.StructEq
import Derived.ChangeKeysEq
namespace Go.Proofs.Ytbnofjpiioneiaa.K
open Go.RowKit

theorem ret_int {k : IntKind} {a b : Int} (h : a = b) : Ending.returned (.int k a) = .returned (.int k b) := by rw [h]

theorem below_drewN {B : Nat} {w w1 : World} (h : Below B w w1) (n : Nat) : Below B w (w1.drewN n) := by
  induction n with
  | zero => exact h
  | succ n ih => exact Below.drew ih
theorem block_lt {w : World} {a : Addr} {v : Value} (h : w.cell? a = some v) : a.block < w.heap.size := by
  rcases Nat.lt_or_ge a.block w.heap.size with k | k
  · exact k
  · simp [World.cell?, Array.getElem?_eq_none k] at h
theorem bthen {w w1 w2 : World} (h : Below w.heap.size w w1) (k : Below w1.heap.size w1 w2) : Below w.heap.size w w2 := h.trans (k.mono h.size)
theorem balloc {w w1 : World} (h : Below w.heap.size w w1) (o : Obj) : Below w.heap.size w (w1.alloc o) := h.alloc h.size o

/-- a pair of numbers of the call's own, in block C -/
structure Arr (w : World) (C : Nat) (a b : Int) : Prop where
  c0 : w.cell? ⟨C, 0, none⟩ = some (.int .i64 a)
  c1 : w.cell? ⟨C, 1, none⟩ = some (.int .i64 b)
  f0 : w.frozen? ⟨C, 0, none⟩ = false
  f1 : w.frozen? ⟨C, 1, none⟩ = false
theorem Arr.new (w : World) (C : Nat) (hC : C = w.heap.size) (a b : Int) : Arr (w.alloc (.cells #[.int .i64 a, .int .i64 b] 22)) C a b := by
  subst hC
  constructor
  all_goals first
    | (rw [World.cell?_alloc_at _ _ _ _ rfl]; rfl)
    | (rw [World.frozen?_alloc_at _ _ _ _ rfl])
theorem Arr.same {w w' : World} {C : Nat} {a b : Int} (h : Arr w C a b) (e : ∀ o, w'.cell? ⟨C, o, none⟩ = w.cell? ⟨C, o, none⟩) (f : ∀ o, w'.frozen? ⟨C, o, none⟩ = w.frozen? ⟨C, o, none⟩) : Arr w' C a b :=
  ⟨(e 0).trans h.c0, (e 1).trans h.c1, (f 0).trans h.f0, (f 1).trans h.f1⟩
theorem Arr.kept {w w' : World} {C : Nat} {a b : Int} (h : Arr w C a b) (g : Below w.heap.size w w') : Arr w' C a b := by
  have hl : C < w.heap.size := block_lt h.c0
  exact h.same (fun o => g.cell (p := ⟨C, o, none⟩) hl) (fun o => g.frozen (p := ⟨C, o, none⟩) hl)
theorem Arr.alloc {w : World} {C : Nat} {a b : Int} (h : Arr w C a b) (o : Obj) : Arr (w.alloc o) C a b := h.kept (balloc (Below.refl _ _) o)
theorem Arr.drewN {w : World} {C : Nat} {a b : Int} (h : Arr w C a b) (m : Nat) : Arr (w.drewN m) C a b := h.kept (below_drewN (Below.refl _ _) m)
theorem Arr.set0 {w : World} {C : Nat} {a b : Int} (h : Arr w C a b) (x : Int) : Arr (w.setCell ⟨C, 0, none⟩ (.int .i64 x)) C x b :=
  ⟨World.cell?_setCell_same _ _ _ h.c0, (World.cell?_setCell_other _ _ _ _ (by simp)).trans h.c1, (World.frozen?_setCell _ _ _ _).trans h.f0, (World.frozen?_setCell _ _ _ _).trans h.f1⟩
theorem Arr.set1 {w : World} {C : Nat} {a b : Int} (h : Arr w C a b) (x : Int) : Arr (w.setCell ⟨C, 1, none⟩ (.int .i64 x)) C a x :=
  ⟨(World.cell?_setCell_other _ _ _ _ (by simp)).trans h.c0, World.cell?_setCell_same _ _ _ h.c1, (World.frozen?_setCell _ _ _ _).trans h.f0, (World.frozen?_setCell _ _ _ _).trans h.f1⟩
theorem Arr.far {w : World} {C D o : Nat} {a b : Int} (h : Arr w C a b) (hD : D ≠ C) (v : Value) : Arr (w.setCell ⟨D, o, none⟩ v) C a b :=
  h.same (fun _ => World.cell?_setCell_other _ _ _ _ (fun p => hD (by injection p))) (fun _ => World.frozen?_setCell _ _ _ _)

end Go.Proofs.Ytbnofjpiioneiaa.K

namespace Go.Proofs.Ytbnofjpiioneiaa.K
open Go.RowKit

/-- what is told of a round, of the call's own, in block C -/
structure Rnd (w : World) (C : Nat) (k n b a s q : Int) : Prop where
  c0 : w.cell? ⟨C, 0, none⟩ = some (.int .i64 k)
  c1 : w.cell? ⟨C, 1, none⟩ = some (.int .i64 n)
  c2 : w.cell? ⟨C, 2, none⟩ = some (.int .i64 b)
  c3 : w.cell? ⟨C, 3, none⟩ = some (.int .i64 a)
  c4 : w.cell? ⟨C, 4, none⟩ = some (.int .i64 s)
  c5 : w.cell? ⟨C, 5, none⟩ = some (.int .i64 q)
  f0 : w.frozen? ⟨C, 0, none⟩ = false
  f1 : w.frozen? ⟨C, 1, none⟩ = false
  f2 : w.frozen? ⟨C, 2, none⟩ = false
  f3 : w.frozen? ⟨C, 3, none⟩ = false
  f4 : w.frozen? ⟨C, 4, none⟩ = false
  f5 : w.frozen? ⟨C, 5, none⟩ = false
theorem Rnd.new (w : World) (C : Nat) (hC : C = w.heap.size) (k n b a s q : Int) : Rnd (w.alloc (.cells #[.int .i64 k, .int .i64 n, .int .i64 b, .int .i64 a, .int .i64 s, .int .i64 q] 76)) C k n b a s q := by
  subst hC
  constructor
  all_goals first
    | (rw [World.cell?_alloc_at _ _ _ _ rfl]; rfl)
    | (rw [World.frozen?_alloc_at _ _ _ _ rfl])
theorem Rnd.kept {w w' : World} {C : Nat} {k n b a s q : Int} (h : Rnd w C k n b a s q) (g : Below w.heap.size w w') : Rnd w' C k n b a s q := by
  have hl : C < w.heap.size := block_lt h.c0
  have e : ∀ o, w'.cell? ⟨C, o, none⟩ = w.cell? ⟨C, o, none⟩ := fun o => g.cell (p := ⟨C, o, none⟩) hl
  have f : ∀ o, w'.frozen? ⟨C, o, none⟩ = w.frozen? ⟨C, o, none⟩ := fun o => g.frozen (p := ⟨C, o, none⟩) hl
  exact ⟨(e 0).trans h.c0, (e 1).trans h.c1, (e 2).trans h.c2, (e 3).trans h.c3, (e 4).trans h.c4, (e 5).trans h.c5, (f 0).trans h.f0, (f 1).trans h.f1, (f 2).trans h.f2, (f 3).trans h.f3, (f 4).trans h.f4, (f 5).trans h.f5⟩
theorem Rnd.alloc {w : World} {C : Nat} {k n b a s q : Int} (h : Rnd w C k n b a s q) (o : Obj) : Rnd (w.alloc o) C k n b a s q := h.kept (balloc (Below.refl _ _) o)
theorem Rnd.drewN {w : World} {C : Nat} {k n b a s q : Int} (h : Rnd w C k n b a s q) (m : Nat) : Rnd (w.drewN m) C k n b a s q := h.kept (below_drewN (Below.refl _ _) m)
theorem Rnd.set1 {w : World} {C : Nat} {k n b a s q : Int} (h : Rnd w C k n b a s q) (v : Int) : Rnd (w.setCell ⟨C, 1, none⟩ (.int .i64 v)) C k v b a s q :=
  ⟨(World.cell?_setCell_other _ _ _ _ (by simp)).trans h.c0, World.cell?_setCell_same _ _ _ h.c1, (World.cell?_setCell_other _ _ _ _ (by simp)).trans h.c2, (World.cell?_setCell_other _ _ _ _ (by simp)).trans h.c3, (World.cell?_setCell_other _ _ _ _ (by simp)).trans h.c4, (World.cell?_setCell_other _ _ _ _ (by simp)).trans h.c5,
    (World.frozen?_setCell _ _ _ _).trans h.f0, (World.frozen?_setCell _ _ _ _).trans h.f1, (World.frozen?_setCell _ _ _ _).trans h.f2, (World.frozen?_setCell _ _ _ _).trans h.f3, (World.frozen?_setCell _ _ _ _).trans h.f4, (World.frozen?_setCell _ _ _ _).trans h.f5⟩
theorem Rnd.set2 {w : World} {C : Nat} {k n b a s q : Int} (h : Rnd w C k n b a s q) (v : Int) : Rnd (w.setCell ⟨C, 2, none⟩ (.int .i64 v)) C k n v a s q :=
  ⟨(World.cell?_setCell_other _ _ _ _ (by simp)).trans h.c0, (World.cell?_setCell_other _ _ _ _ (by simp)).trans h.c1, World.cell?_setCell_same _ _ _ h.c2, (World.cell?_setCell_other _ _ _ _ (by simp)).trans h.c3, (World.cell?_setCell_other _ _ _ _ (by simp)).trans h.c4, (World.cell?_setCell_other _ _ _ _ (by simp)).trans h.c5,
    (World.frozen?_setCell _ _ _ _).trans h.f0, (World.frozen?_setCell _ _ _ _).trans h.f1, (World.frozen?_setCell _ _ _ _).trans h.f2, (World.frozen?_setCell _ _ _ _).trans h.f3, (World.frozen?_setCell _ _ _ _).trans h.f4, (World.frozen?_setCell _ _ _ _).trans h.f5⟩
theorem Rnd.far {w : World} {C D o : Nat} {k n b a s q : Int} (h : Rnd w C k n b a s q) (hD : D ≠ C) (v : Value) : Rnd (w.setCell ⟨D, o, none⟩ v) C k n b a s q := by
  have e : ∀ i, (w.setCell ⟨D, o, none⟩ v).cell? ⟨C, i, none⟩ = w.cell? ⟨C, i, none⟩ := fun i => World.cell?_setCell_other _ _ _ _ (fun p => hD (by injection p))
  have f : ∀ i, (w.setCell ⟨D, o, none⟩ v).frozen? ⟨C, i, none⟩ = w.frozen? ⟨C, i, none⟩ := fun i => World.frozen?_setCell _ _ _ _
  exact ⟨(e 0).trans h.c0, (e 1).trans h.c1, (e 2).trans h.c2, (e 3).trans h.c3, (e 4).trans h.c4, (e 5).trans h.c5, (f 0).trans h.f0, (f 1).trans h.f1, (f 2).trans h.f2, (f 3).trans h.f3, (f 4).trans h.f4, (f 5).trans h.f5⟩

theorem Rnd.set0 {w : World} {C : Nat} {k n b a s q : Int} (h : Rnd w C k n b a s q) (v : Int) : Rnd (w.setCell ⟨C, 0, none⟩ (.int .i64 v)) C v n b a s q :=
  ⟨World.cell?_setCell_same _ _ _ h.c0, (World.cell?_setCell_other _ _ _ _ (by simp)).trans h.c1, (World.cell?_setCell_other _ _ _ _ (by simp)).trans h.c2, (World.cell?_setCell_other _ _ _ _ (by simp)).trans h.c3, (World.cell?_setCell_other _ _ _ _ (by simp)).trans h.c4, (World.cell?_setCell_other _ _ _ _ (by simp)).trans h.c5,
    (World.frozen?_setCell _ _ _ _).trans h.f0, (World.frozen?_setCell _ _ _ _).trans h.f1, (World.frozen?_setCell _ _ _ _).trans h.f2, (World.frozen?_setCell _ _ _ _).trans h.f3, (World.frozen?_setCell _ _ _ _).trans h.f4, (World.frozen?_setCell _ _ _ _).trans h.f5⟩
theorem Rnd.set3 {w : World} {C : Nat} {k n b a s q : Int} (h : Rnd w C k n b a s q) (v : Int) : Rnd (w.setCell ⟨C, 3, none⟩ (.int .i64 v)) C k n b v s q :=
  ⟨(World.cell?_setCell_other _ _ _ _ (by simp)).trans h.c0, (World.cell?_setCell_other _ _ _ _ (by simp)).trans h.c1, (World.cell?_setCell_other _ _ _ _ (by simp)).trans h.c2, World.cell?_setCell_same _ _ _ h.c3, (World.cell?_setCell_other _ _ _ _ (by simp)).trans h.c4, (World.cell?_setCell_other _ _ _ _ (by simp)).trans h.c5,
    (World.frozen?_setCell _ _ _ _).trans h.f0, (World.frozen?_setCell _ _ _ _).trans h.f1, (World.frozen?_setCell _ _ _ _).trans h.f2, (World.frozen?_setCell _ _ _ _).trans h.f3, (World.frozen?_setCell _ _ _ _).trans h.f4, (World.frozen?_setCell _ _ _ _).trans h.f5⟩
theorem Rnd.set4 {w : World} {C : Nat} {k n b a s q : Int} (h : Rnd w C k n b a s q) (v : Int) : Rnd (w.setCell ⟨C, 4, none⟩ (.int .i64 v)) C k n b a v q :=
  ⟨(World.cell?_setCell_other _ _ _ _ (by simp)).trans h.c0, (World.cell?_setCell_other _ _ _ _ (by simp)).trans h.c1, (World.cell?_setCell_other _ _ _ _ (by simp)).trans h.c2, (World.cell?_setCell_other _ _ _ _ (by simp)).trans h.c3, World.cell?_setCell_same _ _ _ h.c4, (World.cell?_setCell_other _ _ _ _ (by simp)).trans h.c5,
    (World.frozen?_setCell _ _ _ _).trans h.f0, (World.frozen?_setCell _ _ _ _).trans h.f1, (World.frozen?_setCell _ _ _ _).trans h.f2, (World.frozen?_setCell _ _ _ _).trans h.f3, (World.frozen?_setCell _ _ _ _).trans h.f4, (World.frozen?_setCell _ _ _ _).trans h.f5⟩
theorem Rnd.set5 {w : World} {C : Nat} {k n b a s q : Int} (h : Rnd w C k n b a s q) (v : Int) : Rnd (w.setCell ⟨C, 5, none⟩ (.int .i64 v)) C k n b a s v :=
  ⟨(World.cell?_setCell_other _ _ _ _ (by simp)).trans h.c0, (World.cell?_setCell_other _ _ _ _ (by simp)).trans h.c1, (World.cell?_setCell_other _ _ _ _ (by simp)).trans h.c2, (World.cell?_setCell_other _ _ _ _ (by simp)).trans h.c3, (World.cell?_setCell_other _ _ _ _ (by simp)).trans h.c4, World.cell?_setCell_same _ _ _ h.c5,
    (World.frozen?_setCell _ _ _ _).trans h.f0, (World.frozen?_setCell _ _ _ _).trans h.f1, (World.frozen?_setCell _ _ _ _).trans h.f2, (World.frozen?_setCell _ _ _ _).trans h.f3, (World.frozen?_setCell _ _ _ _).trans h.f4, (World.frozen?_setCell _ _ _ _).trans h.f5⟩
theorem Rnd.put {w : World} {C : Nat} {k n b a s q : Int} (h : Rnd w C k n b a s q) (k' n' b' a' s' q' : Int) : Rnd ((((((w.setCell ⟨C, 0, none⟩ (.int .i64 k')).setCell ⟨C, 1, none⟩ (.int .i64 n')).setCell ⟨C, 2, none⟩ (.int .i64 b')).setCell ⟨C, 3, none⟩ (.int .i64 a')).setCell ⟨C, 4, none⟩ (.int .i64 s')).setCell ⟨C, 5, none⟩ (.int .i64 q')) C k' n' b' a' s' q' :=
  (((((h.set0 k').set1 n').set2 b').set3 a').set4 s').set5 q'
theorem Rnd.drew {w : World} {C : Nat} {k n b a s q : Int} (h : Rnd w C k n b a s q) : Rnd w.drew C k n b a s q := h.kept (Below.drew (Below.refl _ _))
/-- one step of a walk that is not taken yet -/
theorem tok : Hid True := trivial
/-- what is behind a call at a world that had one control more -/
theorem up1 {w w1 : World} {o : Obj} (h : Below (w.alloc o).heap.size (w.alloc o) w1) : Below w.heap.size w w1 := bthen (balloc (Below.refl _ _) o) h


end Go.Proofs.Ytbnofjpiioneiaa.K

namespace Go.Proofs.Ytbnofjpiioneiaa.V
open Go.RowKit

theorem partC (xs : Array Value) (i : Nat) (v : Int) (h : xs[i]? = some (.int .i64 v)) (w : World) : (part 3 xs i).run Try.prog w = .ok (.int .i64 v) w := by
  simp [part, go_sem, h]

theorem eqField (xs ys : Array Value) (f : Field) (fs : List Field) (i : Nat) (x y : Int) (w : World) (hn : (f.name == "_") = false) (ht : f.type = 3) (ho : f.offset = i) (hx : xs[i]? = some (.int .i64 x)) (hy : ys[i]? = some (.int .i64 y)) (B : Bool)
    (hr : (Op.eqFields 9999 xs ys fs).run Try.prog w = .ok B w) :
    (Op.eqFields 9999 xs ys (f :: fs)).run Try.prog w = .ok (decide (x = y) && B) w := by
  have hn' : f.name ≠ "_" := by simpa using hn
  rw [Op.eqFields, if_pos hn', ht, ho]
  simp only [Sem.run_bind, partC xs i x hx, partC ys i y hy, Result.andThen_ok, run_equalIn_int w 9998 3 .i64 .i64 x y Try.underlying3]
  by_cases h : x = y
  · simp [h, hr]
  · simp [h]

theorem six {xs : List Field} (h : xs.map (fun f => (f.name == "_", f.type, f.offset)) = [(false, 3, 0), (false, 3, 1), (false, 3, 2), (false, 3, 3), (false, 3, 4), (false, 3, 5)]) :
    ∃ f0 f1 f2 f3 f4 f5, xs = [f0, f1, f2, f3, f4, f5] := by
  have hl : xs.length = 6 := by simpa using congrArg List.length h
  match xs, hl with
  | [f0, f1, f2, f3, f4, f5], _ => exact ⟨f0, f1, f2, f3, f4, f5, rfl⟩
theorem Try.fields23 : (Try.prog.fieldsOf 35).toList.map (fun f => (f.name == "_", f.type, f.offset)) = [(false, 3, 0), (false, 3, 1), (false, 3, 2), (false, 3, 3), (false, 3, 4), (false, 3, 5)] := by kernel_rfl

theorem eqC (k n b a s q k' n' b' a' s' q' : Int) (w : World) :
    (binOp .eql 35 (.agg #[.int .i64 k, .int .i64 n, .int .i64 b, .int .i64 a, .int .i64 s, .int .i64 q]) (.agg #[.int .i64 k', .int .i64 n', .int .i64 b', .int .i64 a', .int .i64 s', .int .i64 q'])).run Try.prog w
      = .ok (.bool (decide (k = k') && (decide (n = n') && (decide (b = b') && (decide (a = a') && (decide (s = s') && (decide (q = q') && true))))))) w := by
  rw [run_eql_struct, run_equalIn_agg (d := 9999) _ _ _ _ (by kernel_rfl) (by kernel_rfl)]
  have hf := Try.fields23
  obtain ⟨f0, f1, f2, f3, f4, f5, e⟩ := six hf
  rw [e] at hf ⊢
  simp only [List.map_cons, List.map_nil, List.cons.injEq, Prod.mk.injEq, and_true] at hf
  obtain ⟨⟨a0, b0, c0⟩, ⟨a1, b1, c1⟩, ⟨a2, b2, c2⟩, ⟨a3, b3, c3⟩, ⟨a4, b4, c4⟩, ⟨a5, b5, c5⟩⟩ := hf
  rw [eqField _ _ f0 _ 0 k k' w a0 b0 c0 rfl rfl _ (eqField _ _ f1 _ 1 n n' w a1 b1 c1 rfl rfl _ (eqField _ _ f2 _ 2 b b' w a2 b2 c2 rfl rfl _ (eqField _ _ f3 _ 3 a a' w a3 b3 c3 rfl rfl _ (eqField _ _ f4 _ 4 s s' w a4 b4 c4 rfl rfl _ (eqField _ _ f5 _ 5 q q' w a5 b5 c5 rfl rfl true (by simp [Op.eqFields]))))))]
  rfl

/-- whether they are the same -/
def sameC (k n b a s q k' n' b' a' s' q' : Int) : Bool := decide (k = k') && (decide (n = n') && (decide (b = b') && (decide (a = a') && (decide (s = s') && (decide (q = q') && true)))))
theorem eqS (k n b a s q k' n' b' a' s' q' : Int) (w : World) :
    (binOp .eql 35 (.agg #[.int .i64 k, .int .i64 n, .int .i64 b, .int .i64 a, .int .i64 s, .int .i64 q]) (.agg #[.int .i64 k', .int .i64 n', .int .i64 b', .int .i64 a', .int .i64 s', .int .i64 q'])).run Try.prog w = .ok (.bool (sameC k n b a s q k' n' b' a' s' q')) w := eqC k n b a s q k' n' b' a' s' q' w
theorem same_is {k n b a s q k' n' b' a' s' q' : Int} : sameC k n b a s q k' n' b' a' s' q' = true ↔ k = k' ∧ n = n' ∧ b = b' ∧ a = a' ∧ s = s' ∧ q = q' := by
  unfold sameC; simp
theorem same_self (k n b a s q : Int) : sameC k n b a s q k n b a s q = true := same_is.2 ⟨rfl, rfl, rfl, rfl, rfl, rfl⟩

end Go.Proofs.Ytbnofjpiioneiaa.V

namespace Go.Proofs.Ytbnofjpiioneiaa.K
open Go.RowKit

theorem Try.cells3 : Try.prog.cellsOf 3 = 1 := by kernel_rfl
theorem Try.infos3 : (Try.prog.info? 3).isSome = true := by kernel_rfl

/-- whether they are the same -/
def sameA (a b x y : Int) : Bool := decide (a = x) && (decide (b = y) && true)
theorem partC (xs : Array Value) (i : Nat) (v : Int) (h : xs[i]? = some (.int .i64 v)) (w : World) : (part 3 xs i).run Try.prog w = .ok (.int .i64 v) w := by
  simp [part, go_sem, h]
theorem eqItem (d : Nat) (xs ys : Array Value) (i : Nat) (is : List Nat) (x y : Int) (w : World) (hx : xs[i]? = some (.int .i64 x)) (hy : ys[i]? = some (.int .i64 y)) (B : Bool) (hr : (Op.eqItems (d + 1) 3 1 xs ys is).run Try.prog w = .ok B w) :
    (Op.eqItems (d + 1) 3 1 xs ys (i :: is)).run Try.prog w = .ok (decide (x = y) && B) w := by
  rw [Op.eqItems, Nat.mul_one]
  simp only [Sem.run_bind, partC xs i x hx, partC ys i y hy, Result.andThen_ok, run_equalIn_int w d 3 .i64 .i64 x y Try.underlying3]
  by_cases h : x = y
  · simp [h, hr]
  · simp [h]
theorem eqArr (d : Nat) (a b x y : Int) (w : World) : (Op.equalIn (d + 2) 22 (.agg #[.int .i64 a, .int .i64 b]) (.agg #[.int .i64 x, .int .i64 y])).run Try.prog w = .ok (sameA a b x y) w := by
  obtain ⟨i, hi⟩ := Option.isSome_iff_exists.1 Try.infos3
  rw [run_equalIn_array w (d + 1) _ _ Try.underlying22 hi, Try.cells3, show List.range 2 = [0, 1] from rfl]
  exact eqItem d _ _ 0 _ a x w rfl rfl _ (eqItem d _ _ 1 _ b y w rfl rfl true (by simp [Op.eqItems]))
theorem eqA (a b x y : Int) (w : World) :
    (binOp .eql 22 (.agg #[.int .i64 a, .int .i64 b]) (.agg #[.int .i64 x, .int .i64 y])).run Try.prog w = .ok (.bool (sameA a b x y)) w := by
  rw [run_eql_struct, eqArr 9998]; rfl

theorem part0 (c0 c1 c2 c3 c4 c5 : Value) (w : World) : (part 22 #[c0, c1, c2, c3, c4, c5] 0).run Try.prog w = .ok (.agg #[c0, c1]) w := by kernel_rfl
theorem part2 (c0 c1 c2 c3 c4 c5 : Value) (w : World) : (part 22 #[c0, c1, c2, c3, c4, c5] 2).run Try.prog w = .ok (.agg #[c2, c3]) w := by kernel_rfl
theorem part4 (c0 c1 c2 c3 c4 c5 : Value) (w : World) : (part 22 #[c0, c1, c2, c3, c4, c5] 4).run Try.prog w = .ok (.agg #[c4, c5]) w := by kernel_rfl
theorem eqField (xs ys : Array Value) (f : Field) (fs : List Field) (i : Nat) (a b x y : Int) (w : World) (hn : (f.name == "_") = false) (ht : f.type = 22) (ho : f.offset = i) (hx : (part 22 xs i).run Try.prog w = .ok (.agg #[.int .i64 a, .int .i64 b]) w) (hy : (part 22 ys i).run Try.prog w = .ok (.agg #[.int .i64 x, .int .i64 y]) w) (B : Bool)
    (hr : (Op.eqFields 9999 xs ys fs).run Try.prog w = .ok B w) :
    (Op.eqFields 9999 xs ys (f :: fs)).run Try.prog w = .ok (sameA a b x y && B) w := by
  have hn' : f.name ≠ "_" := by simpa using hn
  rw [Op.eqFields, if_pos hn', ht, ho]
  simp only [Sem.run_bind, hx, hy, Result.andThen_ok, eqArr 9997]
  cases sameA a b x y
  · simp
  · simp [hr]
theorem three {xs : List Field} (h : xs.map (fun f => (f.name == "_", f.type, f.offset)) = [(false, 22, 0), (false, 22, 2), (false, 22, 4)]) : ∃ f0 f1 f2, xs = [f0, f1, f2] := by
  have hl : xs.length = 3 := by simpa using congrArg List.length h
  match xs, hl with
  | [f0, f1, f2], _ => exact ⟨f0, f1, f2, rfl⟩
theorem Try.fields24 : (Try.prog.fieldsOf 76).toList.map (fun f => (f.name == "_", f.type, f.offset)) = [(false, 22, 0), (false, 22, 2), (false, 22, 4)] := by kernel_rfl
/-- whether they are the same -/
def sameR (a b c d e f x y z u v q : Int) : Bool := sameA a b x y && (sameA c d z u && (sameA e f v q && true))
theorem eqR (a b c d e f x y z u v q : Int) (w : World) :
    (binOp .eql 76 (.agg #[.int .i64 a, .int .i64 b, .int .i64 c, .int .i64 d, .int .i64 e, .int .i64 f]) (.agg #[.int .i64 x, .int .i64 y, .int .i64 z, .int .i64 u, .int .i64 v, .int .i64 q])).run Try.prog w = .ok (.bool (sameR a b c d e f x y z u v q)) w := by
  rw [run_eql_struct, run_equalIn_agg (d := 9999) _ _ _ _ (by kernel_rfl) (by kernel_rfl)]
  have hf := Try.fields24
  obtain ⟨f0, f1, f2, E⟩ := three hf
  rw [E] at hf ⊢
  simp only [List.map_cons, List.map_nil, List.cons.injEq, Prod.mk.injEq, and_true] at hf
  obtain ⟨⟨a0, b0, c0⟩, ⟨a1, b1, c1⟩, ⟨a2, b2, c2⟩⟩ := hf
  rw [eqField _ _ f0 _ 0 a b x y w a0 b0 c0 (part0 _ _ _ _ _ _ w) (part0 _ _ _ _ _ _ w) _ (eqField _ _ f1 _ 2 c d z u w a1 b1 c1 (part2 _ _ _ _ _ _ w) (part2 _ _ _ _ _ _ w) _ (eqField _ _ f2 _ 4 e f v q w a2 b2 c2 (part4 _ _ _ _ _ _ w) (part4 _ _ _ _ _ _ w) true (by simp [Op.eqFields])))]
  rfl
theorem sameA_self (a b : Int) : sameA a b a b = true := by unfold sameA; simp
theorem sameR_self (a b c d e f : Int) : sameR a b c d e f a b c d e f = true := by unfold sameR; simp [sameA_self]

end Go.Proofs.Ytbnofjpiioneiaa.K

namespace Go.Proofs.Ytbnofjpiioneiaa.D
open Go.RowKit K

theorem eqFieldI (d : Nat) (xs ys : Array Value) (f : Field) (fs : List Field) (i : Nat) (x y : Int) (w : World) (hn : (f.name == "_") = false) (ht : f.type = 3) (ho : f.offset = i) (hx : xs[i]? = some (.int .i64 x)) (hy : ys[i]? = some (.int .i64 y)) (B : Bool)
    (hr : (Op.eqFields (d + 1) xs ys fs).run Try.prog w = .ok B w) :
    (Op.eqFields (d + 1) xs ys (f :: fs)).run Try.prog w = .ok (decide (x = y) && B) w := by
  have hn' : f.name ≠ "_" := by simpa using hn
  rw [Op.eqFields, if_pos hn', ht, ho]
  simp only [Sem.run_bind, V.partC xs i x hx, V.partC ys i y hy, Result.andThen_ok, run_equalIn_int w d 3 .i64 .i64 x y Try.underlying3]
  by_cases h : x = y
  · simp [h, hr]
  · simp [h]
theorem eqCt (d : Nat) (k n b a s q k' n' b' a' s' q' : Int) (w : World) :
    (Op.equalIn (d + 2) 35 (.agg #[.int .i64 k, .int .i64 n, .int .i64 b, .int .i64 a, .int .i64 s, .int .i64 q]) (.agg #[.int .i64 k', .int .i64 n', .int .i64 b', .int .i64 a', .int .i64 s', .int .i64 q'])).run Try.prog w = .ok (V.sameC k n b a s q k' n' b' a' s' q') w := by
  rw [run_equalIn_agg (d := d + 1) _ _ _ _ (by kernel_rfl) (by kernel_rfl)]
  have hf := V.Try.fields23
  obtain ⟨f0, f1, f2, f3, f4, f5, e⟩ := V.six hf
  rw [e] at hf ⊢
  simp only [List.map_cons, List.map_nil, List.cons.injEq, Prod.mk.injEq, and_true] at hf
  obtain ⟨⟨a0, b0, c0⟩, ⟨a1, b1, c1⟩, ⟨a2, b2, c2⟩, ⟨a3, b3, c3⟩, ⟨a4, b4, c4⟩, ⟨a5, b5, c5⟩⟩ := hf
  rw [eqFieldI d _ _ f0 _ 0 k k' w a0 b0 c0 rfl rfl _ (eqFieldI d _ _ f1 _ 1 n n' w a1 b1 c1 rfl rfl _ (eqFieldI d _ _ f2 _ 2 b b' w a2 b2 c2 rfl rfl _ (eqFieldI d _ _ f3 _ 3 a a' w a3 b3 c3 rfl rfl _ (eqFieldI d _ _ f4 _ 4 s s' w a4 b4 c4 rfl rfl _ (eqFieldI d _ _ f5 _ 5 q q' w a5 b5 c5 rfl rfl true (by simp [Op.eqFields]))))))]
  rfl
theorem Try.infos26 : (Try.prog.info? 35).isSome = true := by kernel_rfl
theorem Try.cells35 : Try.prog.cellsOf 35 = 6 := by kernel_rfl
theorem partK0 (c0 c1 c2 c3 c4 c5 c6 c7 c8 c9 c10 c11 : Value) (w : World) : (part 35 #[c0, c1, c2, c3, c4, c5, c6, c7, c8, c9, c10, c11] (0 * 6)).run Try.prog w = .ok (.agg #[c0, c1, c2, c3, c4, c5]) w := by kernel_rfl
theorem partK1 (c0 c1 c2 c3 c4 c5 c6 c7 c8 c9 c10 c11 : Value) (w : World) : (part 35 #[c0, c1, c2, c3, c4, c5, c6, c7, c8, c9, c10, c11] (1 * 6)).run Try.prog w = .ok (.agg #[c6, c7, c8, c9, c10, c11]) w := by kernel_rfl
theorem eqItemC (d : Nat) (xs ys : Array Value) (i : Nat) (is : List Nat) (k n b a s q k' n' b' a' s' q' : Int) (w : World) (hx : (part 35 xs (i * 6)).run Try.prog w = .ok (.agg #[.int .i64 k, .int .i64 n, .int .i64 b, .int .i64 a, .int .i64 s, .int .i64 q]) w) (hy : (part 35 ys (i * 6)).run Try.prog w = .ok (.agg #[.int .i64 k', .int .i64 n', .int .i64 b', .int .i64 a', .int .i64 s', .int .i64 q']) w) (B : Bool) (hr : (Op.eqItems (d + 2) 35 6 xs ys is).run Try.prog w = .ok B w) :
    (Op.eqItems (d + 2) 35 6 xs ys (i :: is)).run Try.prog w = .ok (V.sameC k n b a s q k' n' b' a' s' q' && B) w := by
  rw [Op.eqItems]
  simp only [Sem.run_bind, hx, hy, Result.andThen_ok, eqCt d]
  cases V.sameC k n b a s q k' n' b' a' s' q'
  · simp
  · simp [hr]
theorem eqCts (d : Nat) (a0 a1 a2 a3 a4 a5 a6 a7 a8 a9 a10 a11 b0 b1 b2 b3 b4 b5 b6 b7 b8 b9 b10 b11 : Int) (w : World) : (Op.equalIn (d + 3) 36 (.agg #[.int .i64 a0, .int .i64 a1, .int .i64 a2, .int .i64 a3, .int .i64 a4, .int .i64 a5, .int .i64 a6, .int .i64 a7, .int .i64 a8, .int .i64 a9, .int .i64 a10, .int .i64 a11]) (.agg #[.int .i64 b0, .int .i64 b1, .int .i64 b2, .int .i64 b3, .int .i64 b4, .int .i64 b5, .int .i64 b6, .int .i64 b7, .int .i64 b8, .int .i64 b9, .int .i64 b10, .int .i64 b11])).run Try.prog w = .ok (V.sameC a0 a1 a2 a3 a4 a5 b0 b1 b2 b3 b4 b5 && (V.sameC a6 a7 a8 a9 a10 a11 b6 b7 b8 b9 b10 b11 && true)) w := by
  obtain ⟨i, hi⟩ := Option.isSome_iff_exists.1 Try.infos26
  rw [run_equalIn_array w (d + 2) _ _ Try.underlying36 hi, Try.cells35, show List.range 2 = [0, 1] from rfl]
  exact eqItemC d _ _ 0 _ _ _ _ _ _ _ _ _ _ _ _ _ w (partK0 _ _ _ _ _ _ _ _ _ _ _ _ w) (partK0 _ _ _ _ _ _ _ _ _ _ _ _ w) _ (eqItemC d _ _ 1 _ _ _ _ _ _ _ _ _ _ _ _ _ w (partK1 _ _ _ _ _ _ _ _ _ _ _ _ w) (partK1 _ _ _ _ _ _ _ _ _ _ _ _ w) true (by simp [Op.eqItems]))
theorem partS0 (c0 c1 c2 c3 c4 c5 c6 c7 c8 c9 c10 c11 c12 c13 : Value) (w : World) : (part 36 #[c0, c1, c2, c3, c4, c5, c6, c7, c8, c9, c10, c11, c12, c13] 0).run Try.prog w = .ok (.agg #[c0, c1, c2, c3, c4, c5, c6, c7, c8, c9, c10, c11]) w := by kernel_rfl
theorem partS12 (c0 c1 c2 c3 c4 c5 c6 c7 c8 c9 c10 c11 c12 c13 : Value) (w : World) : (part 22 #[c0, c1, c2, c3, c4, c5, c6, c7, c8, c9, c10, c11, c12, c13] 12).run Try.prog w = .ok (.agg #[c12, c13]) w := by kernel_rfl
theorem two_f {xs : List Field} (h : xs.map (fun f => (f.name == "_", f.type, f.offset)) = [(false, 36, 0), (false, 22, 12)]) : ∃ f0 f1, xs = [f0, f1] := by
  have hl : xs.length = 2 := by simpa using congrArg List.length h
  match xs, hl with
  | [f0, f1], _ => exact ⟨f0, f1, rfl⟩
theorem Try.fields29 : (Try.prog.fieldsOf 38).toList.map (fun f => (f.name == "_", f.type, f.offset)) = [(false, 36, 0), (false, 22, 12)] := by kernel_rfl
theorem eqFieldS (xs ys : Array Value) (f : Field) (fs : List Field) (a0 a1 a2 a3 a4 a5 a6 a7 a8 a9 a10 a11 b0 b1 b2 b3 b4 b5 b6 b7 b8 b9 b10 b11 : Int) (w : World) (hn : (f.name == "_") = false) (ht : f.type = 36) (ho : f.offset = 0) (hx : (part 36 xs 0).run Try.prog w = .ok (.agg #[.int .i64 a0, .int .i64 a1, .int .i64 a2, .int .i64 a3, .int .i64 a4, .int .i64 a5, .int .i64 a6, .int .i64 a7, .int .i64 a8, .int .i64 a9, .int .i64 a10, .int .i64 a11]) w) (hy : (part 36 ys 0).run Try.prog w = .ok (.agg #[.int .i64 b0, .int .i64 b1, .int .i64 b2, .int .i64 b3, .int .i64 b4, .int .i64 b5, .int .i64 b6, .int .i64 b7, .int .i64 b8, .int .i64 b9, .int .i64 b10, .int .i64 b11]) w) (B : Bool)
    (hr : (Op.eqFields 9999 xs ys fs).run Try.prog w = .ok B w) :
    (Op.eqFields 9999 xs ys (f :: fs)).run Try.prog w = .ok ((V.sameC a0 a1 a2 a3 a4 a5 b0 b1 b2 b3 b4 b5 && (V.sameC a6 a7 a8 a9 a10 a11 b6 b7 b8 b9 b10 b11 && true)) && B) w := by
  have hn' : f.name ≠ "_" := by simpa using hn
  rw [Op.eqFields, if_pos hn', ht, ho]
  simp only [Sem.run_bind, hx, hy, Result.andThen_ok, eqCts 9996]
  cases V.sameC a0 a1 a2 a3 a4 a5 b0 b1 b2 b3 b4 b5 && (V.sameC a6 a7 a8 a9 a10 a11 b6 b7 b8 b9 b10 b11 && true)
  · simp
  · simp [hr]
/-- whether they are the same -/
def sameS (a0 a1 a2 a3 a4 a5 a6 a7 a8 a9 a10 a11 a12 a13 b0 b1 b2 b3 b4 b5 b6 b7 b8 b9 b10 b11 b12 b13 : Int) : Bool := (V.sameC a0 a1 a2 a3 a4 a5 b0 b1 b2 b3 b4 b5 && (V.sameC a6 a7 a8 a9 a10 a11 b6 b7 b8 b9 b10 b11 && true)) && (sameA a12 a13 b12 b13 && true)
theorem eqSt (a0 a1 a2 a3 a4 a5 a6 a7 a8 a9 a10 a11 a12 a13 b0 b1 b2 b3 b4 b5 b6 b7 b8 b9 b10 b11 b12 b13 : Int) (w : World) :
    (binOp .eql 38 (.agg #[.int .i64 a0, .int .i64 a1, .int .i64 a2, .int .i64 a3, .int .i64 a4, .int .i64 a5, .int .i64 a6, .int .i64 a7, .int .i64 a8, .int .i64 a9, .int .i64 a10, .int .i64 a11, .int .i64 a12, .int .i64 a13]) (.agg #[.int .i64 b0, .int .i64 b1, .int .i64 b2, .int .i64 b3, .int .i64 b4, .int .i64 b5, .int .i64 b6, .int .i64 b7, .int .i64 b8, .int .i64 b9, .int .i64 b10, .int .i64 b11, .int .i64 b12, .int .i64 b13])).run Try.prog w = .ok (.bool (sameS a0 a1 a2 a3 a4 a5 a6 a7 a8 a9 a10 a11 a12 a13 b0 b1 b2 b3 b4 b5 b6 b7 b8 b9 b10 b11 b12 b13)) w := by
  rw [run_eql_struct, run_equalIn_agg (d := 9999) _ _ _ _ (by kernel_rfl) (by kernel_rfl)]
  have hf := Try.fields29
  obtain ⟨f0, f1, E⟩ := two_f hf
  rw [E] at hf ⊢
  simp only [List.map_cons, List.map_nil, List.cons.injEq, Prod.mk.injEq, and_true] at hf
  obtain ⟨⟨x0, y0, z0⟩, ⟨x1, y1, z1⟩⟩ := hf
  rw [eqFieldS _ _ f0 _ a0 a1 a2 a3 a4 a5 a6 a7 a8 a9 a10 a11 b0 b1 b2 b3 b4 b5 b6 b7 b8 b9 b10 b11 w x0 y0 z0 (partS0 _ _ _ _ _ _ _ _ _ _ _ _ _ _ w) (partS0 _ _ _ _ _ _ _ _ _ _ _ _ _ _ w) _ (eqField _ _ f1 _ 12 a12 a13 b12 b13 w x1 y1 z1 (partS12 _ _ _ _ _ _ _ _ _ _ _ _ _ _ w) (partS12 _ _ _ _ _ _ _ _ _ _ _ _ _ _ w) true (by simp [Op.eqFields]))]
  rfl
theorem sameS_self (a0 a1 a2 a3 a4 a5 a6 a7 a8 a9 a10 a11 a12 a13 : Int) : sameS a0 a1 a2 a3 a4 a5 a6 a7 a8 a9 a10 a11 a12 a13 a0 a1 a2 a3 a4 a5 a6 a7 a8 a9 a10 a11 a12 a13 = true := by unfold sameS; simp [V.same_self, sameA_self]

end Go.Proofs.Ytbnofjpiioneiaa.D
