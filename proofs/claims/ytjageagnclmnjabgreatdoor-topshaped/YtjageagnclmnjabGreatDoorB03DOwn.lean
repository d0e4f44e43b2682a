/- PROVED: what lies in memory: a pair of numbers of the call's own; what keeps it. what is told of a round, of the call's own, in memory: its six cells. what link.within, Right and flowsInRow answer. what duel.senderOf, within answer. what duel.Wrong answers. CONDITIONS: none beyond each theorem's own. -/
import Derived.Test.YtjageagnclmnjabGreatDoorRows
import Derived.Test.YtjageagnclmnjabGreatDoorB01Tx
import Derived.WalkKit
import Derived.Lib.MinMax
import Derived.Lib.SlicesMore
import Derived.Deep.Draws
import Derived.WalkSpells
import Derived.WalkLawsBesides
import Derived.Deep.QuietTactic
import Derived.BigQuiet
import Derived.ArgAppend
import Derived.Deep.LoopGhost
import Derived.Deep.OwnRows
import Derived.Test.YtjageagnclmnjabGreatDoorB02DMem
import Derived.Laws.EntriesVeiled
namespace Go.Proofs.YtjageagnclmnjabGreatDoor.K
open Go.RowKit

theorem below_drewN {B : Nat} {w w1 : World} (h : Below B w w1) (n : Nat) : Below B w (w1.drewN n) := by
  induction n with
  | zero => exact h
  | succ n ih => exact Below.drew ih
theorem block_lt {w : World} {a : Addr} {v : Value} (h : w.cell? a = some v) : a.block < w.heap.size := by
  rcases Nat.lt_or_ge a.block w.heap.size with k | k
  · exact k
  · simp [World.cell?, Array.getElem?_eq_none k] at h
theorem bthen {w w1 w2 : World} (h : Below w.heap.size w w1) (k : Below w1.heap.size w1 w2) : Below w.heap.size w w2 := h.trans (k.mono h.size)
theorem balloc {w w1 : World} (h : Below w.heap.size w w1) (o : Obj) : Below w.heap.size w (w1.alloc o) := h.alloc h.size o

/-- a pair of numbers of the call's own, in block C -/
structure Arr (w : World) (C : Nat) (a b : Int) : Prop where
  c0 : w.cell? ⟨C, 0, none⟩ = some (.int .i64 a)
  c1 : w.cell? ⟨C, 1, none⟩ = some (.int .i64 b)
  f0 : w.frozen? ⟨C, 0, none⟩ = false
  f1 : w.frozen? ⟨C, 1, none⟩ = false
theorem Arr.new (w : World) (C : Nat) (hC : C = w.heap.size) (a b : Int) : Arr (w.alloc (.cells #[.int .i64 a, .int .i64 b] 67)) C a b := by
  subst hC
  constructor
  all_goals first
    | (rw [World.cell?_alloc_at _ _ _ _ rfl]; rfl)
    | (rw [World.frozen?_alloc_at _ _ _ _ rfl])
theorem Arr.same {w w' : World} {C : Nat} {a b : Int} (h : Arr w C a b) (e : ∀ o, w'.cell? ⟨C, o, none⟩ = w.cell? ⟨C, o, none⟩) (f : ∀ o, w'.frozen? ⟨C, o, none⟩ = w.frozen? ⟨C, o, none⟩) : Arr w' C a b :=
  ⟨(e 0).trans h.c0, (e 1).trans h.c1, (f 0).trans h.f0, (f 1).trans h.f1⟩
theorem Arr.kept {w w' : World} {C : Nat} {a b : Int} (h : Arr w C a b) (g : Below w.heap.size w w') : Arr w' C a b := by
  have hl : C < w.heap.size := block_lt h.c0
  exact h.same (fun o => g.cell (p := ⟨C, o, none⟩) hl) (fun o => g.frozen (p := ⟨C, o, none⟩) hl)
theorem Arr.alloc {w : World} {C : Nat} {a b : Int} (h : Arr w C a b) (o : Obj) : Arr (w.alloc o) C a b := h.kept (balloc (Below.refl _ _) o)
theorem Arr.set0 {w : World} {C : Nat} {a b : Int} (h : Arr w C a b) (x : Int) : Arr (w.setCell ⟨C, 0, none⟩ (.int .i64 x)) C x b :=
  ⟨World.cell?_setCell_same _ _ _ h.c0, (World.cell?_setCell_other _ _ _ _ (by simp)).trans h.c1, (World.frozen?_setCell _ _ _ _).trans h.f0, (World.frozen?_setCell _ _ _ _).trans h.f1⟩
theorem Arr.set1 {w : World} {C : Nat} {a b : Int} (h : Arr w C a b) (x : Int) : Arr (w.setCell ⟨C, 1, none⟩ (.int .i64 x)) C a x :=
  ⟨(World.cell?_setCell_other _ _ _ _ (by simp)).trans h.c0, World.cell?_setCell_same _ _ _ h.c1, (World.frozen?_setCell _ _ _ _).trans h.f0, (World.frozen?_setCell _ _ _ _).trans h.f1⟩
theorem Arr.far {w : World} {C D o : Nat} {a b : Int} (h : Arr w C a b) (hD : D ≠ C) (v : Value) : Arr (w.setCell ⟨D, o, none⟩ v) C a b :=
  h.same (fun _ => World.cell?_setCell_other _ _ _ _ (fun p => hD (by injection p))) (fun _ => World.frozen?_setCell _ _ _ _)

end Go.Proofs.YtjageagnclmnjabGreatDoor.K

namespace Go.Proofs.YtjageagnclmnjabGreatDoor.K
open Go.RowKit

/-- what is told of a round, of the call's own, in block C -/
structure Rnd (w : World) (C : Nat) (k n b a s q : Int) : Prop where
  c0 : w.cell? ⟨C, 0, none⟩ = some (.int .i64 k)
  c1 : w.cell? ⟨C, 1, none⟩ = some (.int .i64 n)
  c2 : w.cell? ⟨C, 2, none⟩ = some (.int .i64 b)
  c3 : w.cell? ⟨C, 3, none⟩ = some (.int .i64 a)
  c4 : w.cell? ⟨C, 4, none⟩ = some (.int .i64 s)
  c5 : w.cell? ⟨C, 5, none⟩ = some (.int .i64 q)
  f0 : w.frozen? ⟨C, 0, none⟩ = false
  f1 : w.frozen? ⟨C, 1, none⟩ = false
  f2 : w.frozen? ⟨C, 2, none⟩ = false
  f3 : w.frozen? ⟨C, 3, none⟩ = false
  f4 : w.frozen? ⟨C, 4, none⟩ = false
  f5 : w.frozen? ⟨C, 5, none⟩ = false
theorem Rnd.new (w : World) (C : Nat) (hC : C = w.heap.size) (k n b a s q : Int) : Rnd (w.alloc (.cells #[.int .i64 k, .int .i64 n, .int .i64 b, .int .i64 a, .int .i64 s, .int .i64 q] 155)) C k n b a s q := by
  subst hC
  constructor
  all_goals first
    | (rw [World.cell?_alloc_at _ _ _ _ rfl]; rfl)
    | (rw [World.frozen?_alloc_at _ _ _ _ rfl])
theorem Rnd.kept {w w' : World} {C : Nat} {k n b a s q : Int} (h : Rnd w C k n b a s q) (g : Below w.heap.size w w') : Rnd w' C k n b a s q := by
  have hl : C < w.heap.size := block_lt h.c0
  have e : ∀ o, w'.cell? ⟨C, o, none⟩ = w.cell? ⟨C, o, none⟩ := fun o => g.cell (p := ⟨C, o, none⟩) hl
  have f : ∀ o, w'.frozen? ⟨C, o, none⟩ = w.frozen? ⟨C, o, none⟩ := fun o => g.frozen (p := ⟨C, o, none⟩) hl
  exact ⟨(e 0).trans h.c0, (e 1).trans h.c1, (e 2).trans h.c2, (e 3).trans h.c3, (e 4).trans h.c4, (e 5).trans h.c5, (f 0).trans h.f0, (f 1).trans h.f1, (f 2).trans h.f2, (f 3).trans h.f3, (f 4).trans h.f4, (f 5).trans h.f5⟩
theorem Rnd.alloc {w : World} {C : Nat} {k n b a s q : Int} (h : Rnd w C k n b a s q) (o : Obj) : Rnd (w.alloc o) C k n b a s q := h.kept (balloc (Below.refl _ _) o)
theorem Rnd.set1 {w : World} {C : Nat} {k n b a s q : Int} (h : Rnd w C k n b a s q) (v : Int) : Rnd (w.setCell ⟨C, 1, none⟩ (.int .i64 v)) C k v b a s q :=
  ⟨(World.cell?_setCell_other _ _ _ _ (by simp)).trans h.c0, World.cell?_setCell_same _ _ _ h.c1, (World.cell?_setCell_other _ _ _ _ (by simp)).trans h.c2, (World.cell?_setCell_other _ _ _ _ (by simp)).trans h.c3, (World.cell?_setCell_other _ _ _ _ (by simp)).trans h.c4, (World.cell?_setCell_other _ _ _ _ (by simp)).trans h.c5,
    (World.frozen?_setCell _ _ _ _).trans h.f0, (World.frozen?_setCell _ _ _ _).trans h.f1, (World.frozen?_setCell _ _ _ _).trans h.f2, (World.frozen?_setCell _ _ _ _).trans h.f3, (World.frozen?_setCell _ _ _ _).trans h.f4, (World.frozen?_setCell _ _ _ _).trans h.f5⟩
theorem Rnd.set2 {w : World} {C : Nat} {k n b a s q : Int} (h : Rnd w C k n b a s q) (v : Int) : Rnd (w.setCell ⟨C, 2, none⟩ (.int .i64 v)) C k n v a s q :=
  ⟨(World.cell?_setCell_other _ _ _ _ (by simp)).trans h.c0, (World.cell?_setCell_other _ _ _ _ (by simp)).trans h.c1, World.cell?_setCell_same _ _ _ h.c2, (World.cell?_setCell_other _ _ _ _ (by simp)).trans h.c3, (World.cell?_setCell_other _ _ _ _ (by simp)).trans h.c4, (World.cell?_setCell_other _ _ _ _ (by simp)).trans h.c5,
    (World.frozen?_setCell _ _ _ _).trans h.f0, (World.frozen?_setCell _ _ _ _).trans h.f1, (World.frozen?_setCell _ _ _ _).trans h.f2, (World.frozen?_setCell _ _ _ _).trans h.f3, (World.frozen?_setCell _ _ _ _).trans h.f4, (World.frozen?_setCell _ _ _ _).trans h.f5⟩
theorem Rnd.far {w : World} {C D o : Nat} {k n b a s q : Int} (h : Rnd w C k n b a s q) (hD : D ≠ C) (v : Value) : Rnd (w.setCell ⟨D, o, none⟩ v) C k n b a s q := by
  have e : ∀ i, (w.setCell ⟨D, o, none⟩ v).cell? ⟨C, i, none⟩ = w.cell? ⟨C, i, none⟩ := fun i => World.cell?_setCell_other _ _ _ _ (fun p => hD (by injection p))
  have f : ∀ i, (w.setCell ⟨D, o, none⟩ v).frozen? ⟨C, i, none⟩ = w.frozen? ⟨C, i, none⟩ := fun i => World.frozen?_setCell _ _ _ _
  exact ⟨(e 0).trans h.c0, (e 1).trans h.c1, (e 2).trans h.c2, (e 3).trans h.c3, (e 4).trans h.c4, (e 5).trans h.c5, (f 0).trans h.f0, (f 1).trans h.f1, (f 2).trans h.f2, (f 3).trans h.f3, (f 4).trans h.f4, (f 5).trans h.f5⟩

theorem Rnd.set0 {w : World} {C : Nat} {k n b a s q : Int} (h : Rnd w C k n b a s q) (v : Int) : Rnd (w.setCell ⟨C, 0, none⟩ (.int .i64 v)) C v n b a s q :=
  ⟨World.cell?_setCell_same _ _ _ h.c0, (World.cell?_setCell_other _ _ _ _ (by simp)).trans h.c1, (World.cell?_setCell_other _ _ _ _ (by simp)).trans h.c2, (World.cell?_setCell_other _ _ _ _ (by simp)).trans h.c3, (World.cell?_setCell_other _ _ _ _ (by simp)).trans h.c4, (World.cell?_setCell_other _ _ _ _ (by simp)).trans h.c5,
    (World.frozen?_setCell _ _ _ _).trans h.f0, (World.frozen?_setCell _ _ _ _).trans h.f1, (World.frozen?_setCell _ _ _ _).trans h.f2, (World.frozen?_setCell _ _ _ _).trans h.f3, (World.frozen?_setCell _ _ _ _).trans h.f4, (World.frozen?_setCell _ _ _ _).trans h.f5⟩
theorem Rnd.set3 {w : World} {C : Nat} {k n b a s q : Int} (h : Rnd w C k n b a s q) (v : Int) : Rnd (w.setCell ⟨C, 3, none⟩ (.int .i64 v)) C k n b v s q :=
  ⟨(World.cell?_setCell_other _ _ _ _ (by simp)).trans h.c0, (World.cell?_setCell_other _ _ _ _ (by simp)).trans h.c1, (World.cell?_setCell_other _ _ _ _ (by simp)).trans h.c2, World.cell?_setCell_same _ _ _ h.c3, (World.cell?_setCell_other _ _ _ _ (by simp)).trans h.c4, (World.cell?_setCell_other _ _ _ _ (by simp)).trans h.c5,
    (World.frozen?_setCell _ _ _ _).trans h.f0, (World.frozen?_setCell _ _ _ _).trans h.f1, (World.frozen?_setCell _ _ _ _).trans h.f2, (World.frozen?_setCell _ _ _ _).trans h.f3, (World.frozen?_setCell _ _ _ _).trans h.f4, (World.frozen?_setCell _ _ _ _).trans h.f5⟩
theorem Rnd.set4 {w : World} {C : Nat} {k n b a s q : Int} (h : Rnd w C k n b a s q) (v : Int) : Rnd (w.setCell ⟨C, 4, none⟩ (.int .i64 v)) C k n b a v q :=
  ⟨(World.cell?_setCell_other _ _ _ _ (by simp)).trans h.c0, (World.cell?_setCell_other _ _ _ _ (by simp)).trans h.c1, (World.cell?_setCell_other _ _ _ _ (by simp)).trans h.c2, (World.cell?_setCell_other _ _ _ _ (by simp)).trans h.c3, World.cell?_setCell_same _ _ _ h.c4, (World.cell?_setCell_other _ _ _ _ (by simp)).trans h.c5,
    (World.frozen?_setCell _ _ _ _).trans h.f0, (World.frozen?_setCell _ _ _ _).trans h.f1, (World.frozen?_setCell _ _ _ _).trans h.f2, (World.frozen?_setCell _ _ _ _).trans h.f3, (World.frozen?_setCell _ _ _ _).trans h.f4, (World.frozen?_setCell _ _ _ _).trans h.f5⟩
theorem Rnd.set5 {w : World} {C : Nat} {k n b a s q : Int} (h : Rnd w C k n b a s q) (v : Int) : Rnd (w.setCell ⟨C, 5, none⟩ (.int .i64 v)) C k n b a s v :=
  ⟨(World.cell?_setCell_other _ _ _ _ (by simp)).trans h.c0, (World.cell?_setCell_other _ _ _ _ (by simp)).trans h.c1, (World.cell?_setCell_other _ _ _ _ (by simp)).trans h.c2, (World.cell?_setCell_other _ _ _ _ (by simp)).trans h.c3, (World.cell?_setCell_other _ _ _ _ (by simp)).trans h.c4, World.cell?_setCell_same _ _ _ h.c5,
    (World.frozen?_setCell _ _ _ _).trans h.f0, (World.frozen?_setCell _ _ _ _).trans h.f1, (World.frozen?_setCell _ _ _ _).trans h.f2, (World.frozen?_setCell _ _ _ _).trans h.f3, (World.frozen?_setCell _ _ _ _).trans h.f4, (World.frozen?_setCell _ _ _ _).trans h.f5⟩
theorem Rnd.put {w : World} {C : Nat} {k n b a s q : Int} (h : Rnd w C k n b a s q) (k' n' b' a' s' q' : Int) : Rnd ((((((w.setCell ⟨C, 0, none⟩ (.int .i64 k')).setCell ⟨C, 1, none⟩ (.int .i64 n')).setCell ⟨C, 2, none⟩ (.int .i64 b')).setCell ⟨C, 3, none⟩ (.int .i64 a')).setCell ⟨C, 4, none⟩ (.int .i64 s')).setCell ⟨C, 5, none⟩ (.int .i64 q')) C k' n' b' a' s' q' :=
  (((((h.set0 k').set1 n').set2 b').set3 a').set4 s').set5 q'
theorem Rnd.drew {w : World} {C : Nat} {k n b a s q : Int} (h : Rnd w C k n b a s q) : Rnd w.drew C k n b a s q := h.kept (Below.drew (Below.refl _ _))
/-- one step of a walk that is not taken yet -/
theorem tok : Hid True := trivial
end Go.Proofs.YtjageagnclmnjabGreatDoor.K

namespace Go.Proofs.YtjageagnclmnjabGreatDoor.K
open Go.RowKit

theorem within_any (n l h : Int) (w : World) :
    Calls Tryz.prog 152 #[.int .i64 n, .int .i64 l, .int .i64 h] w fun e w' => e = .returned (.bool (decide (l ≤ n) && decide (n ≤ h))) ∧ w' = w := by
  by_cases h1 : l ≤ n
  · go_enter Tryz.func152, Tryz.ntmps152
    go_wp2
    go_ret
    exact ⟨by simp [h1], rfl⟩
  · have h2 : decide (l ≤ n) = false := decide_eq_false h1
    go_enter Tryz.func152, Tryz.ntmps152
    go_wp2
    go_ret
    exact ⟨by simp, rfl⟩
theorem idx0 (a b : Int) (w : World) : (Instr.index 67 (.agg #[.int .i64 a, .int .i64 b]) (.int .i64 0)).run Tryz.prog w = .ok (.int .i64 a) w := by kernel_rfl
theorem idx1 (a b : Int) (w : World) : (Instr.index 67 (.agg #[.int .i64 a, .int .i64 b]) (.int .i64 1)).run Tryz.prog w = .ok (.int .i64 b) w := by kernel_rfl

theorem flows_any (a b s t : Int) (w : World) :
    Calls Tryz.prog 140 #[.agg #[.int .i64 a, .int .i64 b], .agg #[.int .i64 s, .int .i64 t]] w fun e w' => e = .returned (.func (.func 153) #[] #[.pointer (some ⟨w.heap.size, 0, none⟩), .pointer (some ⟨w.heap.size + 1, 0, none⟩)]) ∧ w' = (w.alloc (.cells #[.int .i64 a, .int .i64 b] 67)).alloc (.cells #[.int .i64 s, .int .i64 t] 67) := by
  go_enter Tryz.func140, Tryz.ntmps140
  go_wp2
  go_ret
  exact ⟨rfl, rfl⟩

end Go.Proofs.YtjageagnclmnjabGreatDoor.K

namespace Go.Proofs.YtjageagnclmnjabGreatDoor.D
open Go.RowKit K

/-- the functions of a kind: New, Right, Next -/
def stF (k : Int) : Nat := if k = 1 then 108 else if k = 2 then 111 else 25
def rtF (k : Int) : Nat := if k = 1 then 109 else if k = 2 then 112 else 40
def nxF (k : Int) : Nat := if k = 1 then 110 else if k = 2 then 113 else 26

theorem sender_yes (k : Int) (h : 1 ≤ k ∧ k ≤ 3) (w : World) :
    Calls Tryz.prog 85 #[.int .i64 k] w fun e w' => e = .returned (.tuple #[.agg #[.func (.func (stF k)) #[] #[], .func (.func (rtF k)) #[] #[], .func (.func (nxF k)) #[] #[]], .bool true]) ∧ Below w.heap.size w w' := by
  obtain rfl | rfl | rfl : k = 1 ∨ k = 2 ∨ k = 3 := by omega
  all_goals
    clear h
    go_enter Tryz.func85, Tryz.ntmps85
    go_wp2
    refine bodyPost_ret (by simp [results, Tryz.results85, go_sem, stF, rtF, nxF]) rfl ⟨rfl, ?_⟩
    repeat (with_reducible refine Below.setCell ?_ (by simp) _)
    exact balloc (Below.refl _ _) _

theorem sender_no (k : Int) (h1 : (k == 1) = false) (h2 : (k == 2) = false) (h3 : (k == 3) = false) (w : World) :
    Calls Tryz.prog 85 #[.int .i64 k] w fun e w' => e = .returned (.tuple #[.agg #[.nilFunc, .nilFunc, .nilFunc], .bool false]) ∧ Below w.heap.size w w' := by
  go_enter Tryz.func85, Tryz.ntmps85
  go_wp2
  refine bodyPost_ret (by simp [results, Tryz.results85, go_sem]) rfl ⟨rfl, ?_⟩
  repeat (with_reducible refine Below.setCell ?_ (by simp) _)
  exact balloc (Below.refl _ _) _

/-- what a kind offers, in block C -/
structure Snd (w : World) (C : Nat) (P Q S : Nat) : Prop where
  c0 : w.cell? ⟨C, 0, none⟩ = some (.func (.func P) #[] #[])
  c1 : w.cell? ⟨C, 1, none⟩ = some (.func (.func Q) #[] #[])
  c2 : w.cell? ⟨C, 2, none⟩ = some (.func (.func S) #[] #[])
theorem Snd.new (w : World) (C : Nat) (hC : C = w.heap.size) (P Q S : Nat) : Snd (w.alloc (.cells #[.func (.func P) #[] #[], .func (.func Q) #[] #[], .func (.func S) #[] #[]] 135)) C P Q S := by
  subst hC
  constructor <;> (rw [World.cell?_alloc_at _ _ _ _ rfl]; rfl)
theorem Snd.kept {w w' : World} {C P Q S : Nat} (h : Snd w C P Q S) (g : Below w.heap.size w w') : Snd w' C P Q S := by
  have hl : C < w.heap.size := block_lt h.c0
  exact ⟨(g.cell (p := ⟨C, 0, none⟩) hl).trans h.c0, (g.cell (p := ⟨C, 1, none⟩) hl).trans h.c1, (g.cell (p := ⟨C, 2, none⟩) hl).trans h.c2⟩
theorem Snd.far {w : World} {C P Q S D o : Nat} (h : Snd w C P Q S) (hD : D ≠ C) (v : Value) : Snd (w.setCell ⟨D, o, none⟩ v) C P Q S :=
  ⟨(World.cell?_setCell_other _ _ _ _ (fun p => hD (by injection p))).trans h.c0, (World.cell?_setCell_other _ _ _ _ (fun p => hD (by injection p))).trans h.c1, (World.cell?_setCell_other _ _ _ _ (fun p => hD (by injection p))).trans h.c2⟩
theorem Snd.drew {w : World} {C P Q S : Nat} (h : Snd w C P Q S) : Snd w.drew C P Q S := h.kept (below_drewN (Below.refl _ _) 1)

theorem within_any (n l h : Int) (w : World) :
    Calls Tryz.prog 86 #[.int .i64 n, .int .i64 l, .int .i64 h] w fun e w' => e = .returned (.bool (decide (l ≤ n) && decide (n ≤ h))) ∧ w' = w := by
  by_cases h1 : l ≤ n
  · go_enter Tryz.func86, Tryz.ntmps86
    go_wp2
    go_ret
    exact ⟨by simp [h1], rfl⟩
  · have h2 : decide (l ≤ n) = false := decide_eq_false h1
    go_enter Tryz.func86, Tryz.ntmps86
    go_wp2
    go_ret
    exact ⟨by simp, rfl⟩
end Go.Proofs.YtjageagnclmnjabGreatDoor.D

namespace Go.Proofs.YtjageagnclmnjabGreatDoor.D
open Go.RowKit K
attribute [local go_sem] idx0 idx1

set_option maxHeartbeats 3200000 in
theorem wrong_of (k0 k1 r m j : Int) (w : World) (t0 t1 t2 t3 t4 : Bool) (A0 B0 C0 A1 B1 C1 : Value)
    (h0 : (∃ a b c, t0 = true ∧ A0 = .func (.func a) #[] #[] ∧ B0 = .func (.func b) #[] #[] ∧ C0 = .func (.func c) #[] #[]) ∨ t0 = false ∧ A0 = .nilFunc ∧ B0 = .nilFunc ∧ C0 = .nilFunc)
    (h1 : (∃ a b c, t1 = true ∧ A1 = .func (.func a) #[] #[] ∧ B1 = .func (.func b) #[] #[] ∧ C1 = .func (.func c) #[] #[]) ∨ t1 = false ∧ A1 = .nilFunc ∧ B1 = .nilFunc ∧ C1 = .nilFunc)
    (s0 : ∀ v, Calls Tryz.prog 85 #[.int .i64 k0] v fun e w' => e = .returned (.tuple #[.agg #[A0, B0, C0], .bool t0]) ∧ Below v.heap.size v w')
    (s1 : ∀ v, Calls Tryz.prog 85 #[.int .i64 k1] v fun e w' => e = .returned (.tuple #[.agg #[A1, B1, C1], .bool t1]) ∧ Below v.heap.size v w')
    (c2 : ∀ v, Calls Tryz.prog 86 #[.int .i64 r, .int .i64 1, .int .i64 12] v fun e w' => e = .returned (.bool t2) ∧ w' = v)
    (c3 : ∀ v, Calls Tryz.prog 86 #[.int .i64 m, .int .i64 0, .int .i64 16] v fun e w' => e = .returned (.bool t3) ∧ w' = v)
    (c4 : ∀ v, Calls Tryz.prog 86 #[.int .i64 j, .int .i64 0, .int .i64 3] v fun e w' => e = .returned (.bool t4) ∧ w' = v) :
    Calls Tryz.prog 70 #[.agg #[.int .i64 k0, .int .i64 k1, .int .i64 r, .int .i64 m, .int .i64 j]] w fun e w' => e = .returned (.int .i64 (if t0 && t1 then if t2 && (t3 && t4) then 0 else 2 else 5)) ∧ Below w.heap.size w w' := by
  have X := Rul.new w _ rfl k0 k1 r m j
  have B : Below w.heap.size w (w.alloc (.cells #[.int .i64 k0, .int .i64 k1, .int .i64 r, .int .i64 m, .int .i64 j] 69)) := balloc (Below.refl _ _) _
  obtain ⟨x0, x1, _, _, _, _, _, _, _, _⟩ := id X
  go_enter Tryz.func70, Tryz.ntmps70
  go_wp2
  clear x0 x1
  go_loopw [9] (fun i wr => (i = .int .i64 0 ∨ i = .int .i64 1 ∧ t0 = true ∨ i = .int .i64 2 ∧ t0 = true ∧ t1 = true) ∧ Rul wr w.heap.size k0 k1 r m j ∧ Below w.heap.size w wr) (fun i _ => 2 - (intOf i).toNat)
  case atStart => exact ⟨.inl rfl, X, B⟩
  case round =>
    clear X B
    obtain ⟨rfl | ⟨rfl, rfl⟩ | ⟨rfl, rfl, rfl⟩, X, B⟩ := hrel
    · clear s1 c2 c3 c4 h1
      rcases h0 with ⟨P, Q, S, rfl, rfl, rfl, rfl⟩ | ⟨rfl, rfl, rfl, rfl⟩
      all_goals go_wp2_with (go_at_call 85; refine (s0 _).mono ?_; clear s0; rintro x v1 ⟨rfl, b⟩; replace X := X.kept b; replace B := bthen B b; clear b)
      · go_roundw
        case rel => exact ⟨.inr (.inl ⟨rfl, by first | rfl | trivial⟩), X.alloc _, balloc B _⟩
        case measure => simp [intOf]
      · go_ret
        exact ⟨rfl, balloc B _⟩
    · clear s0 c2 c3 c4 h0
      rcases h1 with ⟨P, Q, S, rfl, rfl, rfl, rfl⟩ | ⟨rfl, rfl, rfl, rfl⟩
      all_goals go_wp2_with (go_at_call 85; refine (s1 _).mono ?_; clear s1; rintro x v1 ⟨rfl, b⟩; replace X := X.kept b; replace B := bthen B b; clear b)
      · go_roundw
        case rel => exact ⟨.inr (.inr ⟨rfl, by first | rfl | trivial, by first | rfl | trivial⟩), X.alloc _, balloc B _⟩
        case measure => simp [intOf]
      · go_ret
        exact ⟨rfl, balloc B _⟩
    · obtain ⟨_, _, x2, x3, x4, _, _, _, _, _⟩ := id X
      clear s0 s1 h0 h1
      cases t2
      case' true => cases t3
      case' true.true => cases t4
      all_goals
        go_wp2_with (first
          | (go_at_call 86; refine (c2 _).mono ?_; clear c2; rintro x v1 ⟨rfl, rfl⟩)
          | (go_at_call 86; refine (c3 _).mono ?_; clear c3; rintro x v1 ⟨rfl, rfl⟩)
          | (go_at_call 86; refine (c4 _).mono ?_; clear c4; rintro x v1 ⟨rfl, rfl⟩))
        go_ret
        exact ⟨rfl, B⟩

theorem sender_any (k : Int) : ∃ A B C, ((∃ a b c, (decide (1 ≤ k) && decide (k ≤ 3)) = true ∧ A = .func (.func a) #[] #[] ∧ B = .func (.func b) #[] #[] ∧ C = .func (.func c) #[] #[]) ∨ (decide (1 ≤ k) && decide (k ≤ 3)) = false ∧ A = .nilFunc ∧ B = .nilFunc ∧ C = .nilFunc) ∧ ∀ w, Calls Tryz.prog 85 #[.int .i64 k] w fun e w' => e = .returned (.tuple #[.agg #[A, B, C], .bool (decide (1 ≤ k) && decide (k ≤ 3))]) ∧ Below w.heap.size w w' := by
  by_cases h : 1 ≤ k ∧ k ≤ 3
  · have e : (decide (1 ≤ k) && decide (k ≤ 3)) = true := by simp [h]
    rw [e]
    refine ⟨_, _, _, .inl ⟨stF k, rtF k, nxF k, rfl, rfl, rfl, rfl⟩, fun w => ?_⟩
    exact sender_yes k h w
  · have e : (decide (1 ≤ k) && decide (k ≤ 3)) = false := by simp; omega
    rw [e]
    refine ⟨_, _, _, .inr ⟨rfl, rfl, rfl, rfl⟩, fun w => ?_⟩
    exact sender_no k (by simp; omega) (by simp; omega) (by simp; omega) w

theorem wrong_any (r : Ru) (w : World) :
    Calls Tryz.prog 70 #[.agg #[.int .i64 r.k0, .int .i64 r.k1, .int .i64 r.r, .int .i64 r.m, .int .i64 r.j]] w fun e w' => e = .returned (.int .i64 (wrong r)) ∧ Below w.heap.size w w' := by
  obtain ⟨A0, B0, C0, h0, s0⟩ := sender_any r.k0
  obtain ⟨A1, B1, C1, h1, s1⟩ := sender_any r.k1
  refine (wrong_of r.k0 r.k1 r.r r.m r.j w _ _ _ _ _ A0 B0 C0 A1 B1 C1 h0 h1 s0 s1 (within_any _ _ _) (within_any _ _ _) (within_any _ _ _)).mono ?_
  rintro e w' ⟨rfl, b⟩
  refine ⟨?_, b⟩
  congr 2
  unfold wrong
  by_cases hk : kinds r
  · rw [if_pos hk]
    unfold kinds at hk
    rw [if_pos (by simp only [Bool.and_eq_true, decide_eq_true_iff]; omega)]
    by_cases hr : ranges r
    · rw [if_pos hr]
      unfold ranges at hr
      rw [if_pos (by simp only [Bool.and_eq_true, decide_eq_true_iff]; omega)]
    · rw [if_neg hr]
      unfold ranges at hr
      rw [if_neg (by simp only [Bool.and_eq_true, decide_eq_true_iff]; omega)]
  · rw [if_neg hk]
    unfold kinds at hk
    rw [if_neg (by simp only [Bool.and_eq_true, decide_eq_true_iff]; omega)]
theorem wrong_is (r : Ru) (e : Int) (h : wrong r = e) (w : World) :
    Calls Tryz.prog 70 #[.agg #[.int .i64 r.k0, .int .i64 r.k1, .int .i64 r.r, .int .i64 r.m, .int .i64 r.j]] w fun x w' => x = .returned (.int .i64 e) ∧ Below w.heap.size w w' := by subst h; exact wrong_any r w

end Go.Proofs.YtjageagnclmnjabGreatDoor.D
