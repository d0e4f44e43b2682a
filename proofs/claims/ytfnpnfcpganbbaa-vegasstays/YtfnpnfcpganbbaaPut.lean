/- PROVED: a control of the call's own that is written whole. CONDITIONS: none beyond each theorem's own. -/
import Derived.Test.YtfnpnfcpganbbaaAlive
namespace Go.Proofs.Ytfnpnfcpganbbaa
open Go.RowKit

theorem Ctl.set0 {w : World} {C : Nat} {k n b a s q : Int} (h : Ctl w C k n b a s q) (v : Int) : Ctl (w.setCell ⟨C, 0, none⟩ (.int .i64 v)) C v n b a s q :=
  ⟨World.cell?_setCell_same _ _ _ h.c0, (World.cell?_setCell_other _ _ _ _ (by simp)).trans h.c1, (World.cell?_setCell_other _ _ _ _ (by simp)).trans h.c2, (World.cell?_setCell_other _ _ _ _ (by simp)).trans h.c3, (World.cell?_setCell_other _ _ _ _ (by simp)).trans h.c4, (World.cell?_setCell_other _ _ _ _ (by simp)).trans h.c5,
    (World.frozen?_setCell _ _ _ _).trans h.f0, (World.frozen?_setCell _ _ _ _).trans h.f1, (World.frozen?_setCell _ _ _ _).trans h.f2, (World.frozen?_setCell _ _ _ _).trans h.f3, (World.frozen?_setCell _ _ _ _).trans h.f4, (World.frozen?_setCell _ _ _ _).trans h.f5⟩
theorem Ctl.set3 {w : World} {C : Nat} {k n b a s q : Int} (h : Ctl w C k n b a s q) (v : Int) : Ctl (w.setCell ⟨C, 3, none⟩ (.int .i64 v)) C k n b v s q :=
  ⟨(World.cell?_setCell_other _ _ _ _ (by simp)).trans h.c0, (World.cell?_setCell_other _ _ _ _ (by simp)).trans h.c1, (World.cell?_setCell_other _ _ _ _ (by simp)).trans h.c2, World.cell?_setCell_same _ _ _ h.c3, (World.cell?_setCell_other _ _ _ _ (by simp)).trans h.c4, (World.cell?_setCell_other _ _ _ _ (by simp)).trans h.c5,
    (World.frozen?_setCell _ _ _ _).trans h.f0, (World.frozen?_setCell _ _ _ _).trans h.f1, (World.frozen?_setCell _ _ _ _).trans h.f2, (World.frozen?_setCell _ _ _ _).trans h.f3, (World.frozen?_setCell _ _ _ _).trans h.f4, (World.frozen?_setCell _ _ _ _).trans h.f5⟩
theorem Ctl.set4 {w : World} {C : Nat} {k n b a s q : Int} (h : Ctl w C k n b a s q) (v : Int) : Ctl (w.setCell ⟨C, 4, none⟩ (.int .i64 v)) C k n b a v q :=
  ⟨(World.cell?_setCell_other _ _ _ _ (by simp)).trans h.c0, (World.cell?_setCell_other _ _ _ _ (by simp)).trans h.c1, (World.cell?_setCell_other _ _ _ _ (by simp)).trans h.c2, (World.cell?_setCell_other _ _ _ _ (by simp)).trans h.c3, World.cell?_setCell_same _ _ _ h.c4, (World.cell?_setCell_other _ _ _ _ (by simp)).trans h.c5,
    (World.frozen?_setCell _ _ _ _).trans h.f0, (World.frozen?_setCell _ _ _ _).trans h.f1, (World.frozen?_setCell _ _ _ _).trans h.f2, (World.frozen?_setCell _ _ _ _).trans h.f3, (World.frozen?_setCell _ _ _ _).trans h.f4, (World.frozen?_setCell _ _ _ _).trans h.f5⟩
theorem Ctl.set5 {w : World} {C : Nat} {k n b a s q : Int} (h : Ctl w C k n b a s q) (v : Int) : Ctl (w.setCell ⟨C, 5, none⟩ (.int .i64 v)) C k n b a s v :=
  ⟨(World.cell?_setCell_other _ _ _ _ (by simp)).trans h.c0, (World.cell?_setCell_other _ _ _ _ (by simp)).trans h.c1, (World.cell?_setCell_other _ _ _ _ (by simp)).trans h.c2, (World.cell?_setCell_other _ _ _ _ (by simp)).trans h.c3, (World.cell?_setCell_other _ _ _ _ (by simp)).trans h.c4, World.cell?_setCell_same _ _ _ h.c5,
    (World.frozen?_setCell _ _ _ _).trans h.f0, (World.frozen?_setCell _ _ _ _).trans h.f1, (World.frozen?_setCell _ _ _ _).trans h.f2, (World.frozen?_setCell _ _ _ _).trans h.f3, (World.frozen?_setCell _ _ _ _).trans h.f4, (World.frozen?_setCell _ _ _ _).trans h.f5⟩
theorem Ctl.put {w : World} {C : Nat} {k n b a s q : Int} (h : Ctl w C k n b a s q) (k' n' b' a' s' q' : Int) : Ctl ((((((w.setCell ⟨C, 0, none⟩ (.int .i64 k')).setCell ⟨C, 1, none⟩ (.int .i64 n')).setCell ⟨C, 2, none⟩ (.int .i64 b')).setCell ⟨C, 3, none⟩ (.int .i64 a')).setCell ⟨C, 4, none⟩ (.int .i64 s')).setCell ⟨C, 5, none⟩ (.int .i64 q')) C k' n' b' a' s' q' :=
  (((((h.set0 k').set1 n').set2 b').set3 a').set4 s').set5 q'
theorem right_yes (k n b a s q : Int) (h : kright k n b a s q) (w : World) :
    Calls Try.prog 10 #[.agg #[.int .i64 k, .int .i64 n, .int .i64 b, .int .i64 a, .int .i64 s, .int .i64 q]] w fun e w' => e = .returned (.bool true) ∧ Below w.heap.size w w' := by
  have := right_any k n b a s q w
  rw [decide_eq_true h] at this
  exact this

end Go.Proofs.Ytfnpnfcpganbbaa
