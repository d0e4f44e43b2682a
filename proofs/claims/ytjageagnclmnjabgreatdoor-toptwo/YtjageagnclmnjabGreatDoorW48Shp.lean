/- PROVED: the walk of the law TopShaped. CONDITIONS: none beyond each theorem's own. -/
import Derived.Test.YtjageagnclmnjabGreatDoorW42Alt
import Derived.Test.YtjageagnclmnjabGreatDoorW45BQDelay
import Derived.Test.YtjageagnclmnjabGreatDoorW47BTop
namespace Go.Proofs.YtjageagnclmnjabGreatDoor.B
set_option maxRecDepth 100000
open Go.RowKit
set_option linter.unusedVariables false

theorem qright_l (R B : Int) (a : Option Addr) (c n : Nat) (f : List Int) (w : World) (k : Row w a f) (e1 : f.length = n) (b : Bool) (hb : decide (bright R B f) = b) :
    Calls Tryz.prog 10 #[.int .i64 R, .int .i64 B, .slice a n c] w fun e w' => e = .returned (.bool b) ∧ Below w.heap.size w w' := by
  subst e1; subst hb; exact qright_any R B a c f w k
theorem play_l (R M : Int) (a : Option Addr) (c n : Nat) (z X Y Z : List Int) (w : World) (hz : Row w a z) (en : z.length = n) (h : bright R M z) (hX : outs (qg R M fun j => z.getD j 0) n = X) (hY : outs (ql R M fun j => z.getD j 0) n = Y) (hZ : outs (qw R M fun j => z.getD j 0) n = Z) :
    Calls Tryz.prog 11 #[.int .i64 R, .int .i64 M, .slice a n c] w (Ans3 w n X Y Z) := by
  subst en; subst hX; subst hY; subst hZ
  exact play_any R M a c z w hz h
theorem qu_ext {Q M : Int} {F G : Nat → Int} (t : Nat) (h : ∀ j, j < t → F j = G j) : qu Q M F t = qu Q M G t := by
  induction t with
  | zero => rfl
  | succ t ih =>
    have := ih fun j hj => h j (by omega)
    show qu Q M F t + F t - min (qu Q M F t + F t) Q - max (qu Q M F t + F t - min (qu Q M F t + F t) Q - M) 0 = _
    rw [this, h t (by omega)]
    rfl
theorem qg_ext {Q M : Int} {F G : Nat → Int} (t : Nat) (h : ∀ j, j ≤ t → F j = G j) : qg Q M F t = qg Q M G t := by
  unfold qg
  rw [qu_ext t fun j hj => h j (by omega), h t (Nat.le_refl _)]
end Go.Proofs.YtjageagnclmnjabGreatDoor.B
