/- PROVED: what it is to answer a row; rows that grow by append. CONDITIONS: none beyond each theorem's own. -/
import Derived.Test.YtggnhgbimkfdaaaSmall
namespace Go.Proofs.Ytggnhgbimkfdaaa
open Go.RowKit

/-- what a call answers: a row -/
def Ans (w : World) (R : List Int) (e : Ending) (w' : World) : Prop :=
  ∃ ao cap, e = .returned (.slice ao R.length cap) ∧ R.length ≤ cap ∧ Row w' ao R ∧ Below w.heap.size w w'

theorem owned_cap {w : World} {base : Nat} {t : Value} {R : List Int} (h : w.ownsRow base 3 1 t R.length (R.map (Value.int .i64))) : ∃ ao cap, t = .slice ao R.length cap ∧ R.length ≤ cap ∧ Row w ao R := by
  obtain ⟨ao, cap, e, hR⟩ := owned_row h
  refine ⟨ao, cap, e, ?_, hR⟩
  obtain ⟨_, ⟨e2, e3⟩ | ⟨g, cap', cur, e2, _, _, hnc, _⟩⟩ := h
  · omega
  · rw [e] at e2; injection e2 with _ _ e2; omega

theorem Gath.done {w : World} {t : Value} {wr : World} {R : List Int} (h : Gath w t wr R) : Ans w R (.returned t) wr := by
  obtain ⟨ao, cap, rfl, hc, hr⟩ := owned_cap h.own
  exact ⟨ao, cap, rfl, hc, hr, h.below⟩
theorem Gath.next {w : World} {t t' : Value} {wr w1 w2 : World} {f : Nat → Int} {k : Nat} (h : Gath w t wr (outs f k)) (hb : Below wr.heap.size wr w1) {x : Int} (hx : x = f k)
    (ho : w2.ownsRow w.heap.size 3 1 t' ((outs f k).length + 1) ((outs f k).map (Value.int .i64) ++ [.int .i64 x])) {o : Obj} (hg : (w1.alloc o).grownBy w2 t.ownBlock) : Gath w t' w2 (outs f (k + 1)) := by
  rw [outs_succ, ← hx]
  exact h.step hb ho hg
theorem own_drew {wr : World} {base : Nat} {t : Value} {n : Nat} {xs : List Value} (h : wr.ownsRow base 3 1 t n xs) (q : Nat) : (wr.drewN q).ownsRow base 3 1 t n xs := own_kept h (below_drewN (Below.refl _ _) q)

end Go.Proofs.Ytggnhgbimkfdaaa
