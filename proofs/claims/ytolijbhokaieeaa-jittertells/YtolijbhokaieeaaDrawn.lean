/- PROVED: rows that grow by append in a region that draws its order. CONDITIONS: none beyond each theorem's own. -/
import Derived.Test.YtolijbhokaieeaaAns
import Derived.RangeFuncBox
import Derived.Maps.AppendAt
namespace Go.Proofs.Ytolijbhokaieeaa
open Go.RowKit

/-- append, kept whole -/
def appe (ats : Array TypeId) (ty : TypeId) (args : Array Value) : Sem Value := Builtin.append_ ats ty args
theorem appe_whole (ats : Array TypeId) (ty : TypeId) (args : Array Value) : Builtin.append_ ats ty args = appe ats ty args := rfl

theorem hide {p : Prop} (h : p) : Hid p := h

/-- one number more -/
theorem Gath.drawn {w : World} {t : Value} {wr : World} {f : Nat → Int} {k : Nat} (h : Gath w t wr (outs f k)) (hk : k + 1 ≤ 17592186044416) {x : Int} (hx : x = f k) :
    ∃ g cap w2, (appe #[22, 22] 22 #[t, .slice (some ⟨wr.heap.size, 0, none⟩) 1 1]).run Try.prog (wr.alloc (.cells #[.int .i64 x] 3)).drew = .ok (.slice (some ⟨g, 0, none⟩) (k + 1) cap) w2 ∧ Gath w (.slice (some ⟨g, 0, none⟩) (k + 1) cap) w2 (outs f (k + 1)) := by
  obtain ⟨i0, hi, hz0, hz1, hz2⟩ := info_parts Try.info3
  have hl := outs_len f k
  have ho : wr.drew.ownsRow w.heap.size 3 1 t (outs f k).length ((outs f k).map (Value.int .i64)) := own_kept h.own (Below.drew (Below.refl _ _))
  obtain ⟨v', w2, hrun, hown, hgrow, _⟩ := run_append_own (P := Try.prog) (wr.drew.alloc (.cells #[.int .i64 x] 3)) w.heap.size 22 22 3 i0 (.int .i64 0) 1 8 Try.underlying22 hi hz0 hz1 hz2 rfl (by decide) t _ _ (ho.alloc _) ⟨wr.heap.size, 0, none⟩ 1 1 [.int .i64 x] rfl (cell_one_new wr.drew _ _) (by simp [Value.oneCell']) (by unfold maxLen; omega) (by omega) (by have := h.below.size; simp; omega)
  have hS := h.next (Below.drew (Below.refl _ _)) hx hown hgrow
  rw [hl] at hown
  obtain ⟨g, cap, rfl⟩ := ownsRow_succ hown
  exact ⟨g, cap, w2, hrun, hS⟩

end Go.Proofs.Ytolijbhokaieeaa
