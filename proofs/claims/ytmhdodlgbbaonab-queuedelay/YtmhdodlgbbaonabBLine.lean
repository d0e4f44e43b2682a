/- PROVED: what bucket.Line answers. CONDITIONS: none beyond each theorem's own. -/
import Derived.Test.YtmhdodlgbbaonabConv
import Derived.Test.YtmhdodlgbbaonabBRight
namespace Go.Proofs.Ytmhdodlgbbaonab
open Go.RowKit

/-- a bucket of the call's own, in block O -/
structure Bk (w : World) (O : Nat) (R B : Int) : Prop where
  r : w.cell? ⟨O, 0, none⟩ = some (.int .i64 R)
  b : w.cell? ⟨O, 1, none⟩ = some (.int .i64 B)
theorem Bk.new (w : World) (R B : Int) : Bk (w.alloc (.cells #[.int .i64 R, .int .i64 B] 36)) w.heap.size R B :=
  ⟨by rw [World.cell?_alloc_at _ _ _ _ rfl]; rfl, by rw [World.cell?_alloc_at _ _ _ _ rfl]; rfl⟩
theorem Bk.kept {w w' : World} {O : Nat} {R B : Int} (h : Bk w O R B) (b : Below w.heap.size w w') : Bk w' O R B :=
  ⟨(b.cell (p := ⟨O, 0, none⟩) (block_lt h.r)).trans h.r, (b.cell (p := ⟨O, 1, none⟩) (block_lt h.b)).trans h.b⟩
theorem Bk.alloc {w : World} {O : Nat} {R B : Int} (h : Bk w O R B) (o : Obj) : Bk (w.alloc o) O R B := h.kept (balloc (Below.refl _ _) o)
theorem alloc_up {w w1 : World} {o : Obj} (h : Below (w.alloc o).heap.size (w.alloc o) w1) : Below w.heap.size w w1 := bthen (balloc (Below.refl _ _) o) h

theorem nil_ans {w w' : World} (b : Below w.heap.size w w') : Ans w [] (.returned (.slice none 0 0)) w' := ⟨none, 0, rfl, Nat.le_refl _, .inl rfl, b⟩

theorem mul_in {m : Int} (k : Nat) (h0 : 0 ≤ m) (h1 : m ≤ 1099511627776) (hk : k ≤ 300) : 0 ≤ (k : Int) * m ∧ (k : Int) * m ≤ 329853488332800 := by
  refine ⟨Int.mul_nonneg (by omega) h0, ?_⟩
  have h2 : (k : Int) * m ≤ 300 * m := Int.mul_le_mul_of_nonneg_right (by omega) h0
  omega

end Go.Proofs.Ytmhdodlgbbaonab
