/- STATED: what mean.Greatest and mean.Best answer, as what follows wants it. PROVED: where there is a cycle some fraction is the greatest. CONDITIONS: none beyond each theorem's own. -/
import Derived.Test.YtdbpgcaodgkcjaaMx
import Derived.Test.YtdbpgcaodgkcjaaEdg
import Derived.Test.YtdbpgcaodgkcjaaFr
namespace Go.Proofs.Ytdbpgcaodgkcjaa
open Go.RowKit
set_option linter.unusedVariables false

theorem lam_all {n : Nat} {es : List Eg} (hG : Gph n es) (h : ∃ l, Cyc es l) : ∃ (p : Int) (q : Nat), 1 ≤ q ∧ q ≤ n ∧ (-1048576 * (q : Int) ≤ p ∧ p ≤ 1048576 * (q : Int)) ∧ Lam es p q := by
  obtain ⟨p, q, h1, h2, ⟨l, ⟨_, u, hu⟩, h4, h5⟩, h6⟩ := lam_some hG.inn (fun e he => (hG.wgt e he).2) h
  have a1 := wt_le (fun e he => (hG.wgt e he).2) hu
  have a2 := wt_ge (fun e he => (hG.wgt e he).1) hu
  rw [h4, h5] at a1 a2
  exact ⟨p, q, h1, h2, ⟨a2, a1⟩, h6⟩

/-- mean.Greatest, where there is a cycle | where there is none | of a wrong graph -/
def GSome : Prop := ∀ (n : Nat) (es : List Eg), Gph n es → ∀ (a : Option Addr) (cap m : Nat), es.length = m → ∀ (p : Int) (q : Nat), 1 ≤ q → q ≤ n → (-1048576 * (q : Int) ≤ p ∧ p ≤ 1048576 * (q : Int)) → Lam es p q → ∀ v, GRow v a es →
  Calls Try.prog 7 #[.agg #[.int .i64 n, .slice a m cap]] v fun e w' => ∃ P Q : Int, e = .returned (.tuple #[.agg #[.int .i64 P, .int .i64 Q], .int .i64 0]) ∧ Low P Q ∧ P * (q : Int) = p * Q ∧ Below v.heap.size v w'
def GNone : Prop := ∀ (n : Nat) (es : List Eg), Gph n es → ∀ (a : Option Addr) (cap m : Nat), es.length = m → (¬ ∃ l, Cyc es l) → ∀ v, GRow v a es →
  Calls Try.prog 7 #[.agg #[.int .i64 n, .slice a m cap]] v fun e w' => e = .returned (.tuple #[.agg #[.int .i64 0, .int .i64 0], .int .i64 3]) ∧ Below v.heap.size v w'
def GWrong : Prop := ∀ (N : Int) (a : Option Addr) (cap : Nat) (L : List Ed), L.length ≤ 9223372036854775807 → ¬ grt N L → ∀ v, ERow v a L →
  Calls Try.prog 7 #[.agg #[.int .i64 N, .slice a L.length cap]] v fun e w' => e = .returned (.tuple #[.agg #[.int .i64 0, .int .i64 0], .int .i64 2]) ∧ Below v.heap.size v w'
/-- the numbers of a cycle that weighs p through q by the edge -/
structure Rbe (n : Nat) (es : List Eg) (p : Int) (q : Nat) (R : Nat → Nat) (k : Nat) : Prop where
  k1 : 1 ≤ k
  kn : k ≤ n
  wok : Wok es R k
  ends : (eg es (R 0)).f = (eg es (R (k - 1))).t
  just : (q : Int) * nsum es R k = p * (k : Int)
/-- k numbers, from place o of block g on -/
structure Cat (w : World) (g o k : Nat) (V : Nat → Int) : Prop where
  c : ∀ j, j < k → w.cell? ⟨g, o + j, none⟩ = some (.int .i64 (V j))
theorem Cat.kept {w w' : World} {g o k : Nat} {V : Nat → Int} (h : Cat w g o k V) (b : Below w.heap.size w w') : Cat w' g o k V := ⟨fun j hj => (b.cell (p := ⟨g, o + j, none⟩) (block_lt (h.c j hj))).trans (h.c j hj)⟩
theorem Cat.row {w : World} {g o k : Nat} {V : Nat → Int} (h : Cat w g o k V) : Row w (some ⟨g, o, none⟩) (outs V k) := .inr ⟨g, o, rfl, fun j hj => by
  rw [outs_len] at hj
  rw [outs_getD _ _ _ hj]; exact h.c j hj⟩
/-- mean.Best, likewise -/
def BSome : Prop := ∀ (n : Nat) (es : List Eg), Gph n es → ∀ (a : Option Addr) (cap m : Nat), es.length = m → ∀ (p : Int) (q : Nat), 1 ≤ q → q ≤ n → (-1048576 * (q : Int) ≤ p ∧ p ≤ 1048576 * (q : Int)) → Lam es p q → ∀ v, GRow v a es →
  Calls Try.prog 9 #[.agg #[.int .i64 n, .slice a m cap]] v fun e w' => ∃ g o k c R, e = .returned (.tuple #[.slice (some ⟨g, o, none⟩) k c, .int .i64 0]) ∧ Rbe n es p q R k ∧ k ≤ c ∧ Cat w' g o k (fun j => (R j : Int)) ∧ Below v.heap.size v w'
def BNone : Prop := ∀ (n : Nat) (es : List Eg), Gph n es → ∀ (a : Option Addr) (cap m : Nat), es.length = m → (¬ ∃ l, Cyc es l) → ∀ v, GRow v a es →
  Calls Try.prog 9 #[.agg #[.int .i64 n, .slice a m cap]] v fun e w' => e = .returned (.tuple #[.slice none 0 0, .int .i64 3]) ∧ Below v.heap.size v w'
def BWrong : Prop := ∀ (N : Int) (a : Option Addr) (cap : Nat) (L : List Ed), L.length ≤ 9223372036854775807 → ¬ grt N L → ∀ v, ERow v a L →
  Calls Try.prog 9 #[.agg #[.int .i64 N, .slice a L.length cap]] v fun e w' => e = .returned (.tuple #[.slice none 0 0, .int .i64 2]) ∧ Below v.heap.size v w'

end Go.Proofs.Ytdbpgcaodgkcjaa
