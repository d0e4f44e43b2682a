/- PROVED: what '==' tells of two controls. CONDITIONS: none beyond each theorem's own. -/
import Derived.Test.YtobgjnjndkfjoaaMem
import Derived.Laws.StructEq
namespace Go.Proofs.Ytobgjnjndkfjoaa.C
open Go.RowKit

theorem partC (xs : Array Value) (i : Nat) (v : Int) (h : xs[i]? = some (.int .i64 v)) (w : World) : (part 3 xs i).run Try.prog w = .ok (.int .i64 v) w := by
  simp [part, go_sem, h]

theorem eqField (xs ys : Array Value) (f : Field) (fs : List Field) (i : Nat) (x y : Int) (w : World) (hn : (f.name == "_") = false) (ht : f.type = 3) (ho : f.offset = i) (hx : xs[i]? = some (.int .i64 x)) (hy : ys[i]? = some (.int .i64 y)) (B : Bool)
    (hr : (Op.eqFields 9999 xs ys fs).run Try.prog w = .ok B w) :
    (Op.eqFields 9999 xs ys (f :: fs)).run Try.prog w = .ok (decide (x = y) && B) w := by
  have hn' : f.name ≠ "_" := by simpa using hn
  rw [Op.eqFields, if_pos hn', ht, ho]
  simp only [Sem.run_bind, partC xs i x hx, partC ys i y hy, Result.andThen_ok, run_equalIn_int w 9998 3 .i64 .i64 x y Try.underlying3]
  by_cases h : x = y
  · simp [h, hr]
  · simp [h]

theorem six {xs : List Field} (h : xs.map (fun f => (f.name == "_", f.type, f.offset)) = [(false, 3, 0), (false, 3, 1), (false, 3, 2), (false, 3, 3), (false, 3, 4), (false, 3, 5)]) :
    ∃ f0 f1 f2 f3 f4 f5, xs = [f0, f1, f2, f3, f4, f5] := by
  have hl : xs.length = 6 := by simpa using congrArg List.length h
  match xs, hl with
  | [f0, f1, f2, f3, f4, f5], _ => exact ⟨f0, f1, f2, f3, f4, f5, rfl⟩
theorem Try.fields23 : (Try.prog.fieldsOf 26).toList.map (fun f => (f.name == "_", f.type, f.offset)) = [(false, 3, 0), (false, 3, 1), (false, 3, 2), (false, 3, 3), (false, 3, 4), (false, 3, 5)] := by kernel_rfl

theorem eqC (k n b a s q k' n' b' a' s' q' : Int) (w : World) :
    (binOp .eql 26 (.agg #[.int .i64 k, .int .i64 n, .int .i64 b, .int .i64 a, .int .i64 s, .int .i64 q]) (.agg #[.int .i64 k', .int .i64 n', .int .i64 b', .int .i64 a', .int .i64 s', .int .i64 q'])).run Try.prog w
      = .ok (.bool (decide (k = k') && (decide (n = n') && (decide (b = b') && (decide (a = a') && (decide (s = s') && (decide (q = q') && true))))))) w := by
  rw [run_eql_struct, run_equalIn_agg (d := 9999) _ _ _ _ (by kernel_rfl) (by kernel_rfl)]
  have hf := Try.fields23
  obtain ⟨f0, f1, f2, f3, f4, f5, e⟩ := six hf
  rw [e] at hf ⊢
  simp only [List.map_cons, List.map_nil, List.cons.injEq, Prod.mk.injEq, and_true] at hf
  obtain ⟨⟨a0, b0, c0⟩, ⟨a1, b1, c1⟩, ⟨a2, b2, c2⟩, ⟨a3, b3, c3⟩, ⟨a4, b4, c4⟩, ⟨a5, b5, c5⟩⟩ := hf
  rw [eqField _ _ f0 _ 0 k k' w a0 b0 c0 rfl rfl _ (eqField _ _ f1 _ 1 n n' w a1 b1 c1 rfl rfl _ (eqField _ _ f2 _ 2 b b' w a2 b2 c2 rfl rfl _ (eqField _ _ f3 _ 3 a a' w a3 b3 c3 rfl rfl _ (eqField _ _ f4 _ 4 s s' w a4 b4 c4 rfl rfl _ (eqField _ _ f5 _ 5 q q' w a5 b5 c5 rfl rfl true (by simp [Op.eqFields]))))))]
  rfl

/-- whether they are the same -/
def sameC (k n b a s q k' n' b' a' s' q' : Int) : Bool := decide (k = k') && (decide (n = n') && (decide (b = b') && (decide (a = a') && (decide (s = s') && (decide (q = q') && true)))))
theorem eqS (k n b a s q k' n' b' a' s' q' : Int) (w : World) :
    (binOp .eql 26 (.agg #[.int .i64 k, .int .i64 n, .int .i64 b, .int .i64 a, .int .i64 s, .int .i64 q]) (.agg #[.int .i64 k', .int .i64 n', .int .i64 b', .int .i64 a', .int .i64 s', .int .i64 q'])).run Try.prog w = .ok (.bool (sameC k n b a s q k' n' b' a' s' q')) w := eqC k n b a s q k' n' b' a' s' q' w
theorem same_is {k n b a s q k' n' b' a' s' q' : Int} : sameC k n b a s q k' n' b' a' s' q' = true ↔ k = k' ∧ n = n' ∧ b = b' ∧ a = a' ∧ s = s' ∧ q = q' := by
  unfold sameC; simp
theorem same_self (k n b a s q : Int) : sameC k n b a s q k n b a s q = true := same_is.2 ⟨rfl, rfl, rfl, rfl, rfl, rfl⟩

end Go.Proofs.Ytobgjnjndkfjoaa.C
