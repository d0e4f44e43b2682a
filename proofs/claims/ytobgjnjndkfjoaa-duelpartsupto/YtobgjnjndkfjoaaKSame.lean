/- PROVED: what '==' tells of two pairs of numbers, and of two rounds. CONDITIONS: none beyond each theorem's own. -/
import Derived.Test.YtobgjnjndkfjoaaKMem
import Derived.Laws.StructEq
import Derived.ChangeKeysEq
namespace Go.Proofs.Ytobgjnjndkfjoaa.K
open Go.RowKit

theorem Try.cells3 : Try.prog.cellsOf 3 = 1 := by kernel_rfl
theorem Try.infos3 : (Try.prog.info? 3).isSome = true := by kernel_rfl

/-- whether they are the same -/
def sameA (a b x y : Int) : Bool := decide (a = x) && (decide (b = y) && true)
theorem partC (xs : Array Value) (i : Nat) (v : Int) (h : xs[i]? = some (.int .i64 v)) (w : World) : (part 3 xs i).run Try.prog w = .ok (.int .i64 v) w := by
  simp [part, go_sem, h]
theorem eqItem (d : Nat) (xs ys : Array Value) (i : Nat) (is : List Nat) (x y : Int) (w : World) (hx : xs[i]? = some (.int .i64 x)) (hy : ys[i]? = some (.int .i64 y)) (B : Bool) (hr : (Op.eqItems (d + 1) 3 1 xs ys is).run Try.prog w = .ok B w) :
    (Op.eqItems (d + 1) 3 1 xs ys (i :: is)).run Try.prog w = .ok (decide (x = y) && B) w := by
  rw [Op.eqItems, Nat.mul_one]
  simp only [Sem.run_bind, partC xs i x hx, partC ys i y hy, Result.andThen_ok, run_equalIn_int w d 3 .i64 .i64 x y Try.underlying3]
  by_cases h : x = y
  · simp [h, hr]
  · simp [h]
theorem eqArr (d : Nat) (a b x y : Int) (w : World) : (Op.equalIn (d + 2) 22 (.agg #[.int .i64 a, .int .i64 b]) (.agg #[.int .i64 x, .int .i64 y])).run Try.prog w = .ok (sameA a b x y) w := by
  obtain ⟨i, hi⟩ := Option.isSome_iff_exists.1 Try.infos3
  rw [run_equalIn_array w (d + 1) _ _ Try.underlying22 hi, Try.cells3, show List.range 2 = [0, 1] from rfl]
  exact eqItem d _ _ 0 _ a x w rfl rfl _ (eqItem d _ _ 1 _ b y w rfl rfl true (by simp [Op.eqItems]))
theorem eqA (a b x y : Int) (w : World) :
    (binOp .eql 22 (.agg #[.int .i64 a, .int .i64 b]) (.agg #[.int .i64 x, .int .i64 y])).run Try.prog w = .ok (.bool (sameA a b x y)) w := by
  rw [run_eql_struct, eqArr 9998]; rfl

theorem part0 (c0 c1 c2 c3 c4 c5 : Value) (w : World) : (part 22 #[c0, c1, c2, c3, c4, c5] 0).run Try.prog w = .ok (.agg #[c0, c1]) w := by kernel_rfl
theorem part2 (c0 c1 c2 c3 c4 c5 : Value) (w : World) : (part 22 #[c0, c1, c2, c3, c4, c5] 2).run Try.prog w = .ok (.agg #[c2, c3]) w := by kernel_rfl
theorem part4 (c0 c1 c2 c3 c4 c5 : Value) (w : World) : (part 22 #[c0, c1, c2, c3, c4, c5] 4).run Try.prog w = .ok (.agg #[c4, c5]) w := by kernel_rfl
theorem eqField (xs ys : Array Value) (f : Field) (fs : List Field) (i : Nat) (a b x y : Int) (w : World) (hn : (f.name == "_") = false) (ht : f.type = 22) (ho : f.offset = i) (hx : (part 22 xs i).run Try.prog w = .ok (.agg #[.int .i64 a, .int .i64 b]) w) (hy : (part 22 ys i).run Try.prog w = .ok (.agg #[.int .i64 x, .int .i64 y]) w) (B : Bool)
    (hr : (Op.eqFields 9999 xs ys fs).run Try.prog w = .ok B w) :
    (Op.eqFields 9999 xs ys (f :: fs)).run Try.prog w = .ok (sameA a b x y && B) w := by
  have hn' : f.name ≠ "_" := by simpa using hn
  rw [Op.eqFields, if_pos hn', ht, ho]
  simp only [Sem.run_bind, hx, hy, Result.andThen_ok, eqArr 9997]
  cases sameA a b x y
  · simp
  · simp [hr]
theorem three {xs : List Field} (h : xs.map (fun f => (f.name == "_", f.type, f.offset)) = [(false, 22, 0), (false, 22, 2), (false, 22, 4)]) : ∃ f0 f1 f2, xs = [f0, f1, f2] := by
  have hl : xs.length = 3 := by simpa using congrArg List.length h
  match xs, hl with
  | [f0, f1, f2], _ => exact ⟨f0, f1, f2, rfl⟩
theorem Try.fields24 : (Try.prog.fieldsOf 34).toList.map (fun f => (f.name == "_", f.type, f.offset)) = [(false, 22, 0), (false, 22, 2), (false, 22, 4)] := by kernel_rfl
/-- whether they are the same -/
def sameR (a b c d e f x y z u v q : Int) : Bool := sameA a b x y && (sameA c d z u && (sameA e f v q && true))
theorem eqR (a b c d e f x y z u v q : Int) (w : World) :
    (binOp .eql 34 (.agg #[.int .i64 a, .int .i64 b, .int .i64 c, .int .i64 d, .int .i64 e, .int .i64 f]) (.agg #[.int .i64 x, .int .i64 y, .int .i64 z, .int .i64 u, .int .i64 v, .int .i64 q])).run Try.prog w = .ok (.bool (sameR a b c d e f x y z u v q)) w := by
  rw [run_eql_struct, run_equalIn_agg (d := 9999) _ _ _ _ (by kernel_rfl) (by kernel_rfl)]
  have hf := Try.fields24
  obtain ⟨f0, f1, f2, E⟩ := three hf
  rw [E] at hf ⊢
  simp only [List.map_cons, List.map_nil, List.cons.injEq, Prod.mk.injEq, and_true] at hf
  obtain ⟨⟨a0, b0, c0⟩, ⟨a1, b1, c1⟩, ⟨a2, b2, c2⟩⟩ := hf
  rw [eqField _ _ f0 _ 0 a b x y w a0 b0 c0 (part0 _ _ _ _ _ _ w) (part0 _ _ _ _ _ _ w) _ (eqField _ _ f1 _ 2 c d z u w a1 b1 c1 (part2 _ _ _ _ _ _ w) (part2 _ _ _ _ _ _ w) _ (eqField _ _ f2 _ 4 e f v q w a2 b2 c2 (part4 _ _ _ _ _ _ w) (part4 _ _ _ _ _ _ w) true (by simp [Op.eqFields])))]
  rfl
theorem sameA_self (a b : Int) : sameA a b a b = true := by unfold sameA; simp
theorem sameR_self (a b c d e f : Int) : sameR a b c d e f a b c d e f = true := by unfold sameR; simp [sameA_self]

end Go.Proofs.Ytobgjnjndkfjoaa.K
