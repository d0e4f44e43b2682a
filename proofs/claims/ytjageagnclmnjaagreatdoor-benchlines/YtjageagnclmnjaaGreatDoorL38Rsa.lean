/- PROVED: what '==' and '!=' tell of rules. CONDITIONS: none beyond each theorem's own. -/
import Derived.Test.YtjageagnclmnjaaGreatDoorB00KNums
import Derived.Laws.StructEq
import Derived.ChangeKeysEq
namespace Go.Proofs.YtjageagnclmnjaaGreatDoor.D
set_option maxRecDepth 100000
open Go.RowKit

theorem rs_cells3 : Tryz.prog.cellsOf 3 = 1 := by kernel_rfl
theorem rs_infos3 : (Tryz.prog.info? 3).isSome = true := by kernel_rfl
/-- whether they are the same -/
def sameP (a b x y : Int) : Bool := decide (a = x) && (decide (b = y) && true)
theorem rs_part (xs : Array Value) (i : Nat) (v : Int) (h : xs[i]? = some (.int .i64 v)) (w : World) : (part 3 xs i).run Tryz.prog w = .ok (.int .i64 v) w := by
  simp [part, go_sem, h]
theorem rs_item (d : Nat) (xs ys : Array Value) (i : Nat) (is : List Nat) (x y : Int) (w : World) (hx : xs[i]? = some (.int .i64 x)) (hy : ys[i]? = some (.int .i64 y)) (B : Bool) (hr : (Op.eqItems (d + 1) 3 1 xs ys is).run Tryz.prog w = .ok B w) :
    (Op.eqItems (d + 1) 3 1 xs ys (i :: is)).run Tryz.prog w = .ok (decide (x = y) && B) w := by
  rw [Op.eqItems, Nat.mul_one]
  simp only [Sem.run_bind, rs_part xs i x hx, rs_part ys i y hy, Result.andThen_ok, run_equalIn_int w d 3 .i64 .i64 x y Tryz.underlying3]
  by_cases h : x = y
  · simp [h, hr]
  · simp [h]
theorem rs_arr (d : Nat) (a b x y : Int) (w : World) : (Op.equalIn (d + 2) 31 (.agg #[.int .i64 a, .int .i64 b]) (.agg #[.int .i64 x, .int .i64 y])).run Tryz.prog w = .ok (sameP a b x y) w := by
  obtain ⟨i, hi⟩ := Option.isSome_iff_exists.1 rs_infos3
  rw [run_equalIn_array w (d + 1) _ _ Tryz.underlying31 hi, rs_cells3, show List.range 2 = [0, 1] from rfl]
  exact rs_item d _ _ 0 _ a x w rfl rfl _ (rs_item d _ _ 1 _ b y w rfl rfl true (by simp [Op.eqItems]))
theorem rs_pair (c0 c1 c2 c3 c4 : Value) (w : World) : (part 31 #[c0, c1, c2, c3, c4] 0).run Tryz.prog w = .ok (.agg #[c0, c1]) w := by kernel_rfl
theorem rs_field (xs ys : Array Value) (f : Field) (fs : List Field) (a b x y : Int) (w : World) (hn : (f.name == "_") = false) (ht : f.type = 31) (ho : f.offset = 0) (hx : (part 31 xs 0).run Tryz.prog w = .ok (.agg #[.int .i64 a, .int .i64 b]) w) (hy : (part 31 ys 0).run Tryz.prog w = .ok (.agg #[.int .i64 x, .int .i64 y]) w) (B : Bool)
    (hr : (Op.eqFields 9999 xs ys fs).run Tryz.prog w = .ok B w) :
    (Op.eqFields 9999 xs ys (f :: fs)).run Tryz.prog w = .ok (sameP a b x y && B) w := by
  have hn' : f.name ≠ "_" := by simpa using hn
  rw [Op.eqFields, if_pos hn', ht, ho]
  simp only [Sem.run_bind, hx, hy, Result.andThen_ok, rs_arr 9997]
  cases sameP a b x y
  · simp
  · simp [hr]
theorem rs_int (xs ys : Array Value) (f : Field) (fs : List Field) (i : Nat) (x y : Int) (w : World) (hn : (f.name == "_") = false) (ht : f.type = 3) (ho : f.offset = i) (hx : xs[i]? = some (.int .i64 x)) (hy : ys[i]? = some (.int .i64 y)) (B : Bool)
    (hr : (Op.eqFields 9999 xs ys fs).run Tryz.prog w = .ok B w) :
    (Op.eqFields 9999 xs ys (f :: fs)).run Tryz.prog w = .ok (decide (x = y) && B) w := by
  have hn' : f.name ≠ "_" := by simpa using hn
  rw [Op.eqFields, if_pos hn', ht, ho]
  simp only [Sem.run_bind, rs_part xs i x hx, rs_part ys i y hy, Result.andThen_ok, run_equalIn_int w 9998 3 .i64 .i64 x y Tryz.underlying3]
  by_cases h : x = y
  · simp [h, hr]
  · simp [h]
theorem rs_four {xs : List Field} (h : xs.map (fun f => (f.name == "_", f.type, f.offset)) = [(false, 31, 0), (false, 3, 2), (false, 3, 3), (false, 3, 4)]) : ∃ f0 f1 f2 f3, xs = [f0, f1, f2, f3] := by
  have hl : xs.length = 4 := by simpa using congrArg List.length h
  match xs, hl with
  | [f0, f1, f2, f3], _ => exact ⟨f0, f1, f2, f3, rfl⟩
theorem rs_fields : (Tryz.prog.fieldsOf 33).toList.map (fun f => (f.name == "_", f.type, f.offset)) = [(false, 31, 0), (false, 3, 2), (false, 3, 3), (false, 3, 4)] := by kernel_rfl
/-- whether they are the same -/
def sameU (a b c d e x y z u v : Int) : Bool := sameP a b x y && (decide (c = z) && (decide (d = u) && (decide (e = v) && true)))
theorem rs_eq (a b c d e x y z u v : Int) (w : World) :
    (Op.equalIn 10000 33 (.agg #[.int .i64 a, .int .i64 b, .int .i64 c, .int .i64 d, .int .i64 e]) (.agg #[.int .i64 x, .int .i64 y, .int .i64 z, .int .i64 u, .int .i64 v])).run Tryz.prog w = .ok (sameU a b c d e x y z u v) w := by
  rw [run_equalIn_agg (d := 9999) _ _ _ _ (by kernel_rfl) (by kernel_rfl)]
  have hf := rs_fields
  obtain ⟨f0, f1, f2, f3, E⟩ := rs_four hf
  rw [E] at hf ⊢
  simp only [List.map_cons, List.map_nil, List.cons.injEq, Prod.mk.injEq, and_true] at hf
  obtain ⟨⟨a0, b0, c0⟩, ⟨a1, b1, c1⟩, ⟨a2, b2, c2⟩, ⟨a3, b3, c3⟩⟩ := hf
  rw [rs_field _ _ f0 _ a b x y w a0 b0 c0 (rs_pair _ _ _ _ _ w) (rs_pair _ _ _ _ _ w) _ (rs_int _ _ f1 _ 2 c z w a1 b1 c1 rfl rfl _ (rs_int _ _ f2 _ 3 d u w a2 b2 c2 rfl rfl _ (rs_int _ _ f3 _ 4 e v w a3 b3 c3 rfl rfl true (by simp [Op.eqFields]))))]
  rfl
theorem eqU (a b c d e x y z u v : Int) (w : World) :
    (binOp .eql 33 (.agg #[.int .i64 a, .int .i64 b, .int .i64 c, .int .i64 d, .int .i64 e]) (.agg #[.int .i64 x, .int .i64 y, .int .i64 z, .int .i64 u, .int .i64 v])).run Tryz.prog w = .ok (.bool (sameU a b c d e x y z u v)) w := by
  rw [run_eql_struct, rs_eq]; rfl
theorem neU (a b c d e x y z u v : Int) (w : World) :
    (binOp .neq 33 (.agg #[.int .i64 a, .int .i64 b, .int .i64 c, .int .i64 d, .int .i64 e]) (.agg #[.int .i64 x, .int .i64 y, .int .i64 z, .int .i64 u, .int .i64 v])).run Tryz.prog w = .ok (.bool (!sameU a b c d e x y z u v)) w := by
  rw [run_neq_struct, rs_eq]; rfl
theorem sameU_self (a b c d e : Int) : sameU a b c d e a b c d e = true := by unfold sameU sameP; simp
end Go.Proofs.YtjageagnclmnjaaGreatDoor.D
