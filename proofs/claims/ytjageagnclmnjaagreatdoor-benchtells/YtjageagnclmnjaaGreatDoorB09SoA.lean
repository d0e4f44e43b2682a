/- PROVED: what '==' tells of two controls. what '==' tells of two pairs of numbers, and of two rounds. what '==' tells of two states. what lies there while the document's own SOf goes on. CONDITIONS: none beyond each theorem's own. -/
import Derived.Test.YtjageagnclmnjaaGreatDoorB00KNums
import Derived.Laws.StructEq
import Derived.Test.YtjageagnclmnjaaGreatDoorB03DOwn
import Derived.ChangeKeysEq
import Derived.Test.YtjageagnclmnjaaGreatDoorB01Tx
import Derived.Test.YtjageagnclmnjaaGreatDoorB07Reg
import Derived.Test.YtjageagnclmnjaaGreatDoorB08Rj
namespace Go.Proofs.YtjageagnclmnjaaGreatDoor.V
open Go.RowKit

theorem partC (xs : Array Value) (i : Nat) (v : Int) (h : xs[i]? = some (.int .i64 v)) (w : World) : (part 3 xs i).run Tryz.prog w = .ok (.int .i64 v) w := by
  simp [part, go_sem, h]

theorem eqField (xs ys : Array Value) (f : Field) (fs : List Field) (i : Nat) (x y : Int) (w : World) (hn : (f.name == "_") = false) (ht : f.type = 3) (ho : f.offset = i) (hx : xs[i]? = some (.int .i64 x)) (hy : ys[i]? = some (.int .i64 y)) (B : Bool)
    (hr : (Op.eqFields 9999 xs ys fs).run Tryz.prog w = .ok B w) :
    (Op.eqFields 9999 xs ys (f :: fs)).run Tryz.prog w = .ok (decide (x = y) && B) w := by
  have hn' : f.name ≠ "_" := by simpa using hn
  rw [Op.eqFields, if_pos hn', ht, ho]
  simp only [Sem.run_bind, partC xs i x hx, partC ys i y hy, Result.andThen_ok, run_equalIn_int w 9998 3 .i64 .i64 x y Tryz.underlying3]
  by_cases h : x = y
  · simp [h, hr]
  · simp [h]

theorem six {xs : List Field} (h : xs.map (fun f => (f.name == "_", f.type, f.offset)) = [(false, 3, 0), (false, 3, 1), (false, 3, 2), (false, 3, 3), (false, 3, 4), (false, 3, 5)]) :
    ∃ f0 f1 f2 f3 f4 f5, xs = [f0, f1, f2, f3, f4, f5] := by
  have hl : xs.length = 6 := by simpa using congrArg List.length h
  match xs, hl with
  | [f0, f1, f2, f3, f4, f5], _ => exact ⟨f0, f1, f2, f3, f4, f5, rfl⟩
theorem Tryz.fields23 : (Tryz.prog.fieldsOf 42).toList.map (fun f => (f.name == "_", f.type, f.offset)) = [(false, 3, 0), (false, 3, 1), (false, 3, 2), (false, 3, 3), (false, 3, 4), (false, 3, 5)] := by kernel_rfl

theorem eqC (k n b a s q k' n' b' a' s' q' : Int) (w : World) :
    (binOp .eql 42 (.agg #[.int .i64 k, .int .i64 n, .int .i64 b, .int .i64 a, .int .i64 s, .int .i64 q]) (.agg #[.int .i64 k', .int .i64 n', .int .i64 b', .int .i64 a', .int .i64 s', .int .i64 q'])).run Tryz.prog w
      = .ok (.bool (decide (k = k') && (decide (n = n') && (decide (b = b') && (decide (a = a') && (decide (s = s') && (decide (q = q') && true))))))) w := by
  rw [run_eql_struct, run_equalIn_agg (d := 9999) _ _ _ _ (by kernel_rfl) (by kernel_rfl)]
  have hf := Tryz.fields23
  obtain ⟨f0, f1, f2, f3, f4, f5, e⟩ := six hf
  rw [e] at hf ⊢
  simp only [List.map_cons, List.map_nil, List.cons.injEq, Prod.mk.injEq, and_true] at hf
  obtain ⟨⟨a0, b0, c0⟩, ⟨a1, b1, c1⟩, ⟨a2, b2, c2⟩, ⟨a3, b3, c3⟩, ⟨a4, b4, c4⟩, ⟨a5, b5, c5⟩⟩ := hf
  rw [eqField _ _ f0 _ 0 k k' w a0 b0 c0 rfl rfl _ (eqField _ _ f1 _ 1 n n' w a1 b1 c1 rfl rfl _ (eqField _ _ f2 _ 2 b b' w a2 b2 c2 rfl rfl _ (eqField _ _ f3 _ 3 a a' w a3 b3 c3 rfl rfl _ (eqField _ _ f4 _ 4 s s' w a4 b4 c4 rfl rfl _ (eqField _ _ f5 _ 5 q q' w a5 b5 c5 rfl rfl true (by simp [Op.eqFields]))))))]
  rfl

/-- whether they are the same -/
def sameC (k n b a s q k' n' b' a' s' q' : Int) : Bool := decide (k = k') && (decide (n = n') && (decide (b = b') && (decide (a = a') && (decide (s = s') && (decide (q = q') && true)))))
theorem eqS (k n b a s q k' n' b' a' s' q' : Int) (w : World) :
    (binOp .eql 42 (.agg #[.int .i64 k, .int .i64 n, .int .i64 b, .int .i64 a, .int .i64 s, .int .i64 q]) (.agg #[.int .i64 k', .int .i64 n', .int .i64 b', .int .i64 a', .int .i64 s', .int .i64 q'])).run Tryz.prog w = .ok (.bool (sameC k n b a s q k' n' b' a' s' q')) w := eqC k n b a s q k' n' b' a' s' q' w
theorem same_is {k n b a s q k' n' b' a' s' q' : Int} : sameC k n b a s q k' n' b' a' s' q' = true ↔ k = k' ∧ n = n' ∧ b = b' ∧ a = a' ∧ s = s' ∧ q = q' := by
  unfold sameC; simp
end Go.Proofs.YtjageagnclmnjaaGreatDoor.V

namespace Go.Proofs.YtjageagnclmnjaaGreatDoor.K
open Go.RowKit

theorem Tryz.cells3 : Tryz.prog.cellsOf 3 = 1 := by kernel_rfl
theorem Tryz.infos3 : (Tryz.prog.info? 3).isSome = true := by kernel_rfl

/-- whether they are the same -/
def sameA (a b x y : Int) : Bool := decide (a = x) && (decide (b = y) && true)
theorem partC (xs : Array Value) (i : Nat) (v : Int) (h : xs[i]? = some (.int .i64 v)) (w : World) : (part 3 xs i).run Tryz.prog w = .ok (.int .i64 v) w := by
  simp [part, go_sem, h]
theorem eqItem (d : Nat) (xs ys : Array Value) (i : Nat) (is : List Nat) (x y : Int) (w : World) (hx : xs[i]? = some (.int .i64 x)) (hy : ys[i]? = some (.int .i64 y)) (B : Bool) (hr : (Op.eqItems (d + 1) 3 1 xs ys is).run Tryz.prog w = .ok B w) :
    (Op.eqItems (d + 1) 3 1 xs ys (i :: is)).run Tryz.prog w = .ok (decide (x = y) && B) w := by
  rw [Op.eqItems, Nat.mul_one]
  simp only [Sem.run_bind, partC xs i x hx, partC ys i y hy, Result.andThen_ok, run_equalIn_int w d 3 .i64 .i64 x y Tryz.underlying3]
  by_cases h : x = y
  · simp [h, hr]
  · simp [h]
theorem eqArr (d : Nat) (a b x y : Int) (w : World) : (Op.equalIn (d + 2) 31 (.agg #[.int .i64 a, .int .i64 b]) (.agg #[.int .i64 x, .int .i64 y])).run Tryz.prog w = .ok (sameA a b x y) w := by
  obtain ⟨i, hi⟩ := Option.isSome_iff_exists.1 Tryz.infos3
  rw [run_equalIn_array w (d + 1) _ _ Tryz.underlying31 hi, Tryz.cells3, show List.range 2 = [0, 1] from rfl]
  exact eqItem d _ _ 0 _ a x w rfl rfl _ (eqItem d _ _ 1 _ b y w rfl rfl true (by simp [Op.eqItems]))
theorem eqField (xs ys : Array Value) (f : Field) (fs : List Field) (i : Nat) (a b x y : Int) (w : World) (hn : (f.name == "_") = false) (ht : f.type = 31) (ho : f.offset = i) (hx : (part 31 xs i).run Tryz.prog w = .ok (.agg #[.int .i64 a, .int .i64 b]) w) (hy : (part 31 ys i).run Tryz.prog w = .ok (.agg #[.int .i64 x, .int .i64 y]) w) (B : Bool)
    (hr : (Op.eqFields 9999 xs ys fs).run Tryz.prog w = .ok B w) :
    (Op.eqFields 9999 xs ys (f :: fs)).run Tryz.prog w = .ok (sameA a b x y && B) w := by
  have hn' : f.name ≠ "_" := by simpa using hn
  rw [Op.eqFields, if_pos hn', ht, ho]
  simp only [Sem.run_bind, hx, hy, Result.andThen_ok, eqArr 9997]
  cases sameA a b x y
  · simp
  · simp [hr]
theorem three {xs : List Field} (h : xs.map (fun f => (f.name == "_", f.type, f.offset)) = [(false, 31, 0), (false, 31, 2), (false, 31, 4)]) : ∃ f0 f1 f2, xs = [f0, f1, f2] := by
  have hl : xs.length = 3 := by simpa using congrArg List.length h
  match xs, hl with
  | [f0, f1, f2], _ => exact ⟨f0, f1, f2, rfl⟩
end Go.Proofs.YtjageagnclmnjaaGreatDoor.K

namespace Go.Proofs.YtjageagnclmnjaaGreatDoor.D
open Go.RowKit K

theorem eqFieldI (d : Nat) (xs ys : Array Value) (f : Field) (fs : List Field) (i : Nat) (x y : Int) (w : World) (hn : (f.name == "_") = false) (ht : f.type = 3) (ho : f.offset = i) (hx : xs[i]? = some (.int .i64 x)) (hy : ys[i]? = some (.int .i64 y)) (B : Bool)
    (hr : (Op.eqFields (d + 1) xs ys fs).run Tryz.prog w = .ok B w) :
    (Op.eqFields (d + 1) xs ys (f :: fs)).run Tryz.prog w = .ok (decide (x = y) && B) w := by
  have hn' : f.name ≠ "_" := by simpa using hn
  rw [Op.eqFields, if_pos hn', ht, ho]
  simp only [Sem.run_bind, V.partC xs i x hx, V.partC ys i y hy, Result.andThen_ok, run_equalIn_int w d 3 .i64 .i64 x y Tryz.underlying3]
  by_cases h : x = y
  · simp [h, hr]
  · simp [h]
theorem eqCt (d : Nat) (k n b a s q k' n' b' a' s' q' : Int) (w : World) :
    (Op.equalIn (d + 2) 42 (.agg #[.int .i64 k, .int .i64 n, .int .i64 b, .int .i64 a, .int .i64 s, .int .i64 q]) (.agg #[.int .i64 k', .int .i64 n', .int .i64 b', .int .i64 a', .int .i64 s', .int .i64 q'])).run Tryz.prog w = .ok (V.sameC k n b a s q k' n' b' a' s' q') w := by
  rw [run_equalIn_agg (d := d + 1) _ _ _ _ (by kernel_rfl) (by kernel_rfl)]
  have hf := V.Tryz.fields23
  obtain ⟨f0, f1, f2, f3, f4, f5, e⟩ := V.six hf
  rw [e] at hf ⊢
  simp only [List.map_cons, List.map_nil, List.cons.injEq, Prod.mk.injEq, and_true] at hf
  obtain ⟨⟨a0, b0, c0⟩, ⟨a1, b1, c1⟩, ⟨a2, b2, c2⟩, ⟨a3, b3, c3⟩, ⟨a4, b4, c4⟩, ⟨a5, b5, c5⟩⟩ := hf
  rw [eqFieldI d _ _ f0 _ 0 k k' w a0 b0 c0 rfl rfl _ (eqFieldI d _ _ f1 _ 1 n n' w a1 b1 c1 rfl rfl _ (eqFieldI d _ _ f2 _ 2 b b' w a2 b2 c2 rfl rfl _ (eqFieldI d _ _ f3 _ 3 a a' w a3 b3 c3 rfl rfl _ (eqFieldI d _ _ f4 _ 4 s s' w a4 b4 c4 rfl rfl _ (eqFieldI d _ _ f5 _ 5 q q' w a5 b5 c5 rfl rfl true (by simp [Op.eqFields]))))))]
  rfl
theorem Tryz.infos26 : (Tryz.prog.info? 42).isSome = true := by kernel_rfl
theorem Tryz.cells42 : Tryz.prog.cellsOf 42 = 6 := by kernel_rfl
theorem partK0 (c0 c1 c2 c3 c4 c5 c6 c7 c8 c9 c10 c11 : Value) (w : World) : (part 42 #[c0, c1, c2, c3, c4, c5, c6, c7, c8, c9, c10, c11] (0 * 6)).run Tryz.prog w = .ok (.agg #[c0, c1, c2, c3, c4, c5]) w := by kernel_rfl
theorem partK1 (c0 c1 c2 c3 c4 c5 c6 c7 c8 c9 c10 c11 : Value) (w : World) : (part 42 #[c0, c1, c2, c3, c4, c5, c6, c7, c8, c9, c10, c11] (1 * 6)).run Tryz.prog w = .ok (.agg #[c6, c7, c8, c9, c10, c11]) w := by kernel_rfl
theorem eqItemC (d : Nat) (xs ys : Array Value) (i : Nat) (is : List Nat) (k n b a s q k' n' b' a' s' q' : Int) (w : World) (hx : (part 42 xs (i * 6)).run Tryz.prog w = .ok (.agg #[.int .i64 k, .int .i64 n, .int .i64 b, .int .i64 a, .int .i64 s, .int .i64 q]) w) (hy : (part 42 ys (i * 6)).run Tryz.prog w = .ok (.agg #[.int .i64 k', .int .i64 n', .int .i64 b', .int .i64 a', .int .i64 s', .int .i64 q']) w) (B : Bool) (hr : (Op.eqItems (d + 2) 42 6 xs ys is).run Tryz.prog w = .ok B w) :
    (Op.eqItems (d + 2) 42 6 xs ys (i :: is)).run Tryz.prog w = .ok (V.sameC k n b a s q k' n' b' a' s' q' && B) w := by
  rw [Op.eqItems]
  simp only [Sem.run_bind, hx, hy, Result.andThen_ok, eqCt d]
  cases V.sameC k n b a s q k' n' b' a' s' q'
  · simp
  · simp [hr]
theorem eqCts (d : Nat) (a0 a1 a2 a3 a4 a5 a6 a7 a8 a9 a10 a11 b0 b1 b2 b3 b4 b5 b6 b7 b8 b9 b10 b11 : Int) (w : World) : (Op.equalIn (d + 3) 43 (.agg #[.int .i64 a0, .int .i64 a1, .int .i64 a2, .int .i64 a3, .int .i64 a4, .int .i64 a5, .int .i64 a6, .int .i64 a7, .int .i64 a8, .int .i64 a9, .int .i64 a10, .int .i64 a11]) (.agg #[.int .i64 b0, .int .i64 b1, .int .i64 b2, .int .i64 b3, .int .i64 b4, .int .i64 b5, .int .i64 b6, .int .i64 b7, .int .i64 b8, .int .i64 b9, .int .i64 b10, .int .i64 b11])).run Tryz.prog w = .ok (V.sameC a0 a1 a2 a3 a4 a5 b0 b1 b2 b3 b4 b5 && (V.sameC a6 a7 a8 a9 a10 a11 b6 b7 b8 b9 b10 b11 && true)) w := by
  obtain ⟨i, hi⟩ := Option.isSome_iff_exists.1 Tryz.infos26
  rw [run_equalIn_array w (d + 2) _ _ Tryz.underlying43 hi, Tryz.cells42, show List.range 2 = [0, 1] from rfl]
  exact eqItemC d _ _ 0 _ _ _ _ _ _ _ _ _ _ _ _ _ w (partK0 _ _ _ _ _ _ _ _ _ _ _ _ w) (partK0 _ _ _ _ _ _ _ _ _ _ _ _ w) _ (eqItemC d _ _ 1 _ _ _ _ _ _ _ _ _ _ _ _ _ w (partK1 _ _ _ _ _ _ _ _ _ _ _ _ w) (partK1 _ _ _ _ _ _ _ _ _ _ _ _ w) true (by simp [Op.eqItems]))
theorem partS0 (c0 c1 c2 c3 c4 c5 c6 c7 c8 c9 c10 c11 c12 c13 : Value) (w : World) : (part 43 #[c0, c1, c2, c3, c4, c5, c6, c7, c8, c9, c10, c11, c12, c13] 0).run Tryz.prog w = .ok (.agg #[c0, c1, c2, c3, c4, c5, c6, c7, c8, c9, c10, c11]) w := by kernel_rfl
theorem partS12 (c0 c1 c2 c3 c4 c5 c6 c7 c8 c9 c10 c11 c12 c13 : Value) (w : World) : (part 31 #[c0, c1, c2, c3, c4, c5, c6, c7, c8, c9, c10, c11, c12, c13] 12).run Tryz.prog w = .ok (.agg #[c12, c13]) w := by kernel_rfl
theorem two_f {xs : List Field} (h : xs.map (fun f => (f.name == "_", f.type, f.offset)) = [(false, 43, 0), (false, 31, 12)]) : ∃ f0 f1, xs = [f0, f1] := by
  have hl : xs.length = 2 := by simpa using congrArg List.length h
  match xs, hl with
  | [f0, f1], _ => exact ⟨f0, f1, rfl⟩
theorem Tryz.fields29 : (Tryz.prog.fieldsOf 45).toList.map (fun f => (f.name == "_", f.type, f.offset)) = [(false, 43, 0), (false, 31, 12)] := by kernel_rfl
theorem eqFieldS (xs ys : Array Value) (f : Field) (fs : List Field) (a0 a1 a2 a3 a4 a5 a6 a7 a8 a9 a10 a11 b0 b1 b2 b3 b4 b5 b6 b7 b8 b9 b10 b11 : Int) (w : World) (hn : (f.name == "_") = false) (ht : f.type = 43) (ho : f.offset = 0) (hx : (part 43 xs 0).run Tryz.prog w = .ok (.agg #[.int .i64 a0, .int .i64 a1, .int .i64 a2, .int .i64 a3, .int .i64 a4, .int .i64 a5, .int .i64 a6, .int .i64 a7, .int .i64 a8, .int .i64 a9, .int .i64 a10, .int .i64 a11]) w) (hy : (part 43 ys 0).run Tryz.prog w = .ok (.agg #[.int .i64 b0, .int .i64 b1, .int .i64 b2, .int .i64 b3, .int .i64 b4, .int .i64 b5, .int .i64 b6, .int .i64 b7, .int .i64 b8, .int .i64 b9, .int .i64 b10, .int .i64 b11]) w) (B : Bool)
    (hr : (Op.eqFields 9999 xs ys fs).run Tryz.prog w = .ok B w) :
    (Op.eqFields 9999 xs ys (f :: fs)).run Tryz.prog w = .ok ((V.sameC a0 a1 a2 a3 a4 a5 b0 b1 b2 b3 b4 b5 && (V.sameC a6 a7 a8 a9 a10 a11 b6 b7 b8 b9 b10 b11 && true)) && B) w := by
  have hn' : f.name ≠ "_" := by simpa using hn
  rw [Op.eqFields, if_pos hn', ht, ho]
  simp only [Sem.run_bind, hx, hy, Result.andThen_ok, eqCts 9996]
  cases V.sameC a0 a1 a2 a3 a4 a5 b0 b1 b2 b3 b4 b5 && (V.sameC a6 a7 a8 a9 a10 a11 b6 b7 b8 b9 b10 b11 && true)
  · simp
  · simp [hr]
/-- whether they are the same -/
def sameS (a0 a1 a2 a3 a4 a5 a6 a7 a8 a9 a10 a11 a12 a13 b0 b1 b2 b3 b4 b5 b6 b7 b8 b9 b10 b11 b12 b13 : Int) : Bool := (V.sameC a0 a1 a2 a3 a4 a5 b0 b1 b2 b3 b4 b5 && (V.sameC a6 a7 a8 a9 a10 a11 b6 b7 b8 b9 b10 b11 && true)) && (sameA a12 a13 b12 b13 && true)
theorem eqSt (a0 a1 a2 a3 a4 a5 a6 a7 a8 a9 a10 a11 a12 a13 b0 b1 b2 b3 b4 b5 b6 b7 b8 b9 b10 b11 b12 b13 : Int) (w : World) :
    (binOp .eql 45 (.agg #[.int .i64 a0, .int .i64 a1, .int .i64 a2, .int .i64 a3, .int .i64 a4, .int .i64 a5, .int .i64 a6, .int .i64 a7, .int .i64 a8, .int .i64 a9, .int .i64 a10, .int .i64 a11, .int .i64 a12, .int .i64 a13]) (.agg #[.int .i64 b0, .int .i64 b1, .int .i64 b2, .int .i64 b3, .int .i64 b4, .int .i64 b5, .int .i64 b6, .int .i64 b7, .int .i64 b8, .int .i64 b9, .int .i64 b10, .int .i64 b11, .int .i64 b12, .int .i64 b13])).run Tryz.prog w = .ok (.bool (sameS a0 a1 a2 a3 a4 a5 a6 a7 a8 a9 a10 a11 a12 a13 b0 b1 b2 b3 b4 b5 b6 b7 b8 b9 b10 b11 b12 b13)) w := by
  rw [run_eql_struct, run_equalIn_agg (d := 9999) _ _ _ _ (by kernel_rfl) (by kernel_rfl)]
  have hf := Tryz.fields29
  obtain ⟨f0, f1, E⟩ := two_f hf
  rw [E] at hf ⊢
  simp only [List.map_cons, List.map_nil, List.cons.injEq, Prod.mk.injEq, and_true] at hf
  obtain ⟨⟨x0, y0, z0⟩, ⟨x1, y1, z1⟩⟩ := hf
  rw [eqFieldS _ _ f0 _ a0 a1 a2 a3 a4 a5 a6 a7 a8 a9 a10 a11 b0 b1 b2 b3 b4 b5 b6 b7 b8 b9 b10 b11 w x0 y0 z0 (partS0 _ _ _ _ _ _ _ _ _ _ _ _ _ _ w) (partS0 _ _ _ _ _ _ _ _ _ _ _ _ _ _ w) _ (eqField _ _ f1 _ 12 a12 a13 b12 b13 w x1 y1 z1 (partS12 _ _ _ _ _ _ _ _ _ _ _ _ _ _ w) (partS12 _ _ _ _ _ _ _ _ _ _ _ _ _ _ w) true (by simp [Op.eqFields]))]
  rfl
end Go.Proofs.YtjageagnclmnjaaGreatDoor.D

namespace Go.Proofs.YtjageagnclmnjaaGreatDoor.D
open Go.RowKit K
set_option linter.unusedVariables false

theorem wrapIn {x : Int} (h : -9223372036854775808 ≤ x ∧ x ≤ 9223372036854775807) : IntKind.i64.wrap x = x := by rw [IntKind.wrap_i64]; omega
/-- a state at place o of block g -/
structure Sat (w : World) (g o : Nat) (s : Sx) : Prop where
  c0 : w.cell? ⟨g, o, none⟩ = some (.int .i64 s.f0.k)
  c1 : w.cell? ⟨g, o + 1, none⟩ = some (.int .i64 s.f0.n)
  c2 : w.cell? ⟨g, o + 2, none⟩ = some (.int .i64 s.f0.b)
  c3 : w.cell? ⟨g, o + 3, none⟩ = some (.int .i64 s.f0.a)
  c4 : w.cell? ⟨g, o + 4, none⟩ = some (.int .i64 s.f0.s)
  c5 : w.cell? ⟨g, o + 5, none⟩ = some (.int .i64 s.f0.q)
  c6 : w.cell? ⟨g, o + 6, none⟩ = some (.int .i64 s.f1.k)
  c7 : w.cell? ⟨g, o + 7, none⟩ = some (.int .i64 s.f1.n)
  c8 : w.cell? ⟨g, o + 8, none⟩ = some (.int .i64 s.f1.b)
  c9 : w.cell? ⟨g, o + 9, none⟩ = some (.int .i64 s.f1.a)
  c10 : w.cell? ⟨g, o + 10, none⟩ = some (.int .i64 s.f1.s)
  c11 : w.cell? ⟨g, o + 11, none⟩ = some (.int .i64 s.f1.q)
  c12 : w.cell? ⟨g, o + 12, none⟩ = some (.int .i64 s.w0)
  c13 : w.cell? ⟨g, o + 13, none⟩ = some (.int .i64 s.w1)
theorem Sat.kept {w w' : World} {g o : Nat} {s : Sx} (h : Sat w g o s) (b : Below w.heap.size w w') : Sat w' g o s := by
  have hl : g < w.heap.size := block_lt h.c0
  have e : ∀ p, w'.cell? ⟨g, p, none⟩ = w.cell? ⟨g, p, none⟩ := fun p => b.cell (p := ⟨g, p, none⟩) hl
  exact ⟨(e _).trans h.c0, (e _).trans h.c1, (e _).trans h.c2, (e _).trans h.c3, (e _).trans h.c4, (e _).trans h.c5, (e _).trans h.c6, (e _).trans h.c7, (e _).trans h.c8, (e _).trans h.c9, (e _).trans h.c10, (e _).trans h.c11, (e _).trans h.c12, (e _).trans h.c13⟩
/-- one of the states of a row -/
theorem own_state {w : World} {base : Nat} {t : Value} {m : Nat} {L : List Sx} (h : w.ownsRow base 45 14 t m (flS L)) {k : Nat} {s : Sx} (hk : L[k]? = some s) : ∃ g cap, t = .slice (some ⟨g, 0, none⟩) m cap ∧ m ≤ cap ∧ L.length = m ∧ Sat w g (k * 14) s := by
  have hkl := (List.getElem?_eq_some_iff.1 hk).1
  obtain ⟨hl, ⟨e, e2⟩ | ⟨g, cap, cur, e, hg, hh, hc, _, hcs, htk⟩⟩ := h
  · rw [flS_len, e2] at hl; omega
  · rw [flS_len] at hl
    have hm : L.length = m := by omega
    refine ⟨g, cap, e, hc, hm, ?_⟩
    have key : ∀ i, i < 14 → w.cell? ⟨g, k * 14 + i, none⟩ = (cS s)[i]? := fun i hi => by
      have := flS_get L k i s hk hi
      rw [← htk, List.getElem?_take_of_lt (by omega)] at this
      simp only [World.cell?, hh]
      rw [← this]
      simp
    exact ⟨key 0 (by omega), key 1 (by omega), key 2 (by omega), key 3 (by omega), key 4 (by omega), key 5 (by omega), key 6 (by omega), key 7 (by omega), key 8 (by omega), key 9 (by omega), key 10 (by omega), key 11 (by omega), key 12 (by omega), key 13 (by omega)⟩

/-- the answer's own block, still nothing -/
structure Res (w : World) (P : Nat) : Prop where
  c : ∀ c, c < 5 → w.cell? ⟨P, c, none⟩ = some (.slice none 0 0) ∧ w.frozen? ⟨P, c, none⟩ = false
theorem Res.kept {w w' : World} {P : Nat} (h : Res w P) (b : Below w.heap.size w w') : Res w' P := ⟨fun c hc => by
  have hl : P < w.heap.size := block_lt (h.c c hc).1
  exact ⟨(b.cell (p := ⟨P, c, none⟩) hl).trans (h.c c hc).1, (b.frozen (p := ⟨P, c, none⟩) hl).trans (h.c c hc).2⟩⟩
theorem Res.new (w : World) (P : Nat) (hP : P = w.heap.size) : Res (w.alloc (.cells #[.slice none 0 0, .slice none 0 0, .slice none 0 0, .slice none 0 0, .slice none 0 0] 102)) P := ⟨fun c hc => by
  subst hP
  rw [World.cell?_alloc_at _ _ _ _ rfl, World.frozen?_alloc_at _ _ _ _ rfl]
  rcases (show c = 0 ∨ c = 1 ∨ c = 2 ∨ c = 3 ∨ c = 4 by omega) with rfl | rfl | rfl | rfl | rfl <;> exact ⟨rfl, rfl⟩⟩
/-- five slices in block C -/
structure Fiv (w : World) (C : Nat) (v : Nat → Value) : Prop where
  c : ∀ c, c < 5 → w.cell? ⟨C, c, none⟩ = some (v c) ∧ w.frozen? ⟨C, c, none⟩ = false
theorem Fiv.kept {w w' : World} {C : Nat} {v : Nat → Value} (h : Fiv w C v) (b : Below w.heap.size w w') : Fiv w' C v := ⟨fun c hc => by
  have hl : C < w.heap.size := block_lt (h.c c hc).1
  exact ⟨(b.cell (p := ⟨C, c, none⟩) hl).trans (h.c c hc).1, (b.frozen (p := ⟨C, c, none⟩) hl).trans (h.c c hc).2⟩⟩
/-- five slices are written -/
theorem Fiv.one {w : World} {C : Nat} {v : Nat → Value} (h : Fiv w C v) {k : Nat} (hk : k < 5) (x : Value) : Fiv (w.setCell ⟨C, k, none⟩ x) C (up v k x) := ⟨fun c hc => by
  refine ⟨?_, (World.frozen?_setCell _ _ _ _).trans (h.c c hc).2⟩
  by_cases e : c = k
  · subst e; rw [up_at]; exact World.cell?_setCell_same _ _ _ (h.c c hc).1
  · rw [up_ne _ _ _ e, World.cell?_setCell_other _ _ _ _ (fun q => e (by injection q with _ q _; exact q.symm))]; exact (h.c c hc).1⟩
def put5 (w : World) (C : Nat) (x : Nat → Value) : World := ((((w.setCell ⟨C, 0, none⟩ (x 0)).setCell ⟨C, 1, none⟩ (x 1)).setCell ⟨C, 2, none⟩ (x 2)).setCell ⟨C, 3, none⟩ (x 3)).setCell ⟨C, 4, none⟩ (x 4)
theorem Fiv.all {w : World} {C : Nat} {v : Nat → Value} (h : Fiv w C v) (x : Nat → Value) : Fiv (put5 w C x) C x := by
  have h5 := ((((h.one (k := 0) (by omega) (x 0)).one (k := 1) (by omega) (x 1)).one (k := 2) (by omega) (x 2)).one (k := 3) (by omega) (x 3)).one (k := 4) (by omega) (x 4)
  refine ⟨fun c hc => ?_⟩
  have := h5.c c hc
  rcases (show c = 0 ∨ c = 1 ∨ c = 2 ∨ c = 3 ∨ c = 4 by omega) with rfl | rfl | rfl | rfl | rfl <;> simpa [up, put5] using this
theorem Res.fiv {w : World} {P : Nat} (h : Res w P) : Fiv w P (fun _ => .slice none 0 0) := ⟨fun c hc => h.c c hc⟩
theorem below_put5 {B C : Nat} {w v : World} (h : Below B w v) (hC : B ≤ C) (x : Nat → Value) : Below B w (put5 v C x) := Below.setCell (Below.setCell (Below.setCell (Below.setCell (Below.setCell h hC _) hC _) hC _) hC _) hC _
/-- the blocks that the rows leave alone -/
def kk (w : World) (C : Nat) : Nat → Prop := fun g => g = w.heap.size ∨ g = w.heap.size + 1 ∨ g = C

/-- what lies there in SOf: X: which rows (behind how many steps) -/
structure So (w : World) (r : Ru) (C : Nat) (K' : Nat → Prop) (v : Nat → Value) (n : Nat → Nat) (xs : Nat → List Value) (wr : World) : Prop where
  rul : Rul wr w.heap.size r.k0 r.k1 r.r r.m r.j
  res : Res wr (w.heap.size + 1)
  fiv : Fiv wr C v
  fam : Fam w.heap.size K' v n xs wr
  kin : ∀ g, kk w C g → K' g
  cc : w.heap.size + 1 < C
  below : Below w.heap.size w wr
theorem So.kept {w : World} {r : Ru} {C : Nat} {K' : Nat → Prop} {v : Nat → Value} {n : Nat → Nat} {xs : Nat → List Value} {wr w' : World} (h : So w r C K' v n xs wr) (b : Below wr.heap.size wr w') : So w r C K' v n xs w' :=
  ⟨h.rul.kept b, h.res.kept b, h.fiv.kept b, h.fam.kept b, h.kin, h.cc, bthen h.below b⟩
theorem So.alloc {w : World} {r : Ru} {C : Nat} {K' : Nat → Prop} {v : Nat → Value} {n : Nat → Nat} {xs : Nat → List Value} {wr : World} (h : So w r C K' v n xs wr) (o : Obj) : So w r C (fun g => K' g ∨ g = wr.heap.size) v n xs (wr.alloc o) :=
  have k := h.kept (balloc (Below.refl _ _) o)
  ⟨k.rul, k.res, k.fiv, h.fam.alloc o, fun g hg => .inl (h.kin g hg), k.cc, k.below⟩
theorem So.less {w : World} {r : Ru} {C : Nat} {K' K2 : Nat → Prop} {v : Nat → Value} {n : Nat → Nat} {xs : Nat → List Value} {wr : World} (h : So w r C K' v n xs wr) (h1 : ∀ g, K2 g → K' g) (h2 : ∀ g, kk w C g → K2 g) : So w r C K2 v n xs wr :=
  ⟨h.rul, h.res, h.fiv, h.fam.less h1, h2, h.cc, h.below⟩

/-- whether two states are the same -/
theorem sameX (x y : Sx) : sameS x.f0.k x.f0.n x.f0.b x.f0.a x.f0.s x.f0.q x.f1.k x.f1.n x.f1.b x.f1.a x.f1.s x.f1.q x.w0 x.w1 y.f0.k y.f0.n y.f0.b y.f0.a y.f0.s y.f0.q y.f1.k y.f1.n y.f1.b y.f1.a y.f1.s y.f1.q y.w0 y.w1 = decide (x = y) := by
  obtain ⟨⟨a0, a1, a2, a3, a4, a5⟩, ⟨a6, a7, a8, a9, a10, a11⟩, a12, a13⟩ := x
  obtain ⟨⟨b0, b1, b2, b3, b4, b5⟩, ⟨b6, b7, b8, b9, b10, b11⟩, b12, b13⟩ := y
  rw [Bool.eq_iff_iff]
  simp [sameS, V.sameC, sameA, Sx.mk.injEq, Ct.mk.injEq]
  try omega
theorem eqX (x y : Sx) (w : World) : (binOp .eql 45 (.agg #[.int .i64 x.f0.k, .int .i64 x.f0.n, .int .i64 x.f0.b, .int .i64 x.f0.a, .int .i64 x.f0.s, .int .i64 x.f0.q, .int .i64 x.f1.k, .int .i64 x.f1.n, .int .i64 x.f1.b, .int .i64 x.f1.a, .int .i64 x.f1.s, .int .i64 x.f1.q, .int .i64 x.w0, .int .i64 x.w1]) (.agg #[.int .i64 y.f0.k, .int .i64 y.f0.n, .int .i64 y.f0.b, .int .i64 y.f0.a, .int .i64 y.f0.s, .int .i64 y.f0.q, .int .i64 y.f1.k, .int .i64 y.f1.n, .int .i64 y.f1.b, .int .i64 y.f1.a, .int .i64 y.f1.s, .int .i64 y.f1.q, .int .i64 y.w0, .int .i64 y.w1])).run Tryz.prog w = .ok (.bool (decide (x = y))) w := by
  rw [eqSt, sameX]

section
variable {w : World} {r : Ru} {C : Nat} {K' : Nat → Prop} {v : Nat → Value} {n : Nat → Nat} {xs : Nat → List Value}
/-- a block that was made since is apart from the rows -/
theorem So.add {W2 W3 : World} (h : So w r C K' v n xs W2) (b : Below W2.heap.size W2 W3) {g1 : Nat} (hg : W2.heap.size ≤ g1) (hg2 : g1 < W3.heap.size) : So w r C (fun g => K' g ∨ g = g1) v n xs W3 := by
  have k := h.kept b
  refine ⟨k.rul, k.res, k.fiv, ⟨k.fam.own, k.fam.ap, fun g q => ?_, k.fam.sz⟩, fun g q => .inl (h.kin g q), k.cc, k.below⟩
  rcases q with q | rfl
  · exact k.fam.kb g q
  · exact ⟨hg2, fun c hc e => by have := ((h.fam.own c hc).lt _ e).2; omega⟩
/-- what the blocks of K hold has not changed: all but the five rows and their struct is as it was -/
theorem So.stay {W W' : World} (h : So w r C K' v n xs W) {v2 : Nat → Value} {n2 : Nat → Nat} {xs2 : Nat → List Value} (hF : Fam w.heap.size K' v2 n2 xs2 W') (hC : Fiv W' C v2) (ho : ∀ g, K' g → g ≠ C → W'.heap[g]? = W.heap[g]?) (hb : Below w.heap.size w W') : So w r C K' v2 n2 xs2 W' := by
  have cc := h.cc
  have e0 := ho w.heap.size (h.kin _ (.inl rfl)) (by omega)
  have e1 := ho (w.heap.size + 1) (h.kin _ (.inr (.inl rfl))) (by omega)
  refine ⟨h.rul.same (fun o => World.cell?_of_block (a := ⟨w.heap.size, o, none⟩) e0) (fun o => World.frozen?_of_block (a := ⟨w.heap.size, o, none⟩) e0), ⟨fun c hc => ?_⟩, hC, hF, h.kin, cc, hb⟩
  exact ⟨(World.cell?_of_block (a := ⟨w.heap.size + 1, c, none⟩) e1).trans (h.res.c c hc).1, (World.frozen?_of_block (a := ⟨w.heap.size + 1, c, none⟩) e1).trans (h.res.c c hc).2⟩
/-- one state more -/
theorem So.state {W : World} (h : So w r C K' v n xs W) (y : Sx) (hn : n 0 + 1 ≤ 1048576) (ty : Nat) : ∃ g cap w2, (Builtin.append_ #[89, 89] ty #[v 0, .slice (some ⟨W.heap.size, 0, none⟩) 1 1]).run Tryz.prog (W.alloc (.cells #[.int .i64 y.f0.k, .int .i64 y.f0.n, .int .i64 y.f0.b, .int .i64 y.f0.a, .int .i64 y.f0.s, .int .i64 y.f0.q, .int .i64 y.f1.k, .int .i64 y.f1.n, .int .i64 y.f1.b, .int .i64 y.f1.a, .int .i64 y.f1.s, .int .i64 y.f1.q, .int .i64 y.w0, .int .i64 y.w1] 45)) = .ok (.slice (some ⟨g, 0, none⟩) (n 0 + 1) cap) w2 ∧ w2.cell? ⟨C, 0, none⟩ = some (v 0) ∧ w2.frozen? ⟨C, 0, none⟩ = false ∧
    So w r C K' (up v 0 (.slice (some ⟨g, 0, none⟩) (n 0 + 1) cap)) (up n 0 (n 0 + 1)) (up xs 0 (xs 0 ++ cS y)) (w2.setCell ⟨C, 0, none⟩ (.slice (some ⟨g, 0, none⟩) (n 0 + 1) cap)) ∧ ∀ g', K' g' → g' ≠ C → (w2.setCell ⟨C, 0, none⟩ (.slice (some ⟨g, 0, none⟩) (n 0 + 1) cap)).heap[g']? = W.heap[g']? := by
  have k := h.alloc (.cells #[.int .i64 y.f0.k, .int .i64 y.f0.n, .int .i64 y.f0.b, .int .i64 y.f0.a, .int .i64 y.f0.s, .int .i64 y.f0.q, .int .i64 y.f1.k, .int .i64 y.f1.n, .int .i64 y.f1.b, .int .i64 y.f1.a, .int .i64 y.f1.s, .int .i64 y.f1.q, .int .i64 y.w0, .int .i64 y.w1] 45)
  have hb : (W.alloc (.cells #[.int .i64 y.f0.k, .int .i64 y.f0.n, .int .i64 y.f0.b, .int .i64 y.f0.a, .int .i64 y.f0.s, .int .i64 y.f0.q, .int .i64 y.f1.k, .int .i64 y.f1.n, .int .i64 y.f1.b, .int .i64 y.f1.a, .int .i64 y.f1.s, .int .i64 y.f1.q, .int .i64 y.w0, .int .i64 y.w1] 45)).heap[W.heap.size]? = some (.cells (cS y).toArray 45 (0, 0)) := by show (W.heap.push _)[W.heap.size]? = _; simp [cS]
  obtain ⟨g, cap, w2, hr, hF, hK, hg⟩ := k.fam.append (c := 0) (by omega) hn hb rfl (by simp [cS, Value.oneCell']) ty
  have kC : K' C := h.kin C (.inr (.inr rfl))
  have hC := hK C (.inl kC)
  obtain ⟨q1, q2⟩ := k.fiv.c 0 (by omega)
  have c0 := (World.cell?_of_block (a := ⟨C, 0, none⟩) hC).trans q1
  have f0 := (World.frozen?_of_block (a := ⟨C, 0, none⟩) hC).trans q2
  have hoth : ∀ g', K' g' → g' ≠ C → (w2.setCell ⟨C, 0, none⟩ (.slice (some ⟨g, 0, none⟩) (n 0 + 1) cap)).heap[g']? = W.heap[g']? := fun g' h1 h2 => by
    rw [Below.heap_setCell _ _ _ _ (by exact h2), hK g' (.inl h1)]
    exact (balloc (Below.refl W.heap.size W) _).block g' (h.fam.kb g' h1).1
  have hfiv : Fiv w2 C v := ⟨fun c hc => ⟨(World.cell?_of_block (a := ⟨C, c, none⟩) hC).trans (k.fiv.c c hc).1, (World.frozen?_of_block (a := ⟨C, c, none⟩) hC).trans (k.fiv.c c hc).2⟩⟩
  refine ⟨g, cap, w2, hr, c0, f0, h.stay ((hF.put (p := ⟨C, 0, none⟩) (.inl kC) _).less fun g' hg' => .inl hg') (hfiv.one (by omega) _) hoth ?_, hoth⟩
  exact Below.setCell (p := ⟨C, 0, none⟩) (k.below.grown hg k.below.size (fun q hq => ((k.fam.own 0 (by omega)).lt q hq).1)) (by have := h.cc; show w.heap.size ≤ C; omega) _
end

end Go.Proofs.YtjageagnclmnjaaGreatDoor.D
