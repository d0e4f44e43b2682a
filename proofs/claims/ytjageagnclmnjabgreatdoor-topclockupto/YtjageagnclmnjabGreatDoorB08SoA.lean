/- PROVED: on plain lists: what the document's own SOf gathers behind so many steps. the document's own SOf: the region in which four rows grow by one each, in whatever order. what holds in the document's own SOf behind whichever operations of the region in which four rows grow. what '==' tells of two controls. what '==' tells of two pairs of numbers, and of two rounds. what '==' tells of two states. what lies there while the document's own SOf goes on. CONDITIONS: none beyond each theorem's own. -/
import Derived.Test.YtjageagnclmnjabGreatDoorB07Fam
import Derived.Test.YtjageagnclmnjabGreatDoorB00Pw
import Derived.Laws.StructEq
import Derived.Test.YtjageagnclmnjabGreatDoorB03DOwn
import Derived.ChangeKeysEq
import Derived.Test.YtjageagnclmnjabGreatDoorB01Tx
namespace Go.Proofs.YtjageagnclmnjabGreatDoor
theorem ex_stay {α : Type} [DecidableEq α] {step : α → Nat → α} {E : Nat} {s0 : α} {t : Nat} (h : (ex step E s0 t).1[t / E]? = none) : ex step E s0 (t + 1) = ex step E s0 t := by
  rw [ex, h]
theorem ex_go {α : Type} [DecidableEq α] {step : α → Nat → α} {E : Nat} {s0 : α} {t : Nat} {x : α} (h : (ex step E s0 t).1[t / E]? = some x) : ex step E s0 (t + 1) = (nx (ex step E s0 t).1 (step x (t % E)), (ex step E s0 t).2 ++ [ix (ex step E s0 t).1 (step x (t % E))]) := by
  rw [ex, h]
end Go.Proofs.YtjageagnclmnjabGreatDoor
namespace Go.Proofs.YtjageagnclmnjabGreatDoor.D
open Go.RowKit K
set_option linter.unusedVariables false

/-- how many may be late, and one; how many steps a state has -/
def jj (r : Ru) : Nat := r.j.toNat + 1
def ee (r : Ru) : Nat := jj r * jj r
theorem jj_pos (r : Ru) : 1 ≤ jj r := by unfold jj; omega
theorem ee_pos (r : Ru) : 0 < ee r := Nat.mul_pos (jj_pos r) (jj_pos r)
theorem jj_cast {r : Ru} (h : ranges r) : (jj r : Int) = r.j + 1 ∧ jj r ≤ 4 ∧ ee r ≤ 16 := by
  have h2 := h.2.2
  have : jj r ≤ 4 := by unfold jj; omega
  refine ⟨by unfold jj; omega, this, ?_⟩
  unfold ee
  exact Nat.le_trans (Nat.mul_le_mul this this) (by decide)
/-- the step number n of a state -/
def sp (r : Ru) (s : Sx) (n : Nat) : Sx := K.step r s ((n / jj r : Nat) : Int) ((n % jj r : Nat) : Int)
def xp (r : Ru) (t : Nat) : List Sx × List Nat := ex (sp r) (ee r) (K.start r) t
theorem sp_lates {r : Ru} (h : ranges r) {n : Nat} (hn : n < ee r) : lates r ((n / jj r : Nat) : Int) ((n % jj r : Nat) : Int) := by
  obtain ⟨e, _, _⟩ := jj_cast h
  have h1 : n / jj r < jj r := Nat.div_lt_of_lt_mul hn
  have h2 : n % jj r < jj r := Nat.mod_lt _ (jj_pos r)
  unfold lates
  generalize n / jj r = q at *
  generalize n % jj r = p at *
  omega
/-- every state is right -/
theorem xp_right {r : Ru} (h : kinds r ∧ ranges r) : ∀ t, ∀ s ∈ (xp r t).1, pright r s := by
  intro t
  induction t with
  | zero =>
    intro s hs
    have : s = K.start r := by simpa [xp, ex] using hs
    rw [this]; exact start_right h
  | succ t ih =>
    intro s hs
    cases hx : (xp r t).1[t / ee r]? with
    | none =>
      have e : xp r (t + 1) = xp r t := ex_stay hx
      rw [e] at hs; exact ih s hs
    | some x =>
      have e := ex_go (step := sp r) (E := ee r) (s0 := K.start r) hx
      have hs2 : s ∈ YtjageagnclmnjabGreatDoor.nx (xp r t).1 (sp r x (t % ee r)) := by
        have : xp r (t + 1) = _ := e
        rw [this] at hs; exact hs
      unfold YtjageagnclmnjabGreatDoor.nx at hs2
      split at hs2
      · exact ih s hs2
      · rcases List.mem_append.1 hs2 with q | q
        · exact ih s q
        · have : s = sp r x (t % ee r) := by simpa using q
          rw [this]
          exact step_right (ih x (List.mem_of_getElem? hx)) (sp_lates h.2 (Nat.mod_lt _ (ee_pos r)))

/-- a state's cells -/
def cS (s : Sx) : List Value := [.int .i64 s.f0.k, .int .i64 s.f0.n, .int .i64 s.f0.b, .int .i64 s.f0.a, .int .i64 s.f0.s, .int .i64 s.f0.q, .int .i64 s.f1.k, .int .i64 s.f1.n, .int .i64 s.f1.b, .int .i64 s.f1.a, .int .i64 s.f1.s, .int .i64 s.f1.q, .int .i64 s.w0, .int .i64 s.w1]
def flS : List Sx → List Value
  | [] => []
  | s :: l => cS s ++ flS l
theorem flS_len (l : List Sx) : (flS l).length = l.length * 14 := by
  induction l with
  | nil => rfl
  | cons s l ih => simp only [flS, cS, List.length_append, List.length_cons, List.length_nil, ih]; omega
theorem flS_append (a b : List Sx) : flS (a ++ b) = flS a ++ flS b := by
  induction a with
  | nil => rfl
  | cons s l ih => simp [flS, ih]
theorem flS_get (l : List Sx) : ∀ (j i : Nat) (s : Sx), l[j]? = some s → i < 14 → (flS l)[j * 14 + i]? = (cS s)[i]? := by
  induction l with
  | nil => intro j i s h; simp at h
  | cons x l ih =>
    intro j i s h hi
    cases j with
    | zero =>
      have e : x = s := by simpa using h
      subst e
      rw [flS, Nat.zero_mul, Nat.zero_add, List.getElem?_append_left (by simpa [cS] using hi)]
    | succ j =>
      rw [flS, List.getElem?_append_right (by simp [cS]; omega), show (j + 1) * 14 + i - (cS x).length = j * 14 + i by simp [cS]; omega]
      exact ih j i s (by simpa using h) hi
/-- the rounds -/
def rdL (r : Ru) : Nat → List Rx
  | 0 => []
  | t + 1 => rdL r t ++ [K.round r ((xp r t).1.getD (t / ee r) (K.start r))]
/-- the five rows behind t steps -/
def fx (r : Ru) (t : Nat) : Nat → List Value
  | 0 => flS (xp r t).1
  | 1 => (List.range t).map fun i => .int .i64 ((i / ee r : Nat) : Int)
  | 2 => (xp r t).2.map fun i => .int .i64 ((i : Nat) : Int)
  | 3 => (List.range t).flatMap fun i => [.int .i64 ((i % ee r / jj r : Nat) : Int), .int .i64 ((i % ee r % jj r : Nat) : Int)]
  | _ => flatR (rdL r t)
def fn (r : Ru) (t : Nat) : Nat → Nat
  | 0 => (xp r t).1.length
  | _ => t
end Go.Proofs.YtjageagnclmnjabGreatDoor.D

namespace Go.Proofs.YtjageagnclmnjabGreatDoor
open Go.RowKit
set_option linter.unusedVariables false

section
variable {P : Program} {ops : Array Oper} {Q : Exit → Act → World → Prop}
theorem wpOp_value {i : Nat} {o : Oper} {K : Act → World → Prop} {a : Act} {w w' : World} {v : Value} (ho : ops[i]? = some o) (hg : o.guard = none) (hr : (execOp a.eval o).run P w = .ok (.value v) w') (h : K (a.put o.dst v) w') : wpOp P ops Q i K a w := by
  unfold wpOp
  have hw : Region.wanted o (yielded ops a.tmps) = true := by simp [Region.wanted, hg]
  simp only [ho, hw, if_true, Oper.wp, hr, Oper.upon]
  exact .inl h
theorem wpOp_skip {i : Nat} {o : Oper} {K : Act → World → Prop} {a : Act} {w w' : World} (ho : ops[i]? = some o) (hg : o.guard = none) (hr : (execOp a.eval o).run P w = .ok .skip w') (h : K (a.put o.dst undef) w') : wpOp P ops Q i K a w := by
  unfold wpOp
  have hw : Region.wanted o (yielded ops a.tmps) = true := by simp [Region.wanted, hg]
  simp only [ho, hw, if_true, Oper.wp, hr, Oper.upon]
  exact .inl h
end

section
variable {ev : Operand → Value} {w : World}
theorem ex_mv {o : Oper} {s : Nat} {x : Value} (ho : o.op = .move (.tmp s)) (h : ev (.tmp s) = x) : (execOp ev o).run Tryz.prog w = .ok (.value x) w := by
  simp [execOp, ho, h, go_sem]
theorem ex_pair {o : Oper} {X s : Nat} {x y : Value} (ho : o.op = .load 67 (.tmp s)) (h : ev (.tmp s) = .pointer (some ⟨X, 0, none⟩)) (h0 : w.cell? ⟨X, 0, none⟩ = some x) (h1 : w.cell? ⟨X, 1, none⟩ = some y) : (execOp ev o).run Tryz.prog w = .ok (.value (.agg #[x, y])) w := by
  simp [execOp, ho, h, go_sem, h0, h1]
theorem ex_one {o : Oper} {s : Nat} {k : Int} (ho : o.op = .buildSlice 24 1 #[(0, .tmp s)]) (h : ev (.tmp s) = .int .i64 k) : (execOp ev o).run Tryz.prog w = .ok (.value (.slice (some ⟨w.heap.size, 0, none⟩) 1 1)) (w.alloc (.cells #[.int .i64 k] 3)) := by
  simp [execOp, ho, h, go_sem]
theorem ex_app {o : Oper} {s x t : Nat} {v u v' : Value} {w' : World} (ho : o.op = .call { callee := .builtin .append, args := #[.tmp s, .tmp x], argTypes := #[t, t] }) (hs : ev (.tmp s) = v) (hx : ev (.tmp x) = u) (hr : (Builtin.append_ #[t, t] o.type #[v, u]).run Tryz.prog w = .ok v' w') : (execOp ev o).run Tryz.prog w = .ok (.value v') w' := by
  unfold execOp
  simp only [ho, resolve, invoke, builtin, Sem.run_bind, Sem.run_pure, Result.andThen_ok, List.map_toArray, List.map_cons, List.map_nil, hs, hx, hr]
end

end Go.Proofs.YtjageagnclmnjabGreatDoor

namespace Go.Proofs.YtjageagnclmnjabGreatDoor
open Go.RowKit
set_option linter.unusedVariables false

/-- slots that are written in whatever order -/
def sets (y : Nat → Value) : List Nat → Array Value → Array Value
  | [], ts => ts
  | s :: l, ts => sets y l (ts.setIfInBounds s (y s))
theorem sets_size (y : Nat → Value) : ∀ (l : List Nat) (ts : Array Value), (sets y l ts).size = ts.size
  | [], ts => rfl
  | s :: l, ts => by rw [sets, sets_size]; simp
theorem sets_get (y : Nat → Value) : ∀ (l : List Nat) (ts : Array Value) (j : Nat), (sets y l ts)[j]? = if j ∈ l ∧ j < ts.size then some (y j) else ts[j]?
  | [], ts, j => by simp [sets]
  | s :: l, ts, j => by
    rw [sets, sets_get y l, Array.size_setIfInBounds]
    by_cases h : j ∈ l ∧ j < ts.size
    · rw [if_pos h, if_pos ⟨by simp [h.1], h.2⟩]
    · rw [if_neg h, Array.getElem?_setIfInBounds]
      by_cases e : s = j
      · subst e
        by_cases hs : s < ts.size
        · simp [hs]
        · simp [hs]
      · rw [if_neg e]
        have : ¬ (j ∈ s :: l ∧ j < ts.size) := fun q => h ⟨by rcases List.mem_cons.1 q.1 with q1 | q1; (exact absurd q1.symm e); (exact q1), q.2⟩
        rw [if_neg this]
theorem sets_put (y : Nat → Value) (l : List Nat) (ts : Array Value) {s : Nat} (hs : s ∈ l) (x : Value) : (sets y l ts).setIfInBounds s x = sets (up y s x) l ts := by
  apply Array.ext_getElem?
  intro j
  rw [Array.getElem?_setIfInBounds, sets_size, sets_get, sets_get]
  by_cases e : s = j
  · subst e
    rw [if_pos rfl]
    by_cases h : s < ts.size
    · rw [if_pos h, if_pos ⟨hs, h⟩, up_at]
    · rw [if_neg h, if_neg (fun q => h q.2)]
      simp [Nat.le_of_not_lt h]
  · rw [if_neg e]
    by_cases h : j ∈ l ∧ j < ts.size
    · rw [if_pos h, if_pos h, up_ne _ _ _ (fun q => e q.symm)]
    · rw [if_neg h, if_neg h]
theorem sets_id (l : List Nat) (ts : Array Value) : sets (fun s => ts.getD s undef) l ts = ts := by
  apply Array.ext_getElem?
  intro j
  rw [sets_get]
  by_cases h : j ∈ l ∧ j < ts.size
  · rw [if_pos h]; simp [h.2]
  · rw [if_neg h]
/-- the acts of the region -/
def tA (a0 : Act) (l : List Nat) (y : Nat → Value) : Act := ⟨sets y l a0.tmps, a0.defers⟩
theorem tA_put (a0 : Act) (l : List Nat) (y : Nat → Value) {s : Nat} (hs : s ∈ l) (x : Value) : (tA a0 l y).put (some s) x = tA a0 l (up y s x) := by
  show (⟨(sets y l a0.tmps).setIfInBounds s x, a0.defers⟩ : Act) = _
  rw [sets_put y l a0.tmps hs x]
  rfl
theorem tA_slot (a0 : Act) (l : List Nat) (y : Nat → Value) {s : Nat} (hs : s ∈ l) (hz : s < a0.tmps.size) : (tA a0 l y).eval (.tmp s) = y s := by
  show (sets y l a0.tmps).getD s undef = y s
  rw [Array.getD_eq_getD_getElem?, sets_get, if_pos ⟨hs, hz⟩]; rfl
theorem tA_other (a0 : Act) (l : List Nat) (y : Nat → Value) {s : Nat} (hs : s ∉ l) : (tA a0 l y).eval (.tmp s) = a0.eval (.tmp s) := by
  show (sets y l a0.tmps).getD s undef = a0.tmps.getD s undef
  rw [Array.getD_eq_getD_getElem?, Array.getD_eq_getD_getElem?, sets_get, if_neg (fun q => hs q.1)]
theorem tA_id (a0 : Act) (l : List Nat) : a0 = tA a0 l (fun s => a0.tmps.getD s undef) := by
  unfold tA
  rw [sets_id]

def lS (L : Array Bool) (c : Nat) : Bool := if 1 ≤ c ∧ c < 5 then L.getD (21 + 2 * (c - 1)) false else false
theorem getD_set {L : Array Bool} {i : Nat} (hi : i < L.size) (j : Nat) : (L.setIfInBounds i true).getD j false = if j = i then true else L.getD j false := by
  by_cases e : j = i
  · subst e; simp [hi]
  · rw [if_neg e, getD_set_ne false (Ne.symm e)]
def vl (C : Nat) (v el : Nat → Value) (b : Nat → Nat) (v' : Nat → Value) (i : Nat) : Value :=
  if i < 20 then
    if i % 5 = 0 then .pointer (some ⟨C, i / 5 + 1, none⟩) else if i % 5 = 1 then v (i / 5 + 1) else if i % 5 = 2 then el (i / 5 + 1) else if i % 5 = 3 then .slice (some ⟨b (i / 5 + 1), 0, none⟩) 1 1 else v' (i / 5 + 1)
  else .pointer (some ⟨C, (i - 20) / 2 + 1, none⟩)
def yields (i : Nat) : Prop := i < 20 ∨ i % 2 = 0
section
variable {B0 : Nat} {K : Nat → Prop} {C : Nat} {v el : Nat → Value} {n : Nat → Nat} {xs new : Nat → List Value} {w1 : World} {B1 : Nat} {wB : World} {L : Array Bool} {y v' : Nat → Value} {b : Nat → Nat} {w : World}
end

end Go.Proofs.YtjageagnclmnjabGreatDoor

namespace Go.Proofs.YtjageagnclmnjabGreatDoor.V
open Go.RowKit

theorem partC (xs : Array Value) (i : Nat) (v : Int) (h : xs[i]? = some (.int .i64 v)) (w : World) : (part 3 xs i).run Tryz.prog w = .ok (.int .i64 v) w := by
  simp [part, go_sem, h]

theorem eqField (xs ys : Array Value) (f : Field) (fs : List Field) (i : Nat) (x y : Int) (w : World) (hn : (f.name == "_") = false) (ht : f.type = 3) (ho : f.offset = i) (hx : xs[i]? = some (.int .i64 x)) (hy : ys[i]? = some (.int .i64 y)) (B : Bool)
    (hr : (Op.eqFields 9999 xs ys fs).run Tryz.prog w = .ok B w) :
    (Op.eqFields 9999 xs ys (f :: fs)).run Tryz.prog w = .ok (decide (x = y) && B) w := by
  have hn' : f.name ≠ "_" := by simpa using hn
  rw [Op.eqFields, if_pos hn', ht, ho]
  simp only [Sem.run_bind, partC xs i x hx, partC ys i y hy, Result.andThen_ok, run_equalIn_int w 9998 3 .i64 .i64 x y Tryz.underlying3]
  by_cases h : x = y
  · simp [h, hr]
  · simp [h]

theorem six {xs : List Field} (h : xs.map (fun f => (f.name == "_", f.type, f.offset)) = [(false, 3, 0), (false, 3, 1), (false, 3, 2), (false, 3, 3), (false, 3, 4), (false, 3, 5)]) :
    ∃ f0 f1 f2 f3 f4 f5, xs = [f0, f1, f2, f3, f4, f5] := by
  have hl : xs.length = 6 := by simpa using congrArg List.length h
  match xs, hl with
  | [f0, f1, f2, f3, f4, f5], _ => exact ⟨f0, f1, f2, f3, f4, f5, rfl⟩
theorem Tryz.fields23 : (Tryz.prog.fieldsOf 45).toList.map (fun f => (f.name == "_", f.type, f.offset)) = [(false, 3, 0), (false, 3, 1), (false, 3, 2), (false, 3, 3), (false, 3, 4), (false, 3, 5)] := by kernel_rfl

theorem eqC (k n b a s q k' n' b' a' s' q' : Int) (w : World) :
    (binOp .eql 45 (.agg #[.int .i64 k, .int .i64 n, .int .i64 b, .int .i64 a, .int .i64 s, .int .i64 q]) (.agg #[.int .i64 k', .int .i64 n', .int .i64 b', .int .i64 a', .int .i64 s', .int .i64 q'])).run Tryz.prog w
      = .ok (.bool (decide (k = k') && (decide (n = n') && (decide (b = b') && (decide (a = a') && (decide (s = s') && (decide (q = q') && true))))))) w := by
  rw [run_eql_struct, run_equalIn_agg (d := 9999) _ _ _ _ (by kernel_rfl) (by kernel_rfl)]
  have hf := Tryz.fields23
  obtain ⟨f0, f1, f2, f3, f4, f5, e⟩ := six hf
  rw [e] at hf ⊢
  simp only [List.map_cons, List.map_nil, List.cons.injEq, Prod.mk.injEq, and_true] at hf
  obtain ⟨⟨a0, b0, c0⟩, ⟨a1, b1, c1⟩, ⟨a2, b2, c2⟩, ⟨a3, b3, c3⟩, ⟨a4, b4, c4⟩, ⟨a5, b5, c5⟩⟩ := hf
  rw [eqField _ _ f0 _ 0 k k' w a0 b0 c0 rfl rfl _ (eqField _ _ f1 _ 1 n n' w a1 b1 c1 rfl rfl _ (eqField _ _ f2 _ 2 b b' w a2 b2 c2 rfl rfl _ (eqField _ _ f3 _ 3 a a' w a3 b3 c3 rfl rfl _ (eqField _ _ f4 _ 4 s s' w a4 b4 c4 rfl rfl _ (eqField _ _ f5 _ 5 q q' w a5 b5 c5 rfl rfl true (by simp [Op.eqFields]))))))]
  rfl

/-- whether they are the same -/
def sameC (k n b a s q k' n' b' a' s' q' : Int) : Bool := decide (k = k') && (decide (n = n') && (decide (b = b') && (decide (a = a') && (decide (s = s') && (decide (q = q') && true)))))
theorem eqS (k n b a s q k' n' b' a' s' q' : Int) (w : World) :
    (binOp .eql 45 (.agg #[.int .i64 k, .int .i64 n, .int .i64 b, .int .i64 a, .int .i64 s, .int .i64 q]) (.agg #[.int .i64 k', .int .i64 n', .int .i64 b', .int .i64 a', .int .i64 s', .int .i64 q'])).run Tryz.prog w = .ok (.bool (sameC k n b a s q k' n' b' a' s' q')) w := eqC k n b a s q k' n' b' a' s' q' w
theorem same_is {k n b a s q k' n' b' a' s' q' : Int} : sameC k n b a s q k' n' b' a' s' q' = true ↔ k = k' ∧ n = n' ∧ b = b' ∧ a = a' ∧ s = s' ∧ q = q' := by
  unfold sameC; simp
end Go.Proofs.YtjageagnclmnjabGreatDoor.V

namespace Go.Proofs.YtjageagnclmnjabGreatDoor.K
open Go.RowKit

theorem Tryz.cells3 : Tryz.prog.cellsOf 3 = 1 := by kernel_rfl
theorem Tryz.infos3 : (Tryz.prog.info? 3).isSome = true := by kernel_rfl

/-- whether they are the same -/
def sameA (a b x y : Int) : Bool := decide (a = x) && (decide (b = y) && true)
theorem partC (xs : Array Value) (i : Nat) (v : Int) (h : xs[i]? = some (.int .i64 v)) (w : World) : (part 3 xs i).run Tryz.prog w = .ok (.int .i64 v) w := by
  simp [part, go_sem, h]
theorem eqItem (d : Nat) (xs ys : Array Value) (i : Nat) (is : List Nat) (x y : Int) (w : World) (hx : xs[i]? = some (.int .i64 x)) (hy : ys[i]? = some (.int .i64 y)) (B : Bool) (hr : (Op.eqItems (d + 1) 3 1 xs ys is).run Tryz.prog w = .ok B w) :
    (Op.eqItems (d + 1) 3 1 xs ys (i :: is)).run Tryz.prog w = .ok (decide (x = y) && B) w := by
  rw [Op.eqItems, Nat.mul_one]
  simp only [Sem.run_bind, partC xs i x hx, partC ys i y hy, Result.andThen_ok, run_equalIn_int w d 3 .i64 .i64 x y Tryz.underlying3]
  by_cases h : x = y
  · simp [h, hr]
  · simp [h]
theorem eqArr (d : Nat) (a b x y : Int) (w : World) : (Op.equalIn (d + 2) 67 (.agg #[.int .i64 a, .int .i64 b]) (.agg #[.int .i64 x, .int .i64 y])).run Tryz.prog w = .ok (sameA a b x y) w := by
  obtain ⟨i, hi⟩ := Option.isSome_iff_exists.1 Tryz.infos3
  rw [run_equalIn_array w (d + 1) _ _ Tryz.underlying67 hi, Tryz.cells3, show List.range 2 = [0, 1] from rfl]
  exact eqItem d _ _ 0 _ a x w rfl rfl _ (eqItem d _ _ 1 _ b y w rfl rfl true (by simp [Op.eqItems]))
theorem eqField (xs ys : Array Value) (f : Field) (fs : List Field) (i : Nat) (a b x y : Int) (w : World) (hn : (f.name == "_") = false) (ht : f.type = 67) (ho : f.offset = i) (hx : (part 67 xs i).run Tryz.prog w = .ok (.agg #[.int .i64 a, .int .i64 b]) w) (hy : (part 67 ys i).run Tryz.prog w = .ok (.agg #[.int .i64 x, .int .i64 y]) w) (B : Bool)
    (hr : (Op.eqFields 9999 xs ys fs).run Tryz.prog w = .ok B w) :
    (Op.eqFields 9999 xs ys (f :: fs)).run Tryz.prog w = .ok (sameA a b x y && B) w := by
  have hn' : f.name ≠ "_" := by simpa using hn
  rw [Op.eqFields, if_pos hn', ht, ho]
  simp only [Sem.run_bind, hx, hy, Result.andThen_ok, eqArr 9997]
  cases sameA a b x y
  · simp
  · simp [hr]
theorem three {xs : List Field} (h : xs.map (fun f => (f.name == "_", f.type, f.offset)) = [(false, 67, 0), (false, 67, 2), (false, 67, 4)]) : ∃ f0 f1 f2, xs = [f0, f1, f2] := by
  have hl : xs.length = 3 := by simpa using congrArg List.length h
  match xs, hl with
  | [f0, f1, f2], _ => exact ⟨f0, f1, f2, rfl⟩
end Go.Proofs.YtjageagnclmnjabGreatDoor.K

namespace Go.Proofs.YtjageagnclmnjabGreatDoor.D
open Go.RowKit K

end Go.Proofs.YtjageagnclmnjabGreatDoor.D

namespace Go.Proofs.YtjageagnclmnjabGreatDoor.D
open Go.RowKit K
set_option linter.unusedVariables false

theorem wrapIn {x : Int} (h : -9223372036854775808 ≤ x ∧ x ≤ 9223372036854775807) : IntKind.i64.wrap x = x := by rw [IntKind.wrap_i64]; omega
/-- a state at place o of block g -/
structure Sat (w : World) (g o : Nat) (s : Sx) : Prop where
  c0 : w.cell? ⟨g, o, none⟩ = some (.int .i64 s.f0.k)
  c1 : w.cell? ⟨g, o + 1, none⟩ = some (.int .i64 s.f0.n)
  c2 : w.cell? ⟨g, o + 2, none⟩ = some (.int .i64 s.f0.b)
  c3 : w.cell? ⟨g, o + 3, none⟩ = some (.int .i64 s.f0.a)
  c4 : w.cell? ⟨g, o + 4, none⟩ = some (.int .i64 s.f0.s)
  c5 : w.cell? ⟨g, o + 5, none⟩ = some (.int .i64 s.f0.q)
  c6 : w.cell? ⟨g, o + 6, none⟩ = some (.int .i64 s.f1.k)
  c7 : w.cell? ⟨g, o + 7, none⟩ = some (.int .i64 s.f1.n)
  c8 : w.cell? ⟨g, o + 8, none⟩ = some (.int .i64 s.f1.b)
  c9 : w.cell? ⟨g, o + 9, none⟩ = some (.int .i64 s.f1.a)
  c10 : w.cell? ⟨g, o + 10, none⟩ = some (.int .i64 s.f1.s)
  c11 : w.cell? ⟨g, o + 11, none⟩ = some (.int .i64 s.f1.q)
  c12 : w.cell? ⟨g, o + 12, none⟩ = some (.int .i64 s.w0)
  c13 : w.cell? ⟨g, o + 13, none⟩ = some (.int .i64 s.w1)
theorem Sat.kept {w w' : World} {g o : Nat} {s : Sx} (h : Sat w g o s) (b : Below w.heap.size w w') : Sat w' g o s := by
  have hl : g < w.heap.size := block_lt h.c0
  have e : ∀ p, w'.cell? ⟨g, p, none⟩ = w.cell? ⟨g, p, none⟩ := fun p => b.cell (p := ⟨g, p, none⟩) hl
  exact ⟨(e _).trans h.c0, (e _).trans h.c1, (e _).trans h.c2, (e _).trans h.c3, (e _).trans h.c4, (e _).trans h.c5, (e _).trans h.c6, (e _).trans h.c7, (e _).trans h.c8, (e _).trans h.c9, (e _).trans h.c10, (e _).trans h.c11, (e _).trans h.c12, (e _).trans h.c13⟩
/-- one of the states of a row -/
theorem own_state {w : World} {base : Nat} {t : Value} {m : Nat} {L : List Sx} (h : w.ownsRow base 147 14 t m (flS L)) {k : Nat} {s : Sx} (hk : L[k]? = some s) : ∃ g cap, t = .slice (some ⟨g, 0, none⟩) m cap ∧ m ≤ cap ∧ L.length = m ∧ Sat w g (k * 14) s := by
  have hkl := (List.getElem?_eq_some_iff.1 hk).1
  obtain ⟨hl, ⟨e, e2⟩ | ⟨g, cap, cur, e, hg, hh, hc, _, hcs, htk⟩⟩ := h
  · rw [flS_len, e2] at hl; omega
  · rw [flS_len] at hl
    have hm : L.length = m := by omega
    refine ⟨g, cap, e, hc, hm, ?_⟩
    have key : ∀ i, i < 14 → w.cell? ⟨g, k * 14 + i, none⟩ = (cS s)[i]? := fun i hi => by
      have := flS_get L k i s hk hi
      rw [← htk, List.getElem?_take_of_lt (by omega)] at this
      simp only [World.cell?, hh]
      rw [← this]
      simp
    exact ⟨key 0 (by omega), key 1 (by omega), key 2 (by omega), key 3 (by omega), key 4 (by omega), key 5 (by omega), key 6 (by omega), key 7 (by omega), key 8 (by omega), key 9 (by omega), key 10 (by omega), key 11 (by omega), key 12 (by omega), key 13 (by omega)⟩

/-- the answer's own block, still nothing -/
structure Res (w : World) (P : Nat) : Prop where
  c : ∀ c, c < 5 → w.cell? ⟨P, c, none⟩ = some (.slice none 0 0) ∧ w.frozen? ⟨P, c, none⟩ = false
theorem Res.new (w : World) (P : Nat) (hP : P = w.heap.size) : Res (w.alloc (.cells #[.slice none 0 0, .slice none 0 0, .slice none 0 0, .slice none 0 0, .slice none 0 0] 102)) P := ⟨fun c hc => by
  subst hP
  rw [World.cell?_alloc_at _ _ _ _ rfl, World.frozen?_alloc_at _ _ _ _ rfl]
  rcases (show c = 0 ∨ c = 1 ∨ c = 2 ∨ c = 3 ∨ c = 4 by omega) with rfl | rfl | rfl | rfl | rfl <;> exact ⟨rfl, rfl⟩⟩
/-- five slices in block C -/
structure Fiv (w : World) (C : Nat) (v : Nat → Value) : Prop where
  c : ∀ c, c < 5 → w.cell? ⟨C, c, none⟩ = some (v c) ∧ w.frozen? ⟨C, c, none⟩ = false
/-- the blocks that the rows leave alone -/
def kk (w : World) (C : Nat) : Nat → Prop := fun g => g = w.heap.size ∨ g = w.heap.size + 1 ∨ g = C

/-- what lies there in SOf: X: which rows (behind how many steps) -/
structure So (w : World) (r : Ru) (C : Nat) (K' : Nat → Prop) (v : Nat → Value) (n : Nat → Nat) (xs : Nat → List Value) (wr : World) : Prop where
  rul : Rul wr w.heap.size r.k0 r.k1 r.r r.m r.j
  res : Res wr (w.heap.size + 1)
  fiv : Fiv wr C v
  fam : Fam w.heap.size K' v n xs wr
  kin : ∀ g, kk w C g → K' g
  cc : w.heap.size + 1 < C
  below : Below w.heap.size w wr
theorem So.less {w : World} {r : Ru} {C : Nat} {K' K2 : Nat → Prop} {v : Nat → Value} {n : Nat → Nat} {xs : Nat → List Value} {wr : World} (h : So w r C K' v n xs wr) (h1 : ∀ g, K2 g → K' g) (h2 : ∀ g, kk w C g → K2 g) : So w r C K2 v n xs wr :=
  ⟨h.rul, h.res, h.fiv, h.fam.less h1, h2, h.cc, h.below⟩

section
variable {w : World} {r : Ru} {C : Nat} {K' : Nat → Prop} {v : Nat → Value} {n : Nat → Nat} {xs : Nat → List Value}
end

end Go.Proofs.YtjageagnclmnjabGreatDoor.D
