/- PROVED: a fraction of the call's own, in memory; what '==' tells of two. CONDITIONS: none beyond each theorem's own. -/
import Derived.Test.YtggnhgbimkfdaaaMem
import Derived.Laws.StructEq
namespace Go.Proofs.Ytggnhgbimkfdaaa
open Go.RowKit

/-- a fraction of the call's own, in block C -/
structure Fr (w : World) (C : Nat) (a b : Int) : Prop where
  c0 : w.cell? ⟨C, 0, none⟩ = some (.int .i64 a)
  c1 : w.cell? ⟨C, 1, none⟩ = some (.int .i64 b)
  f0 : w.frozen? ⟨C, 0, none⟩ = false
  f1 : w.frozen? ⟨C, 1, none⟩ = false
theorem Fr.new (w : World) (C : Nat) (hC : C = w.heap.size) (a b : Int) : Fr (w.alloc (.cells #[.int .i64 a, .int .i64 b] 24)) C a b := by
  subst hC
  constructor
  all_goals first
    | (rw [World.cell?_alloc_at _ _ _ _ rfl]; rfl)
    | (rw [World.frozen?_alloc_at _ _ _ _ rfl])
theorem Fr.kept {w w' : World} {C : Nat} {a b : Int} (h : Fr w C a b) (g : Below w.heap.size w w') : Fr w' C a b := by
  have hl : C < w.heap.size := block_lt h.c0
  have e : ∀ o, w'.cell? ⟨C, o, none⟩ = w.cell? ⟨C, o, none⟩ := fun o => g.cell (p := ⟨C, o, none⟩) hl
  have f : ∀ o, w'.frozen? ⟨C, o, none⟩ = w.frozen? ⟨C, o, none⟩ := fun o => g.frozen (p := ⟨C, o, none⟩) hl
  exact ⟨(e 0).trans h.c0, (e 1).trans h.c1, (f 0).trans h.f0, (f 1).trans h.f1⟩
theorem Fr.alloc {w : World} {C : Nat} {a b : Int} (h : Fr w C a b) (o : Obj) : Fr (w.alloc o) C a b := h.kept (balloc (Below.refl _ _) o)
theorem Fr.drewN {w : World} {C : Nat} {a b : Int} (h : Fr w C a b) (m : Nat) : Fr (w.drewN m) C a b := h.kept (below_drewN (Below.refl _ _) m)
theorem Fr.put {w : World} {C : Nat} {a b : Int} (h : Fr w C a b) (x y : Int) : Fr ((w.setCell ⟨C, 0, none⟩ (.int .i64 x)).setCell ⟨C, 1, none⟩ (.int .i64 y)) C x y :=
  have c1 : (w.setCell ⟨C, 0, none⟩ (.int .i64 x)).cell? ⟨C, 1, none⟩ = some (.int .i64 b) := (World.cell?_setCell_other _ _ _ _ (by simp)).trans h.c1
  ⟨(World.cell?_setCell_other _ _ _ _ (by simp)).trans (World.cell?_setCell_same _ _ _ h.c0), World.cell?_setCell_same _ _ _ c1,
    (World.frozen?_setCell _ _ _ _).trans ((World.frozen?_setCell _ _ _ _).trans h.f0), (World.frozen?_setCell _ _ _ _).trans ((World.frozen?_setCell _ _ _ _).trans h.f1)⟩

theorem partC (xs : Array Value) (i : Nat) (v : Int) (h : xs[i]? = some (.int .i64 v)) (w : World) : (part 3 xs i).run Try.prog w = .ok (.int .i64 v) w := by
  simp [part, go_sem, h]
theorem eqField (xs ys : Array Value) (f : Field) (fs : List Field) (i : Nat) (x y : Int) (w : World) (hn : (f.name == "_") = false) (ht : f.type = 3) (ho : f.offset = i) (hx : xs[i]? = some (.int .i64 x)) (hy : ys[i]? = some (.int .i64 y)) (B : Bool)
    (hr : (Op.eqFields 9999 xs ys fs).run Try.prog w = .ok B w) :
    (Op.eqFields 9999 xs ys (f :: fs)).run Try.prog w = .ok (decide (x = y) && B) w := by
  have hn' : f.name ≠ "_" := by simpa using hn
  rw [Op.eqFields, if_pos hn', ht, ho]
  simp only [Sem.run_bind, partC xs i x hx, partC ys i y hy, Result.andThen_ok, run_equalIn_int w 9998 3 .i64 .i64 x y Try.underlying3]
  by_cases h : x = y
  · simp [h, hr]
  · simp [h]
theorem two {xs : List Field} (h : xs.map (fun f => (f.name == "_", f.type, f.offset)) = [(false, 3, 0), (false, 3, 1)]) : ∃ f0 f1, xs = [f0, f1] := by
  have hl : xs.length = 2 := by simpa using congrArg List.length h
  match xs, hl with
  | [f0, f1], _ => exact ⟨f0, f1, rfl⟩
theorem Try.fields24 : (Try.prog.fieldsOf 24).toList.map (fun f => (f.name == "_", f.type, f.offset)) = [(false, 3, 0), (false, 3, 1)] := by kernel_rfl
/-- whether they are the same -/
def sameF (a b x y : Int) : Bool := decide (a = x) && (decide (b = y) && true)
theorem eqF (a b x y : Int) (w : World) :
    (binOp .eql 24 (.agg #[.int .i64 a, .int .i64 b]) (.agg #[.int .i64 x, .int .i64 y])).run Try.prog w = .ok (.bool (sameF a b x y)) w := by
  rw [run_eql_struct, run_equalIn_agg (d := 9999) _ _ _ _ (by kernel_rfl) (by kernel_rfl)]
  have hf := Try.fields24
  obtain ⟨f0, f1, e⟩ := two hf
  rw [e] at hf ⊢
  simp only [List.map_cons, List.map_nil, List.cons.injEq, Prod.mk.injEq, and_true] at hf
  obtain ⟨⟨a0, b0, c0⟩, ⟨a1, b1, c1⟩⟩ := hf
  rw [eqField _ _ f0 _ 0 a x w a0 b0 c0 rfl rfl _ (eqField _ _ f1 _ 1 b y w a1 b1 c1 rfl rfl true (by simp [Op.eqFields]))]
  rfl
theorem same_self (a b : Int) : sameF a b a b = true := by unfold sameF; simp

end Go.Proofs.Ytggnhgbimkfdaaa
