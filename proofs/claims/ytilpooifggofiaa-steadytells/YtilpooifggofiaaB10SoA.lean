/- PROVED: what lies there while the document's own SOf goes on. CONDITIONS: none beyond each theorem's own. -/
import Derived.Test.YtilpooifggofiaaB06Reg
import Derived.Test.YtilpooifggofiaaB07Rj
import Derived.Test.YtilpooifggofiaaB08KRnd
import Derived.Test.YtilpooifggofiaaB09DSame
namespace Go.Proofs.Ytilpooifggofiaa.D
open Go.RowKit K
set_option linter.unusedVariables false

theorem wrapIn {x : Int} (h : -9223372036854775808 ≤ x ∧ x ≤ 9223372036854775807) : IntKind.i64.wrap x = x := by rw [IntKind.wrap_i64]; omega
/-- a state at place o of block g -/
structure Sat (w : World) (g o : Nat) (s : Sx) : Prop where
  c0 : w.cell? ⟨g, o, none⟩ = some (.int .i64 s.f0.k)
  c1 : w.cell? ⟨g, o + 1, none⟩ = some (.int .i64 s.f0.n)
  c2 : w.cell? ⟨g, o + 2, none⟩ = some (.int .i64 s.f0.b)
  c3 : w.cell? ⟨g, o + 3, none⟩ = some (.int .i64 s.f0.a)
  c4 : w.cell? ⟨g, o + 4, none⟩ = some (.int .i64 s.f0.s)
  c5 : w.cell? ⟨g, o + 5, none⟩ = some (.int .i64 s.f0.q)
  c6 : w.cell? ⟨g, o + 6, none⟩ = some (.int .i64 s.f1.k)
  c7 : w.cell? ⟨g, o + 7, none⟩ = some (.int .i64 s.f1.n)
  c8 : w.cell? ⟨g, o + 8, none⟩ = some (.int .i64 s.f1.b)
  c9 : w.cell? ⟨g, o + 9, none⟩ = some (.int .i64 s.f1.a)
  c10 : w.cell? ⟨g, o + 10, none⟩ = some (.int .i64 s.f1.s)
  c11 : w.cell? ⟨g, o + 11, none⟩ = some (.int .i64 s.f1.q)
  c12 : w.cell? ⟨g, o + 12, none⟩ = some (.int .i64 s.w0)
  c13 : w.cell? ⟨g, o + 13, none⟩ = some (.int .i64 s.w1)
theorem Sat.kept {w w' : World} {g o : Nat} {s : Sx} (h : Sat w g o s) (b : Below w.heap.size w w') : Sat w' g o s := by
  have hl : g < w.heap.size := block_lt h.c0
  have e : ∀ p, w'.cell? ⟨g, p, none⟩ = w.cell? ⟨g, p, none⟩ := fun p => b.cell (p := ⟨g, p, none⟩) hl
  exact ⟨(e _).trans h.c0, (e _).trans h.c1, (e _).trans h.c2, (e _).trans h.c3, (e _).trans h.c4, (e _).trans h.c5, (e _).trans h.c6, (e _).trans h.c7, (e _).trans h.c8, (e _).trans h.c9, (e _).trans h.c10, (e _).trans h.c11, (e _).trans h.c12, (e _).trans h.c13⟩
/-- one of the states of a row -/
theorem own_state {w : World} {base : Nat} {t : Value} {m : Nat} {L : List Sx} (h : w.ownsRow base 48 14 t m (flS L)) {k : Nat} {s : Sx} (hk : L[k]? = some s) : ∃ g cap, t = .slice (some ⟨g, 0, none⟩) m cap ∧ m ≤ cap ∧ L.length = m ∧ Sat w g (k * 14) s := by
  have hkl := (List.getElem?_eq_some_iff.1 hk).1
  obtain ⟨hl, ⟨e, e2⟩ | ⟨g, cap, cur, e, hg, hh, hc, _, hcs, htk⟩⟩ := h
  · rw [flS_len, e2] at hl; omega
  · rw [flS_len] at hl
    have hm : L.length = m := by omega
    refine ⟨g, cap, e, hc, hm, ?_⟩
    have key : ∀ i, i < 14 → w.cell? ⟨g, k * 14 + i, none⟩ = (cS s)[i]? := fun i hi => by
      have := flS_get L k i s hk hi
      rw [← htk, List.getElem?_take_of_lt (by omega)] at this
      simp only [World.cell?, hh]
      rw [← this]
      simp
    exact ⟨key 0 (by omega), key 1 (by omega), key 2 (by omega), key 3 (by omega), key 4 (by omega), key 5 (by omega), key 6 (by omega), key 7 (by omega), key 8 (by omega), key 9 (by omega), key 10 (by omega), key 11 (by omega), key 12 (by omega), key 13 (by omega)⟩

/-- the answer's own block, still nothing -/
structure Res (w : World) (P : Nat) : Prop where
  c : ∀ c, c < 5 → w.cell? ⟨P, c, none⟩ = some (.slice none 0 0) ∧ w.frozen? ⟨P, c, none⟩ = false
theorem Res.kept {w w' : World} {P : Nat} (h : Res w P) (b : Below w.heap.size w w') : Res w' P := ⟨fun c hc => by
  have hl : P < w.heap.size := block_lt (h.c c hc).1
  exact ⟨(b.cell (p := ⟨P, c, none⟩) hl).trans (h.c c hc).1, (b.frozen (p := ⟨P, c, none⟩) hl).trans (h.c c hc).2⟩⟩
theorem Res.new (w : World) (P : Nat) (hP : P = w.heap.size) : Res (w.alloc (.cells #[.slice none 0 0, .slice none 0 0, .slice none 0 0, .slice none 0 0, .slice none 0 0] 30)) P := ⟨fun c hc => by
  subst hP
  rw [World.cell?_alloc_at _ _ _ _ rfl, World.frozen?_alloc_at _ _ _ _ rfl]
  rcases (show c = 0 ∨ c = 1 ∨ c = 2 ∨ c = 3 ∨ c = 4 by omega) with rfl | rfl | rfl | rfl | rfl <;> exact ⟨rfl, rfl⟩⟩
/-- five slices in block C -/
structure Fiv (w : World) (C : Nat) (v : Nat → Value) : Prop where
  c : ∀ c, c < 5 → w.cell? ⟨C, c, none⟩ = some (v c) ∧ w.frozen? ⟨C, c, none⟩ = false
theorem Fiv.kept {w w' : World} {C : Nat} {v : Nat → Value} (h : Fiv w C v) (b : Below w.heap.size w w') : Fiv w' C v := ⟨fun c hc => by
  have hl : C < w.heap.size := block_lt (h.c c hc).1
  exact ⟨(b.cell (p := ⟨C, c, none⟩) hl).trans (h.c c hc).1, (b.frozen (p := ⟨C, c, none⟩) hl).trans (h.c c hc).2⟩⟩
theorem Fiv.far {w : World} {C : Nat} {v : Nat → Value} (h : Fiv w C v) {p : Addr} (hp : p.block ≠ C) (x : Value) : Fiv (w.setCell p x) C v := ⟨fun c hc => ⟨(World.cell?_setCell_other _ _ _ _ (fun q => hp (by rw [q]))).trans (h.c c hc).1, (World.frozen?_setCell _ _ _ _).trans (h.c c hc).2⟩⟩
/-- five slices are written -/
theorem Fiv.one {w : World} {C : Nat} {v : Nat → Value} (h : Fiv w C v) {k : Nat} (hk : k < 5) (x : Value) : Fiv (w.setCell ⟨C, k, none⟩ x) C (up v k x) := ⟨fun c hc => by
  refine ⟨?_, (World.frozen?_setCell _ _ _ _).trans (h.c c hc).2⟩
  by_cases e : c = k
  · subst e; rw [up_at]; exact World.cell?_setCell_same _ _ _ (h.c c hc).1
  · rw [up_ne _ _ _ e, World.cell?_setCell_other _ _ _ _ (fun q => e (by injection q with _ q _; exact q.symm))]; exact (h.c c hc).1⟩
def put5 (w : World) (C : Nat) (x : Nat → Value) : World := ((((w.setCell ⟨C, 0, none⟩ (x 0)).setCell ⟨C, 1, none⟩ (x 1)).setCell ⟨C, 2, none⟩ (x 2)).setCell ⟨C, 3, none⟩ (x 3)).setCell ⟨C, 4, none⟩ (x 4)
theorem Fiv.all {w : World} {C : Nat} {v : Nat → Value} (h : Fiv w C v) (x : Nat → Value) : Fiv (put5 w C x) C x := by
  have h5 := ((((h.one (k := 0) (by omega) (x 0)).one (k := 1) (by omega) (x 1)).one (k := 2) (by omega) (x 2)).one (k := 3) (by omega) (x 3)).one (k := 4) (by omega) (x 4)
  refine ⟨fun c hc => ?_⟩
  have := h5.c c hc
  rcases (show c = 0 ∨ c = 1 ∨ c = 2 ∨ c = 3 ∨ c = 4 by omega) with rfl | rfl | rfl | rfl | rfl <;> simpa [up, put5] using this
theorem Res.fiv {w : World} {P : Nat} (h : Res w P) : Fiv w P (fun _ => .slice none 0 0) := ⟨fun c hc => h.c c hc⟩
theorem below_put5 {B C : Nat} {w v : World} (h : Below B w v) (hC : B ≤ C) (x : Nat → Value) : Below B w (put5 v C x) := Below.setCell (Below.setCell (Below.setCell (Below.setCell (Below.setCell h hC _) hC _) hC _) hC _) hC _
/-- the blocks that the rows leave alone -/
def kk (w : World) (C : Nat) : Nat → Prop := fun g => g = w.heap.size ∨ g = w.heap.size + 1 ∨ g = C

/-- what lies there in SOf: X: which rows (behind how many steps) -/
structure So (w : World) (r : Ru) (C : Nat) (K' : Nat → Prop) (v : Nat → Value) (n : Nat → Nat) (xs : Nat → List Value) (wr : World) : Prop where
  rul : Rul wr w.heap.size r.k0 r.k1 r.r r.m r.j
  res : Res wr (w.heap.size + 1)
  fiv : Fiv wr C v
  fam : Fam w.heap.size K' v n xs wr
  kin : ∀ g, kk w C g → K' g
  cc : w.heap.size + 1 < C
  below : Below w.heap.size w wr
theorem So.kept {w : World} {r : Ru} {C : Nat} {K' : Nat → Prop} {v : Nat → Value} {n : Nat → Nat} {xs : Nat → List Value} {wr w' : World} (h : So w r C K' v n xs wr) (b : Below wr.heap.size wr w') : So w r C K' v n xs w' :=
  ⟨h.rul.kept b, h.res.kept b, h.fiv.kept b, h.fam.kept b, h.kin, h.cc, bthen h.below b⟩
theorem So.alloc {w : World} {r : Ru} {C : Nat} {K' : Nat → Prop} {v : Nat → Value} {n : Nat → Nat} {xs : Nat → List Value} {wr : World} (h : So w r C K' v n xs wr) (o : Obj) : So w r C (fun g => K' g ∨ g = wr.heap.size) v n xs (wr.alloc o) :=
  have k := h.kept (balloc (Below.refl _ _) o)
  ⟨k.rul, k.res, k.fiv, h.fam.alloc o, fun g hg => .inl (h.kin g hg), k.cc, k.below⟩
theorem So.less {w : World} {r : Ru} {C : Nat} {K' K2 : Nat → Prop} {v : Nat → Value} {n : Nat → Nat} {xs : Nat → List Value} {wr : World} (h : So w r C K' v n xs wr) (h1 : ∀ g, K2 g → K' g) (h2 : ∀ g, kk w C g → K2 g) : So w r C K2 v n xs wr :=
  ⟨h.rul, h.res, h.fiv, h.fam.less h1, h2, h.cc, h.below⟩

/-- whether two states are the same -/
theorem sameX (x y : Sx) : sameS x.f0.k x.f0.n x.f0.b x.f0.a x.f0.s x.f0.q x.f1.k x.f1.n x.f1.b x.f1.a x.f1.s x.f1.q x.w0 x.w1 y.f0.k y.f0.n y.f0.b y.f0.a y.f0.s y.f0.q y.f1.k y.f1.n y.f1.b y.f1.a y.f1.s y.f1.q y.w0 y.w1 = decide (x = y) := by
  obtain ⟨⟨a0, a1, a2, a3, a4, a5⟩, ⟨a6, a7, a8, a9, a10, a11⟩, a12, a13⟩ := x
  obtain ⟨⟨b0, b1, b2, b3, b4, b5⟩, ⟨b6, b7, b8, b9, b10, b11⟩, b12, b13⟩ := y
  rw [Bool.eq_iff_iff]
  simp [sameS, V.sameC, sameA, Sx.mk.injEq, Ct.mk.injEq]
  try omega
theorem eqX (x y : Sx) (w : World) : (binOp .eql 48 (.agg #[.int .i64 x.f0.k, .int .i64 x.f0.n, .int .i64 x.f0.b, .int .i64 x.f0.a, .int .i64 x.f0.s, .int .i64 x.f0.q, .int .i64 x.f1.k, .int .i64 x.f1.n, .int .i64 x.f1.b, .int .i64 x.f1.a, .int .i64 x.f1.s, .int .i64 x.f1.q, .int .i64 x.w0, .int .i64 x.w1]) (.agg #[.int .i64 y.f0.k, .int .i64 y.f0.n, .int .i64 y.f0.b, .int .i64 y.f0.a, .int .i64 y.f0.s, .int .i64 y.f0.q, .int .i64 y.f1.k, .int .i64 y.f1.n, .int .i64 y.f1.b, .int .i64 y.f1.a, .int .i64 y.f1.s, .int .i64 y.f1.q, .int .i64 y.w0, .int .i64 y.w1])).run Try.prog w = .ok (.bool (decide (x = y))) w := by
  rw [eqSt, sameX]

section
variable {w : World} {r : Ru} {C : Nat} {K' : Nat → Prop} {v : Nat → Value} {n : Nat → Nat} {xs : Nat → List Value}
/-- a block that was made since is apart from the rows -/
theorem So.add {W2 W3 : World} (h : So w r C K' v n xs W2) (b : Below W2.heap.size W2 W3) {g1 : Nat} (hg : W2.heap.size ≤ g1) (hg2 : g1 < W3.heap.size) : So w r C (fun g => K' g ∨ g = g1) v n xs W3 := by
  have k := h.kept b
  refine ⟨k.rul, k.res, k.fiv, ⟨k.fam.own, k.fam.ap, fun g q => ?_, k.fam.sz⟩, fun g q => .inl (h.kin g q), k.cc, k.below⟩
  rcases q with q | rfl
  · exact k.fam.kb g q
  · exact ⟨hg2, fun c hc e => by have := ((h.fam.own c hc).lt _ e).2; omega⟩
/-- what the blocks of K hold has not changed: all but the five rows and their struct is as it was -/
theorem So.stay {W W' : World} (h : So w r C K' v n xs W) {v2 : Nat → Value} {n2 : Nat → Nat} {xs2 : Nat → List Value} (hF : Fam w.heap.size K' v2 n2 xs2 W') (hC : Fiv W' C v2) (ho : ∀ g, K' g → g ≠ C → W'.heap[g]? = W.heap[g]?) (hb : Below w.heap.size w W') : So w r C K' v2 n2 xs2 W' := by
  have cc := h.cc
  have e0 := ho w.heap.size (h.kin _ (.inl rfl)) (by omega)
  have e1 := ho (w.heap.size + 1) (h.kin _ (.inr (.inl rfl))) (by omega)
  refine ⟨h.rul.same (fun o => World.cell?_of_block (a := ⟨w.heap.size, o, none⟩) e0) (fun o => World.frozen?_of_block (a := ⟨w.heap.size, o, none⟩) e0), ⟨fun c hc => ?_⟩, hC, hF, h.kin, cc, hb⟩
  exact ⟨(World.cell?_of_block (a := ⟨w.heap.size + 1, c, none⟩) e1).trans (h.res.c c hc).1, (World.frozen?_of_block (a := ⟨w.heap.size + 1, c, none⟩) e1).trans (h.res.c c hc).2⟩
/-- one state more -/
theorem So.state {W : World} (h : So w r C K' v n xs W) (y : Sx) (hn : n 0 + 1 ≤ 1048576) (ty : Nat) : ∃ g cap w2, (Builtin.append_ #[25, 25] ty #[v 0, .slice (some ⟨W.heap.size, 0, none⟩) 1 1]).run Try.prog (W.alloc (.cells #[.int .i64 y.f0.k, .int .i64 y.f0.n, .int .i64 y.f0.b, .int .i64 y.f0.a, .int .i64 y.f0.s, .int .i64 y.f0.q, .int .i64 y.f1.k, .int .i64 y.f1.n, .int .i64 y.f1.b, .int .i64 y.f1.a, .int .i64 y.f1.s, .int .i64 y.f1.q, .int .i64 y.w0, .int .i64 y.w1] 48)) = .ok (.slice (some ⟨g, 0, none⟩) (n 0 + 1) cap) w2 ∧ w2.cell? ⟨C, 0, none⟩ = some (v 0) ∧ w2.frozen? ⟨C, 0, none⟩ = false ∧
    So w r C K' (up v 0 (.slice (some ⟨g, 0, none⟩) (n 0 + 1) cap)) (up n 0 (n 0 + 1)) (up xs 0 (xs 0 ++ cS y)) (w2.setCell ⟨C, 0, none⟩ (.slice (some ⟨g, 0, none⟩) (n 0 + 1) cap)) ∧ ∀ g', K' g' → g' ≠ C → (w2.setCell ⟨C, 0, none⟩ (.slice (some ⟨g, 0, none⟩) (n 0 + 1) cap)).heap[g']? = W.heap[g']? := by
  have k := h.alloc (.cells #[.int .i64 y.f0.k, .int .i64 y.f0.n, .int .i64 y.f0.b, .int .i64 y.f0.a, .int .i64 y.f0.s, .int .i64 y.f0.q, .int .i64 y.f1.k, .int .i64 y.f1.n, .int .i64 y.f1.b, .int .i64 y.f1.a, .int .i64 y.f1.s, .int .i64 y.f1.q, .int .i64 y.w0, .int .i64 y.w1] 48)
  have hb : (W.alloc (.cells #[.int .i64 y.f0.k, .int .i64 y.f0.n, .int .i64 y.f0.b, .int .i64 y.f0.a, .int .i64 y.f0.s, .int .i64 y.f0.q, .int .i64 y.f1.k, .int .i64 y.f1.n, .int .i64 y.f1.b, .int .i64 y.f1.a, .int .i64 y.f1.s, .int .i64 y.f1.q, .int .i64 y.w0, .int .i64 y.w1] 48)).heap[W.heap.size]? = some (.cells (cS y).toArray 48 (0, 0)) := by show (W.heap.push _)[W.heap.size]? = _; simp [cS]
  obtain ⟨g, cap, w2, hr, hF, hK, hg⟩ := k.fam.append (c := 0) (by omega) hn hb rfl (by simp [cS, Value.oneCell']) ty
  have kC : K' C := h.kin C (.inr (.inr rfl))
  have hC := hK C (.inl kC)
  obtain ⟨q1, q2⟩ := k.fiv.c 0 (by omega)
  have c0 := (World.cell?_of_block (a := ⟨C, 0, none⟩) hC).trans q1
  have f0 := (World.frozen?_of_block (a := ⟨C, 0, none⟩) hC).trans q2
  have hoth : ∀ g', K' g' → g' ≠ C → (w2.setCell ⟨C, 0, none⟩ (.slice (some ⟨g, 0, none⟩) (n 0 + 1) cap)).heap[g']? = W.heap[g']? := fun g' h1 h2 => by
    rw [Below.heap_setCell _ _ _ _ (by exact h2), hK g' (.inl h1)]
    exact (balloc (Below.refl W.heap.size W) _).block g' (h.fam.kb g' h1).1
  have hfiv : Fiv w2 C v := ⟨fun c hc => ⟨(World.cell?_of_block (a := ⟨C, c, none⟩) hC).trans (k.fiv.c c hc).1, (World.frozen?_of_block (a := ⟨C, c, none⟩) hC).trans (k.fiv.c c hc).2⟩⟩
  refine ⟨g, cap, w2, hr, c0, f0, h.stay ((hF.put (p := ⟨C, 0, none⟩) (.inl kC) _).less fun g' hg' => .inl hg') (hfiv.one (by omega) _) hoth ?_, hoth⟩
  exact Below.setCell (p := ⟨C, 0, none⟩) (k.below.grown hg k.below.size (fun q hq => ((k.fam.own 0 (by omega)).lt q hq).1)) (by have := h.cc; show w.heap.size ≤ C; omega) _
end

end Go.Proofs.Ytilpooifggofiaa.D
