/- PROVED: how rows of pairs and rows of rounds lie in memory, what keeps them; what lies there while Play goes on. CONDITIONS: none beyond each theorem's own. -/
import Derived.Test.YtjageagnclmnjaaGreatDoorX02DMem
import Derived.Test.YtjageagnclmnjaaGreatDoorX01Tx
namespace Go.Proofs.YtjageagnclmnjaaGreatDoor.D
open Go.RowKit K

/-- a row of pairs -/
def VRow (w : World) (ao : Option Addr) (ps : List (Int × Int)) : Prop :=
  ps = [] ∨ ∃ b o, ao = some ⟨b, o, none⟩ ∧ ∀ j, j < ps.length → w.cell? ⟨b, o + j * 2, none⟩ = some (.int .i64 (ps.getD j (0, 0)).1) ∧ w.cell? ⟨b, o + j * 2 + 1, none⟩ = some (.int .i64 (ps.getD j (0, 0)).2)
theorem VRow.at {w : World} {ao : Option Addr} {ps : List (Int × Int)} (h : VRow w ao ps) (hp : 0 < ps.length) : ∃ b o, ao = some ⟨b, o, none⟩ ∧ ∀ j, j < ps.length → w.cell? ⟨b, o + j * 2, none⟩ = some (.int .i64 (ps.getD j (0, 0)).1) ∧ w.cell? ⟨b, o + j * 2 + 1, none⟩ = some (.int .i64 (ps.getD j (0, 0)).2) := by
  rcases h with rfl | h
  · simp at hp
  · exact h
theorem VRow.kept {w w' : World} {ao : Option Addr} {ps : List (Int × Int)} (h : VRow w ao ps) (g : Below w.heap.size w w') : VRow w' ao ps := by
  rcases h with h | ⟨b, o, e, h⟩
  · exact .inl h
  · refine .inr ⟨b, o, e, fun j hj => ?_⟩
    obtain ⟨h1, h2⟩ := h j hj
    have hl : b < w.heap.size := block_lt h1
    exact ⟨(g.cell (p := ⟨b, o + j * 2, none⟩) hl).trans h1, (g.cell (p := ⟨b, o + j * 2 + 1, none⟩) hl).trans h2⟩
/-- no round -/
def R0 : Rx := ⟨0, 0, 0, 0, 0, 0⟩
def cellsR (x : Rx) : List Value := [.int .i64 x.s0, .int .i64 x.s1, .int .i64 x.c0, .int .i64 x.c1, .int .i64 x.l0, .int .i64 x.l1]
/-- the cells of rounds, one after another -/
def flatR : List Rx → List Value
  | [] => []
  | x :: l => cellsR x ++ flatR l
theorem flatR_append (a b : List Rx) : flatR (a ++ b) = flatR a ++ flatR b := by
  induction a with
  | nil => rfl
  | cons x l ih => simp [flatR, ih]
theorem flatR_get (l : List Rx) : ∀ j i, j < l.length → i < 6 → (flatR l)[j * 6 + i]? = (cellsR (l.getD j R0))[i]? := by
  induction l with
  | nil => intro j i h; simp at h
  | cons x l ih =>
    intro j i h hi
    cases j with
    | zero =>
      rw [flatR, Nat.zero_mul, Nat.zero_add, List.getElem?_append_left (by simpa [cellsR] using hi)]; rfl
    | succ j =>
      rw [flatR, List.getElem?_append_right (by simp [cellsR]; omega)]
      have := ih j i (by simpa using h) hi
      rw [show (j + 1) * 6 + i - (cellsR x).length = j * 6 + i by simp [cellsR]; omega]
      exact this
theorem Tryz.info34 : (Tryz.prog.info? 86).map (fun i => (i.zero, i.size, i.bytes)) = some (some (.agg #[.int .i64 0, .int .i64 0, .int .i64 0, .int .i64 0, .int .i64 0, .int .i64 0]), 6, 48) := by kernel_rfl

/-- one round in memory, at o in block b -/
structure RAt (w : World) (b o : Nat) (x : Rx) : Prop where
  c0 : w.cell? ⟨b, o, none⟩ = some (.int .i64 x.s0)
  c1 : w.cell? ⟨b, o + 1, none⟩ = some (.int .i64 x.s1)
  c2 : w.cell? ⟨b, o + 2, none⟩ = some (.int .i64 x.c0)
  c3 : w.cell? ⟨b, o + 3, none⟩ = some (.int .i64 x.c1)
  c4 : w.cell? ⟨b, o + 4, none⟩ = some (.int .i64 x.l0)
  c5 : w.cell? ⟨b, o + 5, none⟩ = some (.int .i64 x.l1)
theorem RAt.kept {w w' : World} {b o : Nat} {x : Rx} (h : RAt w b o x) (g : Below w.heap.size w w') : RAt w' b o x := by
  have hl : b < w.heap.size := block_lt h.c0
  exact ⟨(g.cell (p := ⟨b, o, none⟩) hl).trans h.c0, (g.cell (p := ⟨b, o + 1, none⟩) hl).trans h.c1, (g.cell (p := ⟨b, o + 2, none⟩) hl).trans h.c2, (g.cell (p := ⟨b, o + 3, none⟩) hl).trans h.c3, (g.cell (p := ⟨b, o + 4, none⟩) hl).trans h.c4, (g.cell (p := ⟨b, o + 5, none⟩) hl).trans h.c5⟩
/-- a row of rounds -/
def RRow (w : World) (ao : Option Addr) (R : List Rx) : Prop :=
  R = [] ∨ ∃ b o, ao = some ⟨b, o, none⟩ ∧ ∀ j, j < R.length → RAt w b (o + j * 6) (R.getD j R0)
theorem RRow.at {w : World} {ao : Option Addr} {R : List Rx} (h : RRow w ao R) (hp : 0 < R.length) : ∃ b o, ao = some ⟨b, o, none⟩ ∧ ∀ j, j < R.length → RAt w b (o + j * 6) (R.getD j R0) := by
  rcases h with rfl | h
  · simp at hp
  · exact h
theorem RRow.kept {w w' : World} {ao : Option Addr} {R : List Rx} (h : RRow w ao R) (g : Below w.heap.size w w') : RRow w' ao R := by
  rcases h with h | ⟨b, o, e, h⟩
  · exact .inl h
  · exact .inr ⟨b, o, e, fun j hj => (h j hj).kept g⟩
theorem RRow.alloc {w : World} {ao : Option Addr} {R : List Rx} (h : RRow w ao R) (o : Obj) : RRow (w.alloc o) ao R := h.kept (balloc (Below.refl _ _) o)

theorem owned6 {w : World} {base : Nat} {t : Value} {n : Nat} {R : List Rx} (hn : R.length = n) (h : w.ownsRow base 86 6 t n (flatR R)) : ∃ ao cap, t = .slice ao n cap ∧ n ≤ cap ∧ RRow w ao R ∧ ∀ q, ao = some q → base ≤ q.block := by
  subst hn
  obtain ⟨hl, ⟨e, e2⟩ | ⟨g, cap, cur, e, hg, hh, hnc, _, hcs, htk⟩⟩ := h
  · exact ⟨none, 0, by rw [e, e2], by omega, .inl (List.eq_nil_of_length_eq_zero e2), fun q hq => by cases hq⟩
  · refine ⟨_, cap, e, hnc, .inr ⟨g, 0, rfl, fun j hj => ?_⟩, fun q hq => by injection hq with hq; rw [← hq]; exact hg⟩
    have f := fun i hi => flatR_get R j i hj hi
    have g' : ∀ i, i < 6 → w.cell? ⟨g, 0 + j * 6 + i, none⟩ = (cellsR (R.getD j R0))[i]? := fun i hi => by
      have := f i hi
      rw [← htk, List.getElem?_take_of_lt (by omega)] at this
      rw [Nat.zero_add]
      simp [World.cell?, hh]
      simpa using this
    exact ⟨g' 0 (by omega), g' 1 (by omega), g' 2 (by omega), g' 3 (by omega), g' 4 (by omega), g' 5 (by omega)⟩
theorem own_kept6 {wr w1 : World} {base : Nat} {t : Value} {n : Nat} {xs : List Value} (h : wr.ownsRow base 86 6 t n xs) (b : Below wr.heap.size wr w1) : w1.ownsRow base 86 6 t n xs := by
  obtain ⟨hl, h2⟩ := h
  refine ⟨hl, ?_⟩
  rcases h2 with e | ⟨g, cap, cur, e, hg, hh, r⟩
  · exact .inl e
  · refine .inr ⟨g, cap, cur, e, hg, ?_, r⟩
    have : g < wr.heap.size := lt_of_block hh
    rw [b.block g this]; exact hh
theorem own_set6 {v : World} {base : Nat} {u : Value} {n : Nat} {xs : List Value} (h : v.ownsRow base 86 6 u n xs) {D o : Nat} (hD : D < base) (y : Value) : (v.setCell ⟨D, o, none⟩ y).ownsRow base 86 6 u n xs := by
  obtain ⟨hl, h2⟩ := h
  refine ⟨hl, ?_⟩
  rcases h2 with e | ⟨g, cap, cur, e, hg, hh, r⟩
  · exact .inl e
  · refine .inr ⟨g, cap, cur, e, hg, ?_, r⟩
    rw [Below.heap_setCell _ _ _ _ (by show g ≠ D; omega)]; exact hh

/-- what lies there while Play goes on: the rules, what will be told, the state, the rounds so far -/
structure PlAt (w : World) (B : Nat) (p0 p1 r m j k0 n0 b0 a0 c0 q0 k1 n1 b1 a1 c1 q1 w0 w1 : Int) (t : Value) (R : List Rx) (wr : World) : Prop where
  hR : Rul wr w.heap.size p0 p1 r m j
  hT : Sta wr (w.heap.size + 1) 0 0 0 0 0 0 0 0 0 0 0 0 0 0
  hS : Sta wr B k0 n0 b0 a0 c0 q0 k1 n1 b1 a1 c1 q1 w0 w1
  own : wr.ownsRow (B + 1) 86 6 t R.length (flatR R)
  lo : w.heap.size + 1 < B
  below : Below w.heap.size w wr
theorem PlAt.kept {w wr w' : World} {B : Nat} {p0 p1 r m j k0 n0 b0 a0 c0 q0 k1 n1 b1 a1 c1 q1 w0 w1 : Int} {t : Value} {R : List Rx} (h : PlAt w B p0 p1 r m j k0 n0 b0 a0 c0 q0 k1 n1 b1 a1 c1 q1 w0 w1 t R wr) (g : Below wr.heap.size wr w') : PlAt w B p0 p1 r m j k0 n0 b0 a0 c0 q0 k1 n1 b1 a1 c1 q1 w0 w1 t R w' :=
  ⟨h.hR.kept g, h.hT.kept g, h.hS.kept g, own_kept6 h.own g, h.lo, bthen h.below g⟩
theorem PlAt.alloc {w wr : World} {B : Nat} {p0 p1 r m j k0 n0 b0 a0 c0 q0 k1 n1 b1 a1 c1 q1 w0 w1 : Int} {t : Value} {R : List Rx} (h : PlAt w B p0 p1 r m j k0 n0 b0 a0 c0 q0 k1 n1 b1 a1 c1 q1 w0 w1 t R wr) (o : Obj) : PlAt w B p0 p1 r m j k0 n0 b0 a0 c0 q0 k1 n1 b1 a1 c1 q1 w0 w1 t R (wr.alloc o) := h.kept (balloc (Below.refl _ _) o)
theorem PlAt.put {w wr : World} {B : Nat} {p0 p1 r m j k0 n0 b0 a0 c0 q0 k1 n1 b1 a1 c1 q1 w0 w1 : Int} {t : Value} {R : List Rx} (h : PlAt w B p0 p1 r m j k0 n0 b0 a0 c0 q0 k1 n1 b1 a1 c1 q1 w0 w1 t R wr) (k2 n2 b2 a2 c2 q2 k3 n3 b3 a3 c3 q3 z0 z1 : Int) : PlAt w B p0 p1 r m j k2 n2 b2 a2 c2 q2 k3 n3 b3 a3 c3 q3 z0 z1 t R ((((((((((((((wr.setCell ⟨B, 0, none⟩ (.int .i64 k2)).setCell ⟨B, 1, none⟩ (.int .i64 n2)).setCell ⟨B, 2, none⟩ (.int .i64 b2)).setCell ⟨B, 3, none⟩ (.int .i64 a2)).setCell ⟨B, 4, none⟩ (.int .i64 c2)).setCell ⟨B, 5, none⟩ (.int .i64 q2)).setCell ⟨B, 6, none⟩ (.int .i64 k3)).setCell ⟨B, 7, none⟩ (.int .i64 n3)).setCell ⟨B, 8, none⟩ (.int .i64 b3)).setCell ⟨B, 9, none⟩ (.int .i64 a3)).setCell ⟨B, 10, none⟩ (.int .i64 c3)).setCell ⟨B, 11, none⟩ (.int .i64 q3)).setCell ⟨B, 12, none⟩ (.int .i64 z0)).setCell ⟨B, 13, none⟩ (.int .i64 z1)) := by
  have l := h.lo
  exact ⟨((((((((((((((h.hR.far (by omega) _).far (by omega) _).far (by omega) _).far (by omega) _).far (by omega) _).far (by omega) _).far (by omega) _).far (by omega) _).far (by omega) _).far (by omega) _).far (by omega) _).far (by omega) _).far (by omega) _).far (by omega) _), ((((((((((((((h.hT.far (by omega) _).far (by omega) _).far (by omega) _).far (by omega) _).far (by omega) _).far (by omega) _).far (by omega) _).far (by omega) _).far (by omega) _).far (by omega) _).far (by omega) _).far (by omega) _).far (by omega) _).far (by omega) _), h.hS.put k2 n2 b2 a2 c2 q2 k3 n3 b3 a3 c3 q3 z0 z1, (own_set6 (own_set6 (own_set6 (own_set6 (own_set6 (own_set6 (own_set6 (own_set6 (own_set6 (own_set6 (own_set6 (own_set6 (own_set6 (own_set6 h.own (by omega) _) (by omega) _) (by omega) _) (by omega) _) (by omega) _) (by omega) _) (by omega) _) (by omega) _) (by omega) _) (by omega) _) (by omega) _) (by omega) _) (by omega) _) (by omega) _), l, ((((((((((((((h.below.setCell (p := ⟨B, 0, none⟩) (by show w.heap.size ≤ B; omega) _).setCell (p := ⟨B, 1, none⟩) (by show w.heap.size ≤ B; omega) _).setCell (p := ⟨B, 2, none⟩) (by show w.heap.size ≤ B; omega) _).setCell (p := ⟨B, 3, none⟩) (by show w.heap.size ≤ B; omega) _).setCell (p := ⟨B, 4, none⟩) (by show w.heap.size ≤ B; omega) _).setCell (p := ⟨B, 5, none⟩) (by show w.heap.size ≤ B; omega) _).setCell (p := ⟨B, 6, none⟩) (by show w.heap.size ≤ B; omega) _).setCell (p := ⟨B, 7, none⟩) (by show w.heap.size ≤ B; omega) _).setCell (p := ⟨B, 8, none⟩) (by show w.heap.size ≤ B; omega) _).setCell (p := ⟨B, 9, none⟩) (by show w.heap.size ≤ B; omega) _).setCell (p := ⟨B, 10, none⟩) (by show w.heap.size ≤ B; omega) _).setCell (p := ⟨B, 11, none⟩) (by show w.heap.size ≤ B; omega) _).setCell (p := ⟨B, 12, none⟩) (by show w.heap.size ≤ B; omega) _).setCell (p := ⟨B, 13, none⟩) (by show w.heap.size ≤ B; omega) _)⟩
theorem PlAt.push {w wr w2 : World} {B : Nat} {p0 p1 r m j k0 n0 b0 a0 c0 q0 k1 n1 b1 a1 c1 q1 w0 w1 : Int} {t t' : Value} {R : List Rx} {x : Rx} {o : Obj} (h : PlAt w B p0 p1 r m j k0 n0 b0 a0 c0 q0 k1 n1 b1 a1 c1 q1 w0 w1 t R wr)
    (ho : w2.ownsRow (B + 1) 86 6 t' (R.length + 1) (flatR R ++ cellsR x)) (hg : (wr.alloc o).grownBy w2 t.ownBlock) : PlAt w B p0 p1 r m j k0 n0 b0 a0 c0 q0 k1 n1 b1 a1 c1 q1 w0 w1 t' (R ++ [x]) w2 := by
  have l := h.lo
  have hs : (wr.alloc o).heap.size = wr.heap.size + 1 := by simp
  have hB : B < wr.heap.size := block_lt h.hS.c0
  have blk : ∀ b, b ≤ B → w2.heap[b]? = wr.heap[b]? := fun b hb => (hg.block b (by omega) (fun e => by have := (h.own.lt b e.symm).1; omega)).trans (Below.heap_alloc wr o b (by omega))
  refine ⟨h.hR.same (fun q => World.cell?_of_block (blk _ (by show w.heap.size ≤ B; omega))) (fun q => World.frozen?_of_block (blk _ (by show w.heap.size ≤ B; omega))), h.hT.same (fun q => World.cell?_of_block (blk _ (by show w.heap.size + 1 ≤ B; omega))) (fun q => World.frozen?_of_block (blk _ (by show w.heap.size + 1 ≤ B; omega))), h.hS.same (fun q => World.cell?_of_block (blk _ (Nat.le_refl _))) (fun q => World.frozen?_of_block (blk _ (Nat.le_refl _))), ?_, l, ?_⟩
  · rw [List.length_append, flatR_append, show flatR [x] = cellsR x by simp [flatR]]; exact ho
  · have b1 := balloc h.below o
    exact b1.grown hg b1.size fun q hq => by have := (h.own.lt q hq).1; omega
theorem cell_six_new (w : World) (x : Rx) (j : Nat) (u : Value) (h : (cellsR x)[j]? = some u) : (w.alloc (.cells #[.int .i64 x.s0, .int .i64 x.s1, .int .i64 x.c0, .int .i64 x.c1, .int .i64 x.l0, .int .i64 x.l1] 86)).cell? ((⟨w.heap.size, 0, none⟩ : Addr).add j) = some u := by
  rw [Addr.add_lit, Nat.zero_add]
  exact (World.cell?_alloc_at (w := w) #[.int .i64 x.s0, .int .i64 x.s1, .int .i64 x.c0, .int .i64 x.c1, .int .i64 x.l0, .int .i64 x.l1] 86 w.heap.size j rfl).trans (by simpa [cellsR] using h)

theorem cell_drew (w : World) (a : Addr) : w.drew.cell? a = w.cell? a := rfl
/-- what lies there when all is told -/
theorem told1 {w W : World} (P : Sta W (w.heap.size + 1) 0 0 0 0 0 0 0 0 0 0 0 0 0 0) (hB : Below w.heap.size w W) (k2 n2 b2 a2 c2 q2 k3 n3 b3 a3 c3 q3 z0 z1 : Int) :
    Sta ((((((((((((((W.setCell ⟨w.heap.size + 1, 0, none⟩ (.int .i64 k2)).setCell ⟨w.heap.size + 1, 1, none⟩ (.int .i64 n2)).setCell ⟨w.heap.size + 1, 2, none⟩ (.int .i64 b2)).setCell ⟨w.heap.size + 1, 3, none⟩ (.int .i64 a2)).setCell ⟨w.heap.size + 1, 4, none⟩ (.int .i64 c2)).setCell ⟨w.heap.size + 1, 5, none⟩ (.int .i64 q2)).setCell ⟨w.heap.size + 1, 6, none⟩ (.int .i64 k3)).setCell ⟨w.heap.size + 1, 7, none⟩ (.int .i64 n3)).setCell ⟨w.heap.size + 1, 8, none⟩ (.int .i64 b3)).setCell ⟨w.heap.size + 1, 9, none⟩ (.int .i64 a3)).setCell ⟨w.heap.size + 1, 10, none⟩ (.int .i64 c3)).setCell ⟨w.heap.size + 1, 11, none⟩ (.int .i64 q3)).setCell ⟨w.heap.size + 1, 12, none⟩ (.int .i64 z0)).setCell ⟨w.heap.size + 1, 13, none⟩ (.int .i64 z1)).drew (w.heap.size + 1) k2 n2 b2 a2 c2 q2 k3 n3 b3 a3 c3 q3 z0 z1 ∧ Below w.heap.size w ((((((((((((((W.setCell ⟨w.heap.size + 1, 0, none⟩ (.int .i64 k2)).setCell ⟨w.heap.size + 1, 1, none⟩ (.int .i64 n2)).setCell ⟨w.heap.size + 1, 2, none⟩ (.int .i64 b2)).setCell ⟨w.heap.size + 1, 3, none⟩ (.int .i64 a2)).setCell ⟨w.heap.size + 1, 4, none⟩ (.int .i64 c2)).setCell ⟨w.heap.size + 1, 5, none⟩ (.int .i64 q2)).setCell ⟨w.heap.size + 1, 6, none⟩ (.int .i64 k3)).setCell ⟨w.heap.size + 1, 7, none⟩ (.int .i64 n3)).setCell ⟨w.heap.size + 1, 8, none⟩ (.int .i64 b3)).setCell ⟨w.heap.size + 1, 9, none⟩ (.int .i64 a3)).setCell ⟨w.heap.size + 1, 10, none⟩ (.int .i64 c3)).setCell ⟨w.heap.size + 1, 11, none⟩ (.int .i64 q3)).setCell ⟨w.heap.size + 1, 12, none⟩ (.int .i64 z0)).setCell ⟨w.heap.size + 1, 13, none⟩ (.int .i64 z1)).drew ∧ ∀ b o, b ≠ w.heap.size + 1 → ((((((((((((((W.setCell ⟨w.heap.size + 1, 0, none⟩ (.int .i64 k2)).setCell ⟨w.heap.size + 1, 1, none⟩ (.int .i64 n2)).setCell ⟨w.heap.size + 1, 2, none⟩ (.int .i64 b2)).setCell ⟨w.heap.size + 1, 3, none⟩ (.int .i64 a2)).setCell ⟨w.heap.size + 1, 4, none⟩ (.int .i64 c2)).setCell ⟨w.heap.size + 1, 5, none⟩ (.int .i64 q2)).setCell ⟨w.heap.size + 1, 6, none⟩ (.int .i64 k3)).setCell ⟨w.heap.size + 1, 7, none⟩ (.int .i64 n3)).setCell ⟨w.heap.size + 1, 8, none⟩ (.int .i64 b3)).setCell ⟨w.heap.size + 1, 9, none⟩ (.int .i64 a3)).setCell ⟨w.heap.size + 1, 10, none⟩ (.int .i64 c3)).setCell ⟨w.heap.size + 1, 11, none⟩ (.int .i64 q3)).setCell ⟨w.heap.size + 1, 12, none⟩ (.int .i64 z0)).setCell ⟨w.heap.size + 1, 13, none⟩ (.int .i64 z1)).drew.cell? ⟨b, o, none⟩ = W.cell? ⟨b, o, none⟩ := by
  refine ⟨Sta.drew (P.put k2 n2 b2 a2 c2 q2 k3 n3 b3 a3 c3 q3 z0 z1), Below.drew ?_, fun b o hb => ?_⟩
  · have h1 : w.heap.size ≤ w.heap.size + 1 := by omega
    exact ((((((((((((((hB.setCell (p := ⟨w.heap.size + 1, 0, none⟩) h1 _).setCell (p := ⟨w.heap.size + 1, 1, none⟩) h1 _).setCell (p := ⟨w.heap.size + 1, 2, none⟩) h1 _).setCell (p := ⟨w.heap.size + 1, 3, none⟩) h1 _).setCell (p := ⟨w.heap.size + 1, 4, none⟩) h1 _).setCell (p := ⟨w.heap.size + 1, 5, none⟩) h1 _).setCell (p := ⟨w.heap.size + 1, 6, none⟩) h1 _).setCell (p := ⟨w.heap.size + 1, 7, none⟩) h1 _).setCell (p := ⟨w.heap.size + 1, 8, none⟩) h1 _).setCell (p := ⟨w.heap.size + 1, 9, none⟩) h1 _).setCell (p := ⟨w.heap.size + 1, 10, none⟩) h1 _).setCell (p := ⟨w.heap.size + 1, 11, none⟩) h1 _).setCell (p := ⟨w.heap.size + 1, 12, none⟩) h1 _).setCell (p := ⟨w.heap.size + 1, 13, none⟩) h1 _)
  · rw [cell_drew]
    have hb' : ∀ q, (⟨w.heap.size + 1, q, none⟩ : Addr) ≠ ⟨b, o, none⟩ := fun q e => hb (by injection e with e1 _ _; exact e1.symm)
    rw [World.cell?_setCell_other _ _ _ _ (hb' 13), World.cell?_setCell_other _ _ _ _ (hb' 12), World.cell?_setCell_other _ _ _ _ (hb' 11), World.cell?_setCell_other _ _ _ _ (hb' 10), World.cell?_setCell_other _ _ _ _ (hb' 9), World.cell?_setCell_other _ _ _ _ (hb' 8), World.cell?_setCell_other _ _ _ _ (hb' 7), World.cell?_setCell_other _ _ _ _ (hb' 6), World.cell?_setCell_other _ _ _ _ (hb' 5), World.cell?_setCell_other _ _ _ _ (hb' 4), World.cell?_setCell_other _ _ _ _ (hb' 3), World.cell?_setCell_other _ _ _ _ (hb' 2), World.cell?_setCell_other _ _ _ _ (hb' 1), World.cell?_setCell_other _ _ _ _ (hb' 0)]

end Go.Proofs.YtjageagnclmnjaaGreatDoor.D
