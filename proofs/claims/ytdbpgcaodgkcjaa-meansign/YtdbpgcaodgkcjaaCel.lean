/- PROVED: numbers that may be written; what it is to answer a row. CONDITIONS: none beyond each theorem's own. -/
import Derived.Test.YtdbpgcaodgkcjaaMem
namespace Go.Proofs.Ytdbpgcaodgkcjaa
open Go.RowKit

/-- what a call answers: a row -/
def Ans (w : World) (R : List Int) (e : Ending) (w' : World) : Prop :=
  ∃ ao cap, e = .returned (.slice ao R.length cap) ∧ R.length ≤ cap ∧ Row w' ao R ∧ Below w.heap.size w w'

theorem owned_cap {w : World} {base : Nat} {t : Value} {R : List Int} (h : w.ownsRow base 3 1 t R.length (R.map (Value.int .i64))) : ∃ ao cap, t = .slice ao R.length cap ∧ R.length ≤ cap ∧ Row w ao R := by
  obtain ⟨ao, cap, e, hR⟩ := owned_row h
  refine ⟨ao, cap, e, ?_, hR⟩
  obtain ⟨_, ⟨e2, e3⟩ | ⟨g, cap', cur, e2, _, _, hnc, _⟩⟩ := h
  · omega
  · rw [e] at e2; injection e2 with _ _ e2; omega

theorem Gath.done {w : World} {t : Value} {wr : World} {R : List Int} (h : Gath w t wr R) : Ans w R (.returned t) wr := by
  obtain ⟨ao, cap, rfl, hc, hr⟩ := owned_cap h.own
  exact ⟨ao, cap, rfl, hc, hr, h.below⟩
theorem Gath.next {w : World} {t t' : Value} {wr w1 w2 : World} {f : Nat → Int} {k : Nat} (h : Gath w t wr (outs f k)) (hb : Below wr.heap.size wr w1) {x : Int} (hx : x = f k)
    (ho : w2.ownsRow w.heap.size 3 1 t' ((outs f k).length + 1) ((outs f k).map (Value.int .i64) ++ [.int .i64 x])) {o : Obj} (hg : (w1.alloc o).grownBy w2 t.ownBlock) : Gath w t' w2 (outs f (k + 1)) := by
  rw [outs_succ, ← hx]
  exact h.step hb ho hg
theorem own_drew {wr : World} {base : Nat} {t : Value} {n : Nat} {xs : List Value} (h : wr.ownsRow base 3 1 t n xs) (q : Nat) : (wr.drewN q).ownsRow base 3 1 t n xs := own_kept h (below_drewN (Below.refl _ _) q)


/-- n numbers that may be written, in block O -/
structure Cells (w : World) (O n : Nat) (V : Nat → Int) : Prop where
  c : ∀ j, j < n → w.cell? ⟨O, j, none⟩ = some (.int .i64 (V j))
  fz : ∀ j, j < n → w.frozen? ⟨O, j, none⟩ = false
theorem Cells.start (w : World) (n : Nat) (V : Nat → Int) (hV : ∀ j, j < n → V j = 0) : Cells (w.alloc (.cells (madeCells #[.int .i64 0] n) 3)) w.heap.size n V := by
  refine ⟨fun j hj => ?_, fun j hj => ?_⟩
  · rw [World.cell?_alloc_at _ _ _ _ rfl, hV j hj]
    simp [madeCells, hj, Nat.mod_one]
  · rw [World.frozen?_alloc_at _ _ _ _ rfl]
theorem Cells.put {w : World} {O n : Nat} {V V' : Nat → Int} (h : Cells w O n V) {k : Nat} (hk : k < n) {v : Int} (hv : V' k = v) (hj : ∀ j, j < n → j ≠ k → V' j = V j) : Cells (w.setCell ⟨O, k, none⟩ (.int .i64 v)) O n V' := by
  refine ⟨fun j hjn => ?_, fun j hjn => ?_⟩
  · by_cases e : j = k
    · subst e; subst hv
      exact World.cell?_setCell_same _ _ _ (h.c j hk)
    · rw [World.cell?_setCell_other _ _ _ _ (fun q => e (by injection q with _ q _; exact q.symm)), hj j hjn e]
      exact h.c j hjn
  · rw [World.frozen?_setCell]; exact h.fz j hjn
theorem Cells.drewN {w : World} {O n : Nat} {V : Nat → Int} (h : Cells w O n V) (q : Nat) : Cells (w.drewN q) O n V := ⟨h.c, h.fz⟩
theorem Cells.ext {w : World} {O n : Nat} {V V' : Nat → Int} (h : Cells w O n V) (e : ∀ j, j < n → V' j = V j) : Cells w O n V' := ⟨fun j hj => by rw [e j hj]; exact h.c j hj, h.fz⟩
theorem Cells.row {w : World} {O n : Nat} {f : Nat → Int} (h : Cells w O n f) : Row w (some ⟨O, 0, none⟩) (outs f n) := .inr ⟨O, 0, rfl, fun j hj => by
  rw [outs_len] at hj
  rw [Nat.zero_add, outs_getD _ _ _ hj]; exact h.c j hj⟩
/-- the first k are there -/
def fill (f : Nat → Int) (k j : Nat) : Int := if j < k then f j else 0
theorem fill_new (f : Nat → Int) (k : Nat) : fill f (k + 1) k = f k := by unfold fill; rw [if_pos (by omega)]
theorem fill_old (f : Nat → Int) (k j : Nat) (h : j ≠ k) : fill f (k + 1) j = fill f k j := by
  unfold fill
  by_cases e : j < k
  · rw [if_pos e, if_pos (by omega)]
  · rw [if_neg e, if_neg (by omega)]
theorem fill_all (f : Nat → Int) (n j : Nat) (h : j < n) : fill f n j = f j := by unfold fill; rw [if_pos h]

theorem Cells.done {w wr : World} {n : Nat} {f : Nat → Int} (h : Cells wr w.heap.size n f) (hb : Below w.heap.size w wr) : Ans w (outs f n) (.returned (.slice (some ⟨w.heap.size, 0, none⟩) n n)) wr :=
  ⟨_, n, by rw [outs_len], by rw [outs_len]; exact Nat.le_refl _, h.row, hb⟩
theorem cells_kept {w wr : World} {b o n : Nat} {F : Nat → Int} (h : ∀ j, j < n → w.cell? ⟨b, o + j, none⟩ = some (.int .i64 (F j))) (hb : Below w.heap.size w wr) (j : Nat) (hj : j < n) : wr.cell? ⟨b, o + j, none⟩ = some (.int .i64 (F j)) :=
  (hb.cell (p := ⟨b, o + j, none⟩) (block_lt (h j hj))).trans (h j hj)
theorem Cells.alloc {w : World} {O n : Nat} {V : Nat → Int} (h : Cells w O n V) (o : Obj) : Cells (w.alloc o) O n V := ⟨fun j hj => by
    rw [World.cell?_alloc_past _ _ _ (block_lt (h.c j hj))]; exact h.c j hj, fun j hj => by
    rw [World.frozen?_alloc_past _ _ _ (block_lt (h.c j hj))]; exact h.fz j hj⟩


theorem Cells.kept {w w' : World} {O n : Nat} {V : Nat → Int} (h : Cells w O n V) (b : Below w.heap.size w w') : Cells w' O n V := ⟨fun j hj => (b.cell (p := ⟨O, j, none⟩) (block_lt (h.c j hj))).trans (h.c j hj), fun j hj => by
  have := b.block O (show O < w.heap.size from block_lt (h.c j hj))
  have q := h.fz j hj
  simp only [World.frozen?] at q ⊢
  rw [this]; exact q⟩
theorem Cells.drew {w : World} {O n : Nat} {V : Nat → Int} (h : Cells w O n V) : Cells w.drew O n V := ⟨h.c, h.fz⟩
/-- another block is written -/
theorem Cells.far {w : World} {O n : Nat} {V : Nat → Int} (h : Cells w O n V) {p : Addr} (hp : p.block ≠ O) (x : Value) : Cells (w.setCell p x) O n V := ⟨fun j hj => by
  rw [World.cell?_setCell_other _ _ _ _ (fun q => hp (by rw [q]))]; exact h.c j hj, fun j hj => by rw [World.frozen?_setCell]; exact h.fz j hj⟩
theorem wrapEq (x : Int) : IntKind.i64.wrap x = wrap64 x := by rw [IntKind.wrap_i64]; unfold wrap64; rfl
theorem wrap_in {x : Int} (h : -9223372036854775808 ≤ x ∧ x ≤ 9223372036854775807) : IntKind.i64.wrap x = x := by rw [wrapEq]; exact IntWalk.wrap64_in _ h
theorem alloc_up {w w1 : World} {o : Obj} (h : Below (w.alloc o).heap.size (w.alloc o) w1) : Below w.heap.size w w1 := bthen (balloc (Below.refl _ _) o) h
theorem nil_ans {w w' : World} (b : Below w.heap.size w w') : Ans w [] (.returned (.slice none 0 0)) w' := ⟨none, 0, rfl, Nat.le_refl _, .inl rfl, b⟩

end Go.Proofs.Ytdbpgcaodgkcjaa
