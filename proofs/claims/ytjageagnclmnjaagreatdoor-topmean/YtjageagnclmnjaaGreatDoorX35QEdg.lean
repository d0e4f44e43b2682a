/- PROVED: runs are walks of the graph, and walks are runs; who starves, by runs alone; more that may be late, a smaller ratio: no less starve; what is bounded. numbers that may be written; what it is to answer a row. edges and graphs in memory; graphs that are right. CONDITIONS: none beyond each theorem's own. -/
import Derived.Test.YtjageagnclmnjaaGreatDoorX34QCl
import Derived.Test.YtjageagnclmnjaaGreatDoorX28DStart
import Derived.Test.YtjageagnclmnjaaGreatDoorX00KNums
namespace Go.Proofs.YtjageagnclmnjaaGreatDoor.D
open Go.RowKit K
set_option linter.unusedVariables false

/-- edge u of the graph -/
def ed (r : Ru) (T : Nat) (who ratio : Int) (u : Nat) : Q.Eg := ⟨u / ee r, (xp r T).2.getD u 0, wgt who ratio (K.round r ((xp r T).1.getD (u / ee r) (K.start r)))⟩
/-- all edges -/
def esG (r : Ru) (T : Nat) (who ratio : Int) : List Q.Eg := (List.range T).map (ed r T who ratio)
theorem esG_len (r : Ru) (T : Nat) (who ratio : Int) : (esG r T who ratio).length = T := by simp [esG]
theorem esG_get {r : Ru} {T : Nat} {who ratio : Int} {u : Nat} (h : u < T) : (esG r T who ratio)[u]? = some (ed r T who ratio u) := by
  simp [esG, List.getElem?_map, List.getElem?_range h]
theorem esG_mem {r : Ru} {T : Nat} {who ratio : Int} {e : Q.Eg} : e ∈ esG r T who ratio ↔ ∃ u, u < T ∧ ed r T who ratio u = e := by
  simp [esG]
theorem esG_eg {r : Ru} {T : Nat} {who ratio : Int} {u : Nat} (h : u < T) : Q.eg (esG r T who ratio) u = ed r T who ratio u := by
  unfold Q.eg; rw [List.getD_eq_getElem?_getD, esG_get h]; rfl
/-- state i -/
def stt (r : Ru) (T i : Nat) : Sx := (xp r T).1.getD i (K.start r)
theorem stt_at {r : Ru} {T i : Nat} {s : Sx} (h : (xp r T).1[i]? = some s) : stt r T i = s := by
  unfold stt; rw [List.getD_eq_getElem?_getD, h]; rfl
theorem stt_get {r : Ru} {T i : Nat} (h : i < (xp r T).1.length) : (xp r T).1[i]? = some (stt r T i) := by
  rw [stt_at (List.getElem?_eq_getElem h)]; exact List.getElem?_eq_getElem h

section
variable {r : Ru} {T : Nat} (hT : Dn r T) (who ratio : Int)
include hT
/-- what edge u is: the step of state u / E by what may be late number u % E -/
theorem ed_is {u : Nat} (hu : u < T) : u / ee r < (xp r T).1.length ∧ (ed r T who ratio u).t < (xp r T).1.length ∧ stt r T (ed r T who ratio u).t = sp r (stt r T (u / ee r)) (u % ee r) ∧ (ed r T who ratio u).x = wgt who ratio (K.round r (stt r T (u / ee r))) := by
  obtain ⟨x, i, h1, h2, h3, _, _⟩ := ex_to hT.1 hu
  replace h1 : (xp r T).1[u / ee r]? = some x := h1
  replace h2 : (xp r T).2[u]? = some i := h2
  replace h3 : (xp r T).1[i]? = some (sp r x (u % ee r)) := h3
  have e : (ed r T who ratio u).t = i := by show (xp r T).2.getD u 0 = i; rw [List.getD_eq_getElem?_getD, h2]; rfl
  refine ⟨(List.getElem?_eq_some_iff.1 h1).1, by rw [e]; exact (List.getElem?_eq_some_iff.1 h3).1, by rw [e, stt_at h3, stt_at h1], rfl⟩
theorem esG_inn : Q.Inn (xp r T).1.length (esG r T who ratio) := fun e he => by
  obtain ⟨u, hu, rfl⟩ := esG_mem.1 he
  obtain ⟨a, b, _, _⟩ := ed_is hT who ratio hu
  exact ⟨a, b⟩
/-- a run from a state on is a walk -/
theorem run_path (hr : ranges r) : ∀ (l : List (Int × Int)) (i : Nat), i < (xp r T).1.length → allLate r l → ∃ (c : List Q.Eg) (j : Nat), Q.Path (esG r T who ratio) i c j ∧ j < (xp r T).1.length ∧ stt r T j = steps r (stt r T i) l ∧ c.length = l.length ∧ Q.wt c = total (wgt who ratio) (rounds r (stt r T i) l) := by
  intro l
  induction l with
  | nil => exact fun i hi _ => ⟨[], i, rfl, hi, rfl, rfl, rfl⟩
  | cons p l ih =>
    intro i hi hl
    have hlp := hl p (by simp)
    obtain ⟨n1, n2⟩ := nl_lt hr hlp
    have hu : ee r * i + nl r p < T := by
      have h1 : ee r * (i + 1) ≤ ee r * (xp r T).1.length := Nat.mul_le_mul_left _ hi
      rw [Nat.mul_add, Nat.mul_one] at h1
      have e := hT.2.1
      omega
    have hd : (ee r * i + nl r p) / ee r = i := by rw [Nat.mul_add_div (ee_pos r), Nat.div_eq_of_lt n1, Nat.add_zero]
    have hm : (ee r * i + nl r p) % ee r = nl r p := by rw [Nat.mul_add_mod, Nat.mod_eq_of_lt n1]
    obtain ⟨a, b, c, d⟩ := ed_is hT who ratio hu
    rw [hd, hm, n2] at c
    rw [hd] at d
    obtain ⟨cs, j, h1, h2, h3, h4, h5⟩ := ih (ed r T who ratio (ee r * i + nl r p)).t b (fun q hq => hl q (by simp [hq]))
    refine ⟨ed r T who ratio (ee r * i + nl r p) :: cs, j, ⟨esG_mem.2 ⟨_, hu, rfl⟩, hd, h1⟩, h2, ?_, by simp [h4], ?_⟩
    · rw [h3, c]; rfl
    · show (ed r T who ratio (ee r * i + nl r p)).x + Q.wt cs = wgt who ratio (K.round r (stt r T i)) + total (wgt who ratio) (rounds r (K.step r (stt r T i) p.1 p.2) l)
      rw [h5, c, d]
/-- the walk along edges by their numbers, as a run -/
theorem wok_run (hr : ranges r) {R : Nat → Nat} {p : Nat} (h : Q.Wok (esG r T who ratio) R p) : ∀ k, k ≤ p → ∀ (hp : 0 < p), steps r (stt r T (R 0 / ee r)) ((List.range k).map fun j => pr r (R j % ee r)) = (if k = 0 then stt r T (R 0 / ee r) else stt r T ((Q.eg (esG r T who ratio) (R (k - 1))).t)) ∧ total (wgt who ratio) (rounds r (stt r T (R 0 / ee r)) ((List.range k).map fun j => pr r (R j % ee r))) = Q.nsum (esG r T who ratio) R k := by
  intro k
  induction k with
  | zero => intro _ _; exact ⟨rfl, rfl⟩
  | succ k ih =>
    intro hk hp
    obtain ⟨g1, g2⟩ := ih (by omega) hp
    obtain ⟨w1, w2⟩ := h k (by omega)
    rw [esG_len] at w1
    obtain ⟨a, b, q, d⟩ := ed_is hT who ratio w1
    have hs : steps r (stt r T (R 0 / ee r)) ((List.range k).map fun j => pr r (R j % ee r)) = stt r T (R k / ee r) := by
      rw [g1]
      by_cases hk0 : k = 0
      · subst hk0; rfl
      · rw [if_neg hk0, ← w2 (by omega), esG_eg w1]; rfl
    rw [List.range_succ, List.map_append, List.map_singleton]
    refine ⟨?_, ?_⟩
    · rw [steps_snoc, hs, if_neg (by omega)]
      show sp r (stt r T (R k / ee r)) (R k % ee r) = _
      rw [← q, show k + 1 - 1 = k by omega, esG_eg w1]
    · rw [rounds_snoc, total_snoc, g2, hs]
      show _ = Q.nsum (esG r T who ratio) R k + (Q.eg (esG r T who ratio) (R k)).x
      rw [esG_eg w1, d]
end

/-- what rounds that follow one another bring at most -/
theorem bounded_run {r : Ru} {T : Nat} (hr : ranges r) (hT : Dn r T) {who ratio : Int} {m : Nat → Int} (hm : Q.Mst (esG r T who ratio) m) {M : Int} (hM : ∀ v, v < (xp r T).1.length → m v ≤ M) {ls : List (Int × Int)} (hl : allLate r ls) (x y : Nat) : total (wgt who ratio) (((rounds r (K.start r) ls).take y).drop x) ≤ M := by
  have key : ∀ a b, allLate r a → allLate r b → total (wgt who ratio) (rounds r (steps r (K.start r) a) b) ≤ M := fun a b ha hb => by
    obtain ⟨i1, i2⟩ := ix_mem (run_in hr hT ha)
    obtain ⟨cs, j, g1, g2, _, _, g5⟩ := run_path hT who ratio hr b _ i1 hb
    rw [stt_at i2] at g5
    have := Q.pots_walk hm.1 g1
    have := hm.2.1 (ix (xp r T).1 (steps r (K.start r) a))
    have := hM j g2
    omega
  have hz : ls = ls.take x ++ ls.drop x := (List.take_append_drop x ls).symm
  have e : ((rounds r (K.start r) ls).take y).drop x = rounds r (steps r (K.start r) ((ls.take y).take x)) ((ls.take y).drop x) := by
    have ht : ∀ (l : List (Int × Int)) (n : Nat) (s : Sx), (rounds r s l).take n = rounds r s (l.take n) := by
      intro l
      induction l with
      | nil => intro n s; cases n <;> rfl
      | cons p l ih => intro n s; cases n with
        | zero => rfl
        | succ n => exact congrArg _ (ih n _)
    have hd : ∀ (l : List (Int × Int)) (n : Nat) (s : Sx), (rounds r s l).drop n = rounds r (steps r s (l.take n)) (l.drop n) := by
      intro l
      induction l with
      | nil => intro n s; cases n <;> rfl
      | cons p l ih => intro n s; cases n with
        | zero => rfl
        | succ n => exact ih n _
    rw [ht, hd]
  rw [e]
  exact key _ _ (fun p hp => hl p (List.mem_of_mem_take (List.mem_of_mem_take hp))) (fun p hp => hl p (List.mem_of_mem_take (List.mem_of_mem_drop hp)))

end Go.Proofs.YtjageagnclmnjaaGreatDoor.D

namespace Go.Proofs.YtjageagnclmnjaaGreatDoor.Q
open Go.RowKit

/-- what a call answers: a row -/
def Ans (w : World) (R : List Int) (e : Ending) (w' : World) : Prop :=
  ∃ ao cap, e = .returned (.slice ao R.length cap) ∧ R.length ≤ cap ∧ Row w' ao R ∧ Below w.heap.size w w'

theorem owned_cap {w : World} {base : Nat} {t : Value} {R : List Int} (h : w.ownsRow base 3 1 t R.length (R.map (Value.int .i64))) : ∃ ao cap, t = .slice ao R.length cap ∧ R.length ≤ cap ∧ Row w ao R := by
  obtain ⟨ao, cap, e, hR⟩ := owned_row h
  refine ⟨ao, cap, e, ?_, hR⟩
  obtain ⟨_, ⟨e2, e3⟩ | ⟨g, cap', cur, e2, _, _, hnc, _⟩⟩ := h
  · omega
  · rw [e] at e2; injection e2 with _ _ e2; omega

theorem _root_.Go.Proofs.YtjageagnclmnjaaGreatDoor.Gath.next {w : World} {t t' : Value} {wr w1 w2 : World} {f : Nat → Int} {k : Nat} (h : Gath w t wr (outs f k)) (hb : Below wr.heap.size wr w1) {x : Int} (hx : x = f k)
    (ho : w2.ownsRow w.heap.size 3 1 t' ((outs f k).length + 1) ((outs f k).map (Value.int .i64) ++ [.int .i64 x])) {o : Obj} (hg : (w1.alloc o).grownBy w2 t.ownBlock) : Gath w t' w2 (outs f (k + 1)) := by
  rw [outs_succ, ← hx]
  exact h.step hb ho hg
theorem own_drew {wr : World} {base : Nat} {t : Value} {n : Nat} {xs : List Value} (h : wr.ownsRow base 3 1 t n xs) (q : Nat) : (wr.drewN q).ownsRow base 3 1 t n xs := own_kept h (below_drewN (Below.refl _ _) q)


/-- n numbers that may be written, in block O -/
structure Cells (w : World) (O n : Nat) (V : Nat → Int) : Prop where
  c : ∀ j, j < n → w.cell? ⟨O, j, none⟩ = some (.int .i64 (V j))
  fz : ∀ j, j < n → w.frozen? ⟨O, j, none⟩ = false
theorem Cells.start (w : World) (n : Nat) (V : Nat → Int) (hV : ∀ j, j < n → V j = 0) : Cells (w.alloc (.cells (madeCells #[.int .i64 0] n) 3)) w.heap.size n V := by
  refine ⟨fun j hj => ?_, fun j hj => ?_⟩
  · rw [World.cell?_alloc_at _ _ _ _ rfl, hV j hj]
    simp [madeCells, hj, Nat.mod_one]
  · rw [World.frozen?_alloc_at _ _ _ _ rfl]
theorem Cells.put {w : World} {O n : Nat} {V V' : Nat → Int} (h : Cells w O n V) {k : Nat} (hk : k < n) {v : Int} (hv : V' k = v) (hj : ∀ j, j < n → j ≠ k → V' j = V j) : Cells (w.setCell ⟨O, k, none⟩ (.int .i64 v)) O n V' := by
  refine ⟨fun j hjn => ?_, fun j hjn => ?_⟩
  · by_cases e : j = k
    · subst e; subst hv
      exact World.cell?_setCell_same _ _ _ (h.c j hk)
    · rw [World.cell?_setCell_other _ _ _ _ (fun q => e (by injection q with _ q _; exact q.symm)), hj j hjn e]
      exact h.c j hjn
  · rw [World.frozen?_setCell]; exact h.fz j hjn
theorem Cells.drewN {w : World} {O n : Nat} {V : Nat → Int} (h : Cells w O n V) (q : Nat) : Cells (w.drewN q) O n V := ⟨h.c, h.fz⟩
theorem Cells.ext {w : World} {O n : Nat} {V V' : Nat → Int} (h : Cells w O n V) (e : ∀ j, j < n → V' j = V j) : Cells w O n V' := ⟨fun j hj => by rw [e j hj]; exact h.c j hj, h.fz⟩
theorem Cells.row {w : World} {O n : Nat} {f : Nat → Int} (h : Cells w O n f) : Row w (some ⟨O, 0, none⟩) (outs f n) := .inr ⟨O, 0, rfl, fun j hj => by
  rw [outs_len] at hj
  rw [Nat.zero_add, outs_getD _ _ _ hj]; exact h.c j hj⟩
/-- the first k are there -/
def fill (f : Nat → Int) (k j : Nat) : Int := if j < k then f j else 0
theorem fill_new (f : Nat → Int) (k : Nat) : fill f (k + 1) k = f k := by unfold fill; rw [if_pos (by omega)]
theorem fill_old (f : Nat → Int) (k j : Nat) (h : j ≠ k) : fill f (k + 1) j = fill f k j := by
  unfold fill
  by_cases e : j < k
  · rw [if_pos e, if_pos (by omega)]
  · rw [if_neg e, if_neg (by omega)]
theorem fill_all (f : Nat → Int) (n j : Nat) (h : j < n) : fill f n j = f j := by unfold fill; rw [if_pos h]

theorem Cells.done {w wr : World} {n : Nat} {f : Nat → Int} (h : Cells wr w.heap.size n f) (hb : Below w.heap.size w wr) : Ans w (outs f n) (.returned (.slice (some ⟨w.heap.size, 0, none⟩) n n)) wr :=
  ⟨_, n, by rw [outs_len], by rw [outs_len]; exact Nat.le_refl _, h.row, hb⟩
theorem Cells.alloc {w : World} {O n : Nat} {V : Nat → Int} (h : Cells w O n V) (o : Obj) : Cells (w.alloc o) O n V := ⟨fun j hj => by
    rw [World.cell?_alloc_past _ _ _ (block_lt (h.c j hj))]; exact h.c j hj, fun j hj => by
    rw [World.frozen?_alloc_past _ _ _ (block_lt (h.c j hj))]; exact h.fz j hj⟩


theorem Cells.kept {w w' : World} {O n : Nat} {V : Nat → Int} (h : Cells w O n V) (b : Below w.heap.size w w') : Cells w' O n V := ⟨fun j hj => (b.cell (p := ⟨O, j, none⟩) (block_lt (h.c j hj))).trans (h.c j hj), fun j hj => by
  have := b.block O (show O < w.heap.size from block_lt (h.c j hj))
  have q := h.fz j hj
  simp only [World.frozen?] at q ⊢
  rw [this]; exact q⟩
theorem Cells.drew {w : World} {O n : Nat} {V : Nat → Int} (h : Cells w O n V) : Cells w.drew O n V := ⟨h.c, h.fz⟩
/-- another block is written -/
theorem Cells.far {w : World} {O n : Nat} {V : Nat → Int} (h : Cells w O n V) {p : Addr} (hp : p.block ≠ O) (x : Value) : Cells (w.setCell p x) O n V := ⟨fun j hj => by
  rw [World.cell?_setCell_other _ _ _ _ (fun q => hp (by rw [q]))]; exact h.c j hj, fun j hj => by rw [World.frozen?_setCell]; exact h.fz j hj⟩
theorem wrapEq (x : Int) : IntKind.i64.wrap x = wrap64 x := by rw [IntKind.wrap_i64]; unfold wrap64; rfl
theorem wrap_in {x : Int} (h : -9223372036854775808 ≤ x ∧ x ≤ 9223372036854775807) : IntKind.i64.wrap x = x := by rw [wrapEq]; exact IntWalk.wrap64_in _ h
theorem alloc_up {w w1 : World} {o : Obj} (h : Below (w.alloc o).heap.size (w.alloc o) w1) : Below w.heap.size w w1 := bthen (balloc (Below.refl _ _) o) h
theorem nil_ans {w w' : World} (b : Below w.heap.size w w') : Ans w [] (.returned (.slice none 0 0)) w' := ⟨none, 0, rfl, Nat.le_refl _, .inl rfl, b⟩

end Go.Proofs.YtjageagnclmnjaaGreatDoor.Q

namespace Go.Proofs.YtjageagnclmnjaaGreatDoor.Q
open Go.RowKit

/-- an edge as it came: from, to, weight -/
structure Ed where
  f : Int
  t : Int
  x : Int
def ed (L : List Ed) (j : Nat) : Ed := L.getD j ⟨0, 0, 0⟩
def upE (e : Eg) : Ed := ⟨e.f, e.t, e.x⟩
theorem ed_up {es : List Eg} {j : Nat} (h : j < es.length) : ed (es.map upE) j = upE (eg es j) := by
  unfold ed eg
  rw [List.getD_eq_getElem?_getD, List.getD_eq_getElem?_getD, List.getElem?_map, List.getElem?_eq_getElem h]
  rfl
/-- a slice of edges that holds L -/
def ERow (w : World) (ao : Option Addr) (L : List Ed) : Prop :=
  L = [] ∨ ∃ b off, ao = some ⟨b, off, none⟩ ∧ ∀ j, j < L.length → w.cell? ⟨b, off + j * 3, none⟩ = some (.int .i64 (ed L j).f) ∧ w.cell? ⟨b, off + j * 3 + 1, none⟩ = some (.int .i64 (ed L j).t) ∧ w.cell? ⟨b, off + j * 3 + 2, none⟩ = some (.int .i64 (ed L j).x)
theorem ERow.kept {w w' : World} {ao : Option Addr} {L : List Ed} (h : ERow w ao L) (b : Below w.heap.size w w') : ERow w' ao L := by
  rcases h with h | ⟨g, off, rfl, h⟩
  · exact .inl h
  · refine .inr ⟨g, off, rfl, fun j hj => ?_⟩
    obtain ⟨h1, h2, h3⟩ := h j hj
    exact ⟨(b.cell (p := ⟨g, off + j * 3, none⟩) (block_lt h1)).trans h1, (b.cell (p := ⟨g, off + j * 3 + 1, none⟩) (block_lt h2)).trans h2, (b.cell (p := ⟨g, off + j * 3 + 2, none⟩) (block_lt h3)).trans h3⟩
theorem ERow.at {w : World} {ao : Option Addr} {L : List Ed} (h : ERow w ao L) (hp : 0 < L.length) : ∃ b off, ao = some ⟨b, off, none⟩ ∧ ∀ j, j < L.length → w.cell? ⟨b, off + j * 3, none⟩ = some (.int .i64 (ed L j).f) ∧ w.cell? ⟨b, off + j * 3 + 1, none⟩ = some (.int .i64 (ed L j).t) ∧ w.cell? ⟨b, off + j * 3 + 2, none⟩ = some (.int .i64 (ed L j).x) := by
  rcases h with e | e
  · subst e; simp at hp
  · exact e
theorem ERow.alloc {w : World} {ao : Option Addr} {L : List Ed} (h : ERow w ao L) (o : Obj) : ERow (w.alloc o) ao L := h.kept (balloc (Below.refl _ _) o)
/-- edges of a right graph -/
def GRow (w : World) (ao : Option Addr) (es : List Eg) : Prop := ERow w ao (es.map upE)
theorem GRow.kept {w w' : World} {ao : Option Addr} {es : List Eg} (h : GRow w ao es) (b : Below w.heap.size w w') : GRow w' ao es := ERow.kept h b
theorem GRow.alloc {w : World} {ao : Option Addr} {es : List Eg} (h : GRow w ao es) (o : Obj) : GRow (w.alloc o) ao es := ERow.alloc h o
theorem GRow.at {w : World} {ao : Option Addr} {es : List Eg} (h : GRow w ao es) (hp : 0 < es.length) : ∃ b off, ao = some ⟨b, off, none⟩ ∧ ∀ j, j < es.length → w.cell? ⟨b, off + j * 3, none⟩ = some (.int .i64 ((eg es j).f : Int)) ∧ w.cell? ⟨b, off + j * 3 + 1, none⟩ = some (.int .i64 ((eg es j).t : Int)) ∧ w.cell? ⟨b, off + j * 3 + 2, none⟩ = some (.int .i64 (eg es j).x) := by
  obtain ⟨b, off, rfl, h1⟩ := ERow.at h (by rw [List.length_map]; exact hp)
  refine ⟨b, off, rfl, fun j hj => ?_⟩
  have := h1 j (by rw [List.length_map]; exact hj)
  rw [ed_up hj] at this
  exact this

/-- an edge is right among n nodes -/
def eok (n : Int) (e : Ed) : Prop := (0 ≤ e.f ∧ e.f < n) ∧ (0 ≤ e.t ∧ e.t < n) ∧ -1048576 ≤ e.x ∧ e.x ≤ 1048576
instance (n : Int) (e : Ed) : Decidable (eok n e) := inferInstanceAs (Decidable (_ ∧ _ ∧ _ ∧ _))
/-- a graph is right -/
def grt (n : Int) (L : List Ed) : Prop := 0 ≤ n ∧ n ≤ 300 ∧ L.length ≤ 4800 ∧ ∀ j, j < L.length → eok n (ed L j)
instance (n : Int) (L : List Ed) : Decidable (grt n L) := inferInstanceAs (Decidable (_ ∧ _ ∧ _ ∧ ∀ j, j < L.length → eok n (ed L j)))
/-- what Wrong tells -/
def gwr (n : Int) (L : List Ed) : Int := if grt n L then 0 else 2
theorem gwr_yes {n : Int} {L : List Ed} (h : grt n L) : gwr n L = 0 := if_pos h
theorem gwr_no {n : Int} {L : List Ed} (h : ¬ grt n L) : gwr n L = 2 := if_neg h

/-- a right graph: its nodes and edges -/
structure Gph (n : Nat) (es : List Eg) : Prop where
  n3 : n ≤ 300
  m4 : es.length ≤ 4800
  inn : Inn n es
  wgt : Wgt es
theorem gph_grt {n : Nat} {es : List Eg} (h : Gph n es) : grt (n : Int) (es.map upE) := by
  refine ⟨by omega, by have := h.n3; omega, by rw [List.length_map]; exact h.m4, fun j hj => ?_⟩
  rw [List.length_map] at hj
  rw [ed_up hj]
  have h1 := h.inn _ (eg_mem hj)
  have h2 := h.wgt _ (eg_mem hj)
  show (0 ≤ ((eg es j).f : Int) ∧ ((eg es j).f : Int) < n) ∧ (0 ≤ ((eg es j).t : Int) ∧ ((eg es j).t : Int) < n) ∧ -1048576 ≤ (eg es j).x ∧ (eg es j).x ≤ 1048576
  omega

/-- a graph in block O -/
structure Gb (w : World) (O : Nat) (N : Int) (a : Option Addr) (m cap : Nat) : Prop where
  g : w.cell? ⟨O, 0, none⟩ = some (.int .i64 N)
  s : w.cell? ⟨O, 1, none⟩ = some (.slice a m cap)
theorem Gb.new (w : World) (N : Int) (a : Option Addr) (m cap : Nat) : Gb (w.alloc (.cells #[.int .i64 N, .slice a m cap] 52)) w.heap.size N a m cap :=
  ⟨by rw [World.cell?_alloc_at _ _ _ _ rfl]; rfl, by rw [World.cell?_alloc_at _ _ _ _ rfl]; rfl⟩
theorem Gb.kept {w w' : World} {O : Nat} {N : Int} {a : Option Addr} {m cap : Nat} (h : Gb w O N a m cap) (b : Below w.heap.size w w') : Gb w' O N a m cap :=
  ⟨(b.cell (p := ⟨O, 0, none⟩) (block_lt h.g)).trans h.g, (b.cell (p := ⟨O, 1, none⟩) (block_lt h.s)).trans h.s⟩
theorem Gb.alloc {w : World} {O : Nat} {N : Int} {a : Option Addr} {m cap : Nat} (h : Gb w O N a m cap) (o : Obj) : Gb (w.alloc o) O N a m cap := h.kept (balloc (Below.refl _ _) o)
theorem Gb.drewN {w : World} {O : Nat} {N : Int} {a : Option Addr} {m cap : Nat} (h : Gb w O N a m cap) (q : Nat) : Gb (w.drewN q) O N a m cap := ⟨h.g, h.s⟩

end Go.Proofs.YtjageagnclmnjaaGreatDoor.Q
