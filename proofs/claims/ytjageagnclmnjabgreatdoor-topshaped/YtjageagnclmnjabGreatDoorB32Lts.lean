/- PROVED: runs are walks of the graph, and walks are runs; who starves, by runs alone; more that may be late, a smaller ratio: no less starve; what is bounded. numbers that may be written; what it is to answer a row. edges and graphs in memory; graphs that are right. on plain lists: the cases of what Judge has to tell, and the greatest of potentials. what verdict.latesOf and slices.Max answer. CONDITIONS: none beyond each theorem's own. -/
import Derived.Test.YtjageagnclmnjabGreatDoorB31QCl
import Derived.Test.YtjageagnclmnjabGreatDoorB26DStart
import Derived.Test.YtjageagnclmnjabGreatDoorB00Pw
import Derived.Test.YtjageagnclmnjabGreatDoorB29Lea
import Derived.RangeFuncBox
namespace Go.Proofs.YtjageagnclmnjabGreatDoor.D
open Go.RowKit K
set_option linter.unusedVariables false

/-- edge u of the graph -/
def ed (r : Ru) (T : Nat) (who ratio : Int) (u : Nat) : Q.Eg := ⟨u / ee r, (xp r T).2.getD u 0, wgt who ratio (K.round r ((xp r T).1.getD (u / ee r) (K.start r)))⟩
/-- all edges -/
def esG (r : Ru) (T : Nat) (who ratio : Int) : List Q.Eg := (List.range T).map (ed r T who ratio)
theorem esG_len (r : Ru) (T : Nat) (who ratio : Int) : (esG r T who ratio).length = T := by simp [esG]
theorem esG_get {r : Ru} {T : Nat} {who ratio : Int} {u : Nat} (h : u < T) : (esG r T who ratio)[u]? = some (ed r T who ratio u) := by
  simp [esG, List.getElem?_map, List.getElem?_range h]
theorem esG_mem {r : Ru} {T : Nat} {who ratio : Int} {e : Q.Eg} : e ∈ esG r T who ratio ↔ ∃ u, u < T ∧ ed r T who ratio u = e := by
  simp [esG]
theorem esG_eg {r : Ru} {T : Nat} {who ratio : Int} {u : Nat} (h : u < T) : Q.eg (esG r T who ratio) u = ed r T who ratio u := by
  unfold Q.eg; rw [List.getD_eq_getElem?_getD, esG_get h]; rfl
/-- state i -/
def stt (r : Ru) (T i : Nat) : Sx := (xp r T).1.getD i (K.start r)
theorem stt_at {r : Ru} {T i : Nat} {s : Sx} (h : (xp r T).1[i]? = some s) : stt r T i = s := by
  unfold stt; rw [List.getD_eq_getElem?_getD, h]; rfl
theorem stt_get {r : Ru} {T i : Nat} (h : i < (xp r T).1.length) : (xp r T).1[i]? = some (stt r T i) := by
  rw [stt_at (List.getElem?_eq_getElem h)]; exact List.getElem?_eq_getElem h

section
variable {r : Ru} {T : Nat} (hT : Dn r T) (who ratio : Int)
include hT
/-- what edge u is: the step of state u / E by what may be late number u % E -/
theorem ed_is {u : Nat} (hu : u < T) : u / ee r < (xp r T).1.length ∧ (ed r T who ratio u).t < (xp r T).1.length ∧ stt r T (ed r T who ratio u).t = sp r (stt r T (u / ee r)) (u % ee r) ∧ (ed r T who ratio u).x = wgt who ratio (K.round r (stt r T (u / ee r))) := by
  obtain ⟨x, i, h1, h2, h3, _, _⟩ := ex_to hT.1 hu
  replace h1 : (xp r T).1[u / ee r]? = some x := h1
  replace h2 : (xp r T).2[u]? = some i := h2
  replace h3 : (xp r T).1[i]? = some (sp r x (u % ee r)) := h3
  have e : (ed r T who ratio u).t = i := by show (xp r T).2.getD u 0 = i; rw [List.getD_eq_getElem?_getD, h2]; rfl
  refine ⟨(List.getElem?_eq_some_iff.1 h1).1, by rw [e]; exact (List.getElem?_eq_some_iff.1 h3).1, by rw [e, stt_at h3, stt_at h1], rfl⟩
theorem esG_inn : Q.Inn (xp r T).1.length (esG r T who ratio) := fun e he => by
  obtain ⟨u, hu, rfl⟩ := esG_mem.1 he
  obtain ⟨a, b, _, _⟩ := ed_is hT who ratio hu
  exact ⟨a, b⟩
/-- the walk along edges by their numbers, as a run -/
theorem wok_run (hr : ranges r) {R : Nat → Nat} {p : Nat} (h : Q.Wok (esG r T who ratio) R p) : ∀ k, k ≤ p → ∀ (hp : 0 < p), steps r (stt r T (R 0 / ee r)) ((List.range k).map fun j => pr r (R j % ee r)) = (if k = 0 then stt r T (R 0 / ee r) else stt r T ((Q.eg (esG r T who ratio) (R (k - 1))).t)) ∧ total (wgt who ratio) (rounds r (stt r T (R 0 / ee r)) ((List.range k).map fun j => pr r (R j % ee r))) = Q.nsum (esG r T who ratio) R k := by
  intro k
  induction k with
  | zero => intro _ _; exact ⟨rfl, rfl⟩
  | succ k ih =>
    intro hk hp
    obtain ⟨g1, g2⟩ := ih (by omega) hp
    obtain ⟨w1, w2⟩ := h k (by omega)
    rw [esG_len] at w1
    obtain ⟨a, b, q, d⟩ := ed_is hT who ratio w1
    have hs : steps r (stt r T (R 0 / ee r)) ((List.range k).map fun j => pr r (R j % ee r)) = stt r T (R k / ee r) := by
      rw [g1]
      by_cases hk0 : k = 0
      · subst hk0; rfl
      · rw [if_neg hk0, ← w2 (by omega), esG_eg w1]; rfl
    rw [List.range_succ, List.map_append, List.map_singleton]
    refine ⟨?_, ?_⟩
    · rw [steps_snoc, hs, if_neg (by omega)]
      show sp r (stt r T (R k / ee r)) (R k % ee r) = _
      rw [← q, show k + 1 - 1 = k by omega, esG_eg w1]
    · rw [rounds_snoc, total_snoc, g2, hs]
      show _ = Q.nsum (esG r T who ratio) R k + (Q.eg (esG r T who ratio) (R k)).x
      rw [esG_eg w1, d]
end

end Go.Proofs.YtjageagnclmnjabGreatDoor.D

namespace Go.Proofs.YtjageagnclmnjabGreatDoor.Q
open Go.RowKit

/-- what a call answers: a row -/
def Ans (w : World) (R : List Int) (e : Ending) (w' : World) : Prop :=
  ∃ ao cap, e = .returned (.slice ao R.length cap) ∧ R.length ≤ cap ∧ Row w' ao R ∧ Below w.heap.size w w'

theorem owned_cap {w : World} {base : Nat} {t : Value} {R : List Int} (h : w.ownsRow base 3 1 t R.length (R.map (Value.int .i64))) : ∃ ao cap, t = .slice ao R.length cap ∧ R.length ≤ cap ∧ Row w ao R := by
  obtain ⟨ao, cap, e, hR⟩ := owned_row h
  refine ⟨ao, cap, e, ?_, hR⟩
  obtain ⟨_, ⟨e2, e3⟩ | ⟨g, cap', cur, e2, _, _, hnc, _⟩⟩ := h
  · omega
  · rw [e] at e2; injection e2 with _ _ e2; omega

theorem _root_.Go.Proofs.YtjageagnclmnjabGreatDoor.Gath.next {w : World} {t t' : Value} {wr w1 w2 : World} {f : Nat → Int} {k : Nat} (h : Gath w t wr (outs f k)) (hb : Below wr.heap.size wr w1) {x : Int} (hx : x = f k)
    (ho : w2.ownsRow w.heap.size 3 1 t' ((outs f k).length + 1) ((outs f k).map (Value.int .i64) ++ [.int .i64 x])) {o : Obj} (hg : (w1.alloc o).grownBy w2 t.ownBlock) : Gath w t' w2 (outs f (k + 1)) := by
  rw [outs_succ, ← hx]
  exact h.step hb ho hg
theorem own_drew {wr : World} {base : Nat} {t : Value} {n : Nat} {xs : List Value} (h : wr.ownsRow base 3 1 t n xs) (q : Nat) : (wr.drewN q).ownsRow base 3 1 t n xs := own_kept h (below_drewN (Below.refl _ _) q)


/-- n numbers that may be written, in block O -/
structure Cells (w : World) (O n : Nat) (V : Nat → Int) : Prop where
  c : ∀ j, j < n → w.cell? ⟨O, j, none⟩ = some (.int .i64 (V j))
  fz : ∀ j, j < n → w.frozen? ⟨O, j, none⟩ = false
theorem Cells.start (w : World) (n : Nat) (V : Nat → Int) (hV : ∀ j, j < n → V j = 0) : Cells (w.alloc (.cells (madeCells #[.int .i64 0] n) 3)) w.heap.size n V := by
  refine ⟨fun j hj => ?_, fun j hj => ?_⟩
  · rw [World.cell?_alloc_at _ _ _ _ rfl, hV j hj]
    simp [madeCells, hj, Nat.mod_one]
  · rw [World.frozen?_alloc_at _ _ _ _ rfl]
theorem Cells.put {w : World} {O n : Nat} {V V' : Nat → Int} (h : Cells w O n V) {k : Nat} (hk : k < n) {v : Int} (hv : V' k = v) (hj : ∀ j, j < n → j ≠ k → V' j = V j) : Cells (w.setCell ⟨O, k, none⟩ (.int .i64 v)) O n V' := by
  refine ⟨fun j hjn => ?_, fun j hjn => ?_⟩
  · by_cases e : j = k
    · subst e; subst hv
      exact World.cell?_setCell_same _ _ _ (h.c j hk)
    · rw [World.cell?_setCell_other _ _ _ _ (fun q => e (by injection q with _ q _; exact q.symm)), hj j hjn e]
      exact h.c j hjn
  · rw [World.frozen?_setCell]; exact h.fz j hjn
theorem Cells.ext {w : World} {O n : Nat} {V V' : Nat → Int} (h : Cells w O n V) (e : ∀ j, j < n → V' j = V j) : Cells w O n V' := ⟨fun j hj => by rw [e j hj]; exact h.c j hj, h.fz⟩
theorem Cells.alloc {w : World} {O n : Nat} {V : Nat → Int} (h : Cells w O n V) (o : Obj) : Cells (w.alloc o) O n V := ⟨fun j hj => by
    rw [World.cell?_alloc_past _ _ _ (block_lt (h.c j hj))]; exact h.c j hj, fun j hj => by
    rw [World.frozen?_alloc_past _ _ _ (block_lt (h.c j hj))]; exact h.fz j hj⟩


theorem Cells.kept {w w' : World} {O n : Nat} {V : Nat → Int} (h : Cells w O n V) (b : Below w.heap.size w w') : Cells w' O n V := ⟨fun j hj => (b.cell (p := ⟨O, j, none⟩) (block_lt (h.c j hj))).trans (h.c j hj), fun j hj => by
  have := b.block O (show O < w.heap.size from block_lt (h.c j hj))
  have q := h.fz j hj
  simp only [World.frozen?] at q ⊢
  rw [this]; exact q⟩
theorem Cells.drew {w : World} {O n : Nat} {V : Nat → Int} (h : Cells w O n V) : Cells w.drew O n V := ⟨h.c, h.fz⟩
/-- another block is written -/
theorem Cells.far {w : World} {O n : Nat} {V : Nat → Int} (h : Cells w O n V) {p : Addr} (hp : p.block ≠ O) (x : Value) : Cells (w.setCell p x) O n V := ⟨fun j hj => by
  rw [World.cell?_setCell_other _ _ _ _ (fun q => hp (by rw [q]))]; exact h.c j hj, fun j hj => by rw [World.frozen?_setCell]; exact h.fz j hj⟩
theorem wrapEq (x : Int) : IntKind.i64.wrap x = wrap64 x := by rw [IntKind.wrap_i64]; unfold wrap64; rfl
theorem wrap_in {x : Int} (h : -9223372036854775808 ≤ x ∧ x ≤ 9223372036854775807) : IntKind.i64.wrap x = x := by rw [wrapEq]; exact IntWalk.wrap64_in _ h
end Go.Proofs.YtjageagnclmnjabGreatDoor.Q

namespace Go.Proofs.YtjageagnclmnjabGreatDoor.Q
open Go.RowKit

/-- an edge as it came: from, to, weight -/
structure Ed where
  f : Int
  t : Int
  x : Int
def ed (L : List Ed) (j : Nat) : Ed := L.getD j ⟨0, 0, 0⟩
def upE (e : Eg) : Ed := ⟨e.f, e.t, e.x⟩
theorem ed_up {es : List Eg} {j : Nat} (h : j < es.length) : ed (es.map upE) j = upE (eg es j) := by
  unfold ed eg
  rw [List.getD_eq_getElem?_getD, List.getD_eq_getElem?_getD, List.getElem?_map, List.getElem?_eq_getElem h]
  rfl
/-- a slice of edges that holds L -/
def ERow (w : World) (ao : Option Addr) (L : List Ed) : Prop :=
  L = [] ∨ ∃ b off, ao = some ⟨b, off, none⟩ ∧ ∀ j, j < L.length → w.cell? ⟨b, off + j * 3, none⟩ = some (.int .i64 (ed L j).f) ∧ w.cell? ⟨b, off + j * 3 + 1, none⟩ = some (.int .i64 (ed L j).t) ∧ w.cell? ⟨b, off + j * 3 + 2, none⟩ = some (.int .i64 (ed L j).x)
theorem ERow.kept {w w' : World} {ao : Option Addr} {L : List Ed} (h : ERow w ao L) (b : Below w.heap.size w w') : ERow w' ao L := by
  rcases h with h | ⟨g, off, rfl, h⟩
  · exact .inl h
  · refine .inr ⟨g, off, rfl, fun j hj => ?_⟩
    obtain ⟨h1, h2, h3⟩ := h j hj
    exact ⟨(b.cell (p := ⟨g, off + j * 3, none⟩) (block_lt h1)).trans h1, (b.cell (p := ⟨g, off + j * 3 + 1, none⟩) (block_lt h2)).trans h2, (b.cell (p := ⟨g, off + j * 3 + 2, none⟩) (block_lt h3)).trans h3⟩
theorem ERow.at {w : World} {ao : Option Addr} {L : List Ed} (h : ERow w ao L) (hp : 0 < L.length) : ∃ b off, ao = some ⟨b, off, none⟩ ∧ ∀ j, j < L.length → w.cell? ⟨b, off + j * 3, none⟩ = some (.int .i64 (ed L j).f) ∧ w.cell? ⟨b, off + j * 3 + 1, none⟩ = some (.int .i64 (ed L j).t) ∧ w.cell? ⟨b, off + j * 3 + 2, none⟩ = some (.int .i64 (ed L j).x) := by
  rcases h with e | e
  · subst e; simp at hp
  · exact e
theorem ERow.alloc {w : World} {ao : Option Addr} {L : List Ed} (h : ERow w ao L) (o : Obj) : ERow (w.alloc o) ao L := h.kept (balloc (Below.refl _ _) o)
/-- edges of a right graph -/
def GRow (w : World) (ao : Option Addr) (es : List Eg) : Prop := ERow w ao (es.map upE)
theorem GRow.kept {w w' : World} {ao : Option Addr} {es : List Eg} (h : GRow w ao es) (b : Below w.heap.size w w') : GRow w' ao es := ERow.kept h b
theorem GRow.alloc {w : World} {ao : Option Addr} {es : List Eg} (h : GRow w ao es) (o : Obj) : GRow (w.alloc o) ao es := ERow.alloc h o
theorem GRow.at {w : World} {ao : Option Addr} {es : List Eg} (h : GRow w ao es) (hp : 0 < es.length) : ∃ b off, ao = some ⟨b, off, none⟩ ∧ ∀ j, j < es.length → w.cell? ⟨b, off + j * 3, none⟩ = some (.int .i64 ((eg es j).f : Int)) ∧ w.cell? ⟨b, off + j * 3 + 1, none⟩ = some (.int .i64 ((eg es j).t : Int)) ∧ w.cell? ⟨b, off + j * 3 + 2, none⟩ = some (.int .i64 (eg es j).x) := by
  obtain ⟨b, off, rfl, h1⟩ := ERow.at h (by rw [List.length_map]; exact hp)
  refine ⟨b, off, rfl, fun j hj => ?_⟩
  have := h1 j (by rw [List.length_map]; exact hj)
  rw [ed_up hj] at this
  exact this

/-- an edge is right among n nodes -/
def eok (n : Int) (e : Ed) : Prop := (0 ≤ e.f ∧ e.f < n) ∧ (0 ≤ e.t ∧ e.t < n) ∧ -1048576 ≤ e.x ∧ e.x ≤ 1048576
instance (n : Int) (e : Ed) : Decidable (eok n e) := inferInstanceAs (Decidable (_ ∧ _ ∧ _ ∧ _))
/-- a graph is right -/
def grt (n : Int) (L : List Ed) : Prop := 0 ≤ n ∧ n ≤ 300 ∧ L.length ≤ 4800 ∧ ∀ j, j < L.length → eok n (ed L j)
instance (n : Int) (L : List Ed) : Decidable (grt n L) := inferInstanceAs (Decidable (_ ∧ _ ∧ _ ∧ ∀ j, j < L.length → eok n (ed L j)))
/-- what Wrong tells -/
def gwr (n : Int) (L : List Ed) : Int := if grt n L then 0 else 2
theorem gwr_yes {n : Int} {L : List Ed} (h : grt n L) : gwr n L = 0 := if_pos h
theorem gwr_no {n : Int} {L : List Ed} (h : ¬ grt n L) : gwr n L = 2 := if_neg h

/-- a right graph: its nodes and edges -/
structure Gph (n : Nat) (es : List Eg) : Prop where
  n3 : n ≤ 300
  m4 : es.length ≤ 4800
  inn : Inn n es
  wgt : Wgt es
theorem gph_grt {n : Nat} {es : List Eg} (h : Gph n es) : grt (n : Int) (es.map upE) := by
  refine ⟨by omega, by have := h.n3; omega, by rw [List.length_map]; exact h.m4, fun j hj => ?_⟩
  rw [List.length_map] at hj
  rw [ed_up hj]
  have h1 := h.inn _ (eg_mem hj)
  have h2 := h.wgt _ (eg_mem hj)
  show (0 ≤ ((eg es j).f : Int) ∧ ((eg es j).f : Int) < n) ∧ (0 ≤ ((eg es j).t : Int) ∧ ((eg es j).t : Int) < n) ∧ -1048576 ≤ (eg es j).x ∧ (eg es j).x ≤ 1048576
  omega

/-- a graph in block O -/
structure Gb (w : World) (O : Nat) (N : Int) (a : Option Addr) (m cap : Nat) : Prop where
  g : w.cell? ⟨O, 0, none⟩ = some (.int .i64 N)
  s : w.cell? ⟨O, 1, none⟩ = some (.slice a m cap)
theorem Gb.new (w : World) (N : Int) (a : Option Addr) (m cap : Nat) : Gb (w.alloc (.cells #[.int .i64 N, .slice a m cap] 91)) w.heap.size N a m cap :=
  ⟨by rw [World.cell?_alloc_at _ _ _ _ rfl]; rfl, by rw [World.cell?_alloc_at _ _ _ _ rfl]; rfl⟩
theorem Gb.kept {w w' : World} {O : Nat} {N : Int} {a : Option Addr} {m cap : Nat} (h : Gb w O N a m cap) (b : Below w.heap.size w w') : Gb w' O N a m cap :=
  ⟨(b.cell (p := ⟨O, 0, none⟩) (block_lt h.g)).trans h.g, (b.cell (p := ⟨O, 1, none⟩) (block_lt h.s)).trans h.s⟩
theorem Gb.alloc {w : World} {O : Nat} {N : Int} {a : Option Addr} {m cap : Nat} (h : Gb w O N a m cap) (o : Obj) : Gb (w.alloc o) O N a m cap := h.kept (balloc (Below.refl _ _) o)
theorem Gb.drewN {w : World} {O : Nat} {N : Int} {a : Option Addr} {m cap : Nat} (h : Gb w O N a m cap) (q : Nat) : Gb (w.drewN q) O N a m cap := ⟨h.g, h.s⟩

end Go.Proofs.YtjageagnclmnjabGreatDoor.Q

namespace Go.Proofs.YtjageagnclmnjabGreatDoor.D
open Go.RowKit K
set_option linter.unusedVariables false

/-- the greatest of the first n, and of 0 -/
def mx (d : Nat → Int) : Nat → Int
  | 0 => 0
  | k + 1 => max (mx d k) (d k)
theorem mx_one {d : Nat → Int} (h : 0 ≤ d 0) : mx d 1 = d 0 := by show max (0 : Int) (d 0) = d 0; omega

/-- who and ratio lie where they may -/
def Rg (who ratio : Int) : Prop := (0 ≤ who ∧ who ≤ 1) ∧ 1 ≤ ratio ∧ ratio ≤ 100
/-- an error is told -/
def Je (r : Ru) (who ratio E : Int) : Prop := ¬ Rg who ratio ∧ E = 2 ∨ Rg who ratio ∧ (wrong r = E ∧ (E != 0) = true ∨ wrong r = 0 ∧ Fl r ∧ E = 4)
theorem Je.ne {r : Ru} {who ratio E : Int} (h : Je r who ratio E) : (E != 0) = true := by
  rcases h with ⟨_, rfl⟩ | ⟨_, ⟨_, h⟩ | ⟨_, _, rfl⟩⟩
  · decide
  · exact h
  · decide
/-- bounded -/
structure Jb (r : Ru) (who ratio : Int) (T : Nat) (d : Nat → Int) : Prop where
  rg : Rg who ratio
  ok : wrong r = 0
  dn : Dn r T
  mst : Q.Mst (esG r T who ratio) d
/-- starves -/
structure Js (r : Ru) (who ratio : Int) (T : Nat) : Prop where
  rg : Rg who ratio
  ok : wrong r = 0
  dn : Dn r T
  pos : ¬ Q.noPos (esG r T who ratio)
theorem round_c {r : Ru} {s : Sx} (h : pright r s) : (0 ≤ (K.round r s).c0 ∧ (K.round r s).c0 ≤ 12) ∧ (0 ≤ (K.round r s).c1 ∧ (K.round r s).c1 ≤ 12) := by
  have hj := h.1.2.2.2
  have hr := h.1.2.1
  have hl : allLate r [(0, 0)] := fun p hp => by
    obtain rfl : p = (0, 0) := by simpa using hp
    exact ⟨⟨Int.le_refl _, hj.1⟩, Int.le_refl _, hj.1⟩
  obtain ⟨_, _, ⟨a, _⟩, ⟨b, _⟩, _⟩ := rounds_in h hl (K.round r s) (by simp [rounds])
  have := rounds_come h hl (K.round r s) (by simp [rounds])
  omega
theorem mul_in {a c : Int} (ha : 1 ≤ a ∧ a ≤ 100) (hc : 0 ≤ c ∧ c ≤ 12) : 0 ≤ a * c ∧ a * c ≤ 1200 :=
  ⟨Int.mul_nonneg (by omega) hc.1, Int.le_trans (Int.mul_le_mul_of_nonneg_right ha.2 hc.1) (by omega)⟩
theorem wgt_in {r : Ru} {s : Sx} {who ratio : Int} (h : pright r s) (hr : 1 ≤ ratio ∧ ratio ≤ 100) : -1200 ≤ wgt who ratio (K.round r s) ∧ wgt who ratio (K.round r s) ≤ 12 := by
  obtain ⟨c0, c1⟩ := round_c h
  have m0 := mul_in hr c0
  have m1 := mul_in hr c1
  unfold wgt
  split <;> omega
theorem gph {r : Ru} {T : Nat} {who ratio : Int} (ok : wrong r = 0) (hT : Dn r T) (hr : 1 ≤ ratio ∧ ratio ≤ 100) : Q.Gph (xp r T).1.length (esG r T who ratio) := by
  have hk := wrong_ok.1 ok
  refine ⟨hT.2.2, ?_, esG_inn hT who ratio, fun e he => ?_⟩
  · rw [esG_len, hT.2.1]
    exact Nat.le_trans (Nat.mul_le_mul (jj_cast hk.2).2.2 hT.2.2) (by decide)
  · obtain ⟨u, hu, rfl⟩ := esG_mem.1 he
    obtain ⟨a, b, c, d⟩ := ed_is hT who ratio hu
    rw [d]
    have := wgt_in (who := who) (xp_right hk T (stt r T (u / ee r)) (List.mem_of_getElem? (stt_get a))) hr
    omega
theorem mst_some {n : Nat} {es : List Q.Eg} (hn : Q.Inn n es) (h : Q.noPos es) : ∃ d, Q.Mst es d := by
  obtain ⟨k, _, hk⟩ := (Q.still_iff hn).2 h
  exact ⟨Q.mo es k, Q.still_pots hk, fun v => Q.mo_nonneg es k v, fun v => by obtain ⟨u, l, g1, _, g3⟩ := Q.mo_got es k v; exact ⟨u, l, g1, g3⟩⟩
/-- a lead and a round that starve the other -/
structure Sv (r : Ru) (who ratio : Int) (A C : List (Int × Int)) : Prop where
  a : allLate r A
  c : allLate r C
  pos : 0 < C.length
  la : A.length ≤ 300
  lc : C.length ≤ 300
  back : steps r (steps r (K.start r) A) C = steps r (K.start r) A
  more : 0 < total (wgt who ratio) (rounds r (steps r (K.start r) A) C)
/-- what is late at edges of a way round -/
def lat (r : Ru) (R : Nat → Nat) (p : Nat) : List (Int × Int) := (List.range p).map fun j => pr r (R j % ee r)
theorem lat_len (r : Ru) (R : Nat → Nat) (p : Nat) : (lat r R p).length = p := by simp [lat]
theorem lat_succ (r : Ru) (R : Nat → Nat) (p : Nat) : lat r R (p + 1) = lat r R p ++ [pr r (R p % ee r)] := by simp [lat, List.range_succ]
theorem pr_mod (r : Ru) (n : Nat) : pr r (n % ee r) = (((n / jj r % jj r : Nat) : Int), ((n % jj r : Nat) : Int)) := by
  unfold pr ee
  rw [Nat.mod_mul_right_div_self, Nat.mod_mul_right_mod]
theorem sv_of {r : Ru} {who ratio : Int} {T : Nat} (h : Js r who ratio T) {R : Nat → Nat} {p : Nat} (p1 : 1 ≤ p) (pn : p ≤ (xp r T).1.length) (wok : Q.Wok (esG r T who ratio) R p) (ends : (Q.eg (esG r T who ratio) (R 0)).f = (Q.eg (esG r T who ratio) (R (p - 1))).t) (pos : 0 < Q.nsum (esG r T who ratio) R p)
    {l : List Nat} (hL : Ld (sp r) (ee r) (K.start r) (R 0 / ee r) l) : Sv r who ratio (l.map (pr r)) (lat r R p) ∧ R 0 / ee r < (xp r T).1.length := by
  have hk := wrong_ok.1 h.ok
  have h0 := (wok 0 p1).1
  rw [esG_len] at h0
  have hi : R 0 / ee r < (xp r T).1.length := (ed_is h.dn who ratio h0).1
  obtain ⟨l1, l2⟩ := ld_small hL
  have hrun := ld_run h.dn.1 (R 0 / ee r) l hL hi
  have e0 : steps r (K.start r) (l.map (pr r)) = stt r T (R 0 / ee r) := by rw [steps_pr, stt_at hrun]
  obtain ⟨g1, g2⟩ := wok_run h.dn who ratio hk.2 wok p (Nat.le_refl _) p1
  have e1 : (Q.eg (esG r T who ratio) (R (p - 1))).t = R 0 / ee r := by rw [← ends, esG_eg h0]; rfl
  rw [if_neg (by omega), e1] at g1
  have n3 := h.dn.2.2
  refine ⟨⟨fun q hq => ?_, fun q hq => ?_, by rw [lat_len]; omega, by rw [List.length_map]; omega, by rw [lat_len]; omega, ?_, ?_⟩, hi⟩
  · obtain ⟨n, hn, rfl⟩ := List.mem_map.1 hq
    exact sp_lates hk.2 (l2 n hn)
  · obtain ⟨j, _, rfl⟩ := List.mem_map.1 hq
    exact sp_lates hk.2 (Nat.mod_lt _ (ee_pos r))
  · rw [e0]; exact g1
  · rw [e0]; exact g2 ▸ pos

end Go.Proofs.YtjageagnclmnjabGreatDoor.D

namespace Go.Proofs.YtjageagnclmnjabGreatDoor.D
set_option maxRecDepth 100000
open Go.RowKit K
set_option linter.unusedVariables false
attribute [local go_sem ↓] appS_whole

theorem max_any (g c n : Nat) (d : Nat → Int) (h0 : 0 < n) (hn : n ≤ 300) (hd : ∀ v, 0 ≤ d v) (w : World) (hC : Q.Cells w g n d) :
    Calls Tryz.prog 19 #[.slice (some ⟨g, 0, none⟩) n c] w fun e w' => e = .returned (.int .i64 (mx d n)) ∧ w' = w := by
  have h1 : decide ((n : Int) < 1) = false := decide_eq_false (by omega)
  have c0 := hC.c 0 h0
  have m1 : Hid (mx d 1 = d 0) := mx_one (hd 0)
  have h0I : (0 : Int) < (n : Int) := by omega
  go_enter Tryz.func19, Tryz.ntmps19
  go_wp2
  clear h1 c0
  go_loopw [3, 4] (fun m i wr => ∃ k : Nat, 1 ≤ k ∧ k ≤ n ∧ i = .int .i64 k ∧ m = .int .i64 (mx d k) ∧ wr = w) (fun _ i _ => n - (intOf i).toNat)
  case atStart => exact ⟨1, Nat.le_refl _, h0, rfl, by rw [m1.out], rfl⟩
  case round =>
    obtain ⟨k, hk1, hk, rfl, rfl, rfl⟩ := hrel
    by_cases hlt : k < n
    · have hI : (k : Int) < (n : Int) := by omega
      have ck := hC.c k hlt
      have hm : Hid (mx d (k + 1) = max (mx d k) (d k)) := rfl
      generalize d k = x at *
      generalize mx d k = y at *
      go_wp2
      go_roundw
      case rel => exact ⟨k + 1, by omega, by omega, by go_num, by rw [hm.out]; exact ⟨rfl, trivial⟩⟩
      case measure => simp [intOf]; omega
    · obtain rfl : k = n := by omega
      have hI : decide ((k : Int) < (k : Int)) = false := decide_eq_false (by omega)
      go_wp2
      go_ret
      exact ⟨rfl, rfl⟩

theorem VGath.app_drew {w : World} {t : Value} {wr : World} {ps : List (Int × Int)} (h : VGath w t wr ps) {k : Nat} (hk : ps.length = k) (hp : k ≤ 300) (x y : Int) : ∃ g cap w2, (appS #[72, 72] 72 #[t, .slice (some ⟨wr.heap.size, 0, none⟩) 1 1]).run Tryz.prog (wr.alloc (.cells #[.int .i64 x, .int .i64 y] 67)).drew = .ok (.slice (some ⟨g, 0, none⟩) (k + 1) cap) w2 ∧ VGath w (.slice (some ⟨g, 0, none⟩) (k + 1) cap) w2 (ps ++ [(x, y)]) := by
  have hd : VGath w t wr.drew ps := ⟨own_keptV h.own (Below.drew (Below.refl _ _)), Below.drew h.below⟩
  obtain ⟨g, cap, w2, h1, h2, _⟩ := hd.app (by omega) x y
  rw [hk] at h1 h2
  exact ⟨g, cap, w2, h1, h2⟩

set_option maxHeartbeats 1600000 in
theorem lates_of (r : Ru) (hr : ranges r) (g c p : Nat) (R : Nat → Nat) (hp : p ≤ 300) (hR : ∀ j, j < p → R j ≤ 4800) (w : World) (hC : Q.Cells w g p fun j => (R j : Int)) :
    Calls Tryz.prog 63 #[.slice (some ⟨g, 0, none⟩) p c, .int .i64 r.j] w fun e w' => ∃ ao cp, e = .returned (.slice ao p cp) ∧ p ≤ cp ∧ VRow w' ao (lat r R p) ∧ Fr w.heap.size ao ∧ Below w.heap.size w w' := by
  obtain ⟨hj, hj4, _⟩ := jj_cast hr
  have hj1 := jj_pos r
  have hw : IntKind.i64.wrap (r.j + 1) = (jj r : Int) := by rw [hj]; exact Q.wrap_in (by omega)
  have hst : VGath w (.slice none 0 0) w (lat r R 0) := VGath.start w
  have hJ : Hid (∀ n : Nat, pr r (n % ee r) = (((n / jj r % jj r : Nat) : Int), ((n % jj r : Nat) : Int))) := fun n => pr_mod r n
  have hjz : ((jj r : Nat) : Int) ≠ 0 := by omega
  generalize hJJ : jj r = J at *
  replace hj := hj.symm
  go_enter Tryz.func63, Tryz.ntmps63
  go_wp2
  go_loopw [6, 13] (fun t i wr => ∃ k : Nat, k ≤ p ∧ i = .int .i64 k ∧ VGath w t wr (lat r R k)) (fun _ i _ => p - (intOf i).toNat)
  case atStart => exact ⟨0, Nat.zero_le _, rfl, hst⟩
  case round =>
    obtain ⟨k, hk, rfl, hG⟩ := hrel
    by_cases hlt : k < p
    · have hI : (k : Int) < (p : Int) := by omega
      have ck := (hC.kept hG.below).c k hlt
      have hR4 := hR k hlt
      obtain ⟨x, hx⟩ : ∃ x, R k = x := ⟨_, rfl⟩
      rw [hx] at ck hR4
      have hs : Hid (lat r R k ++ [(((x / J % J : Nat) : Int), ((x % J : Nat) : Int))] = lat r R (k + 1)) := by
        show _ = _
        rw [lat_succ, hJ.out, hx]
      have hxj : x / J ≤ x := Nat.div_le_self _ _
      have q0 : wrap64 ((x : Int) / (J : Int)) = ((x / J : Nat) : Int) := IntWalk.wrap64_in ((x / J : Nat) : Int) (by
        generalize x / J = y at *
        omega)
      have q1 : Int.tmod ((x / J : Nat) : Int) (J : Int) = ((x / J % J : Nat) : Int) := rfl
      have q2 : ((x / J : Nat) : Int) % (J : Int) = ((x / J % J : Nat) : Int) := rfl
      have q3 : (x : Int) % (J : Int) = ((x % J : Nat) : Int) := rfl
      generalize x % J = u at *
      generalize x / J % J = z at *
      generalize x / J = y at *
      obtain ⟨g2, cap, w2, hrun, hG2⟩ := hG.app_drew (lat_len r R k) (by omega) (z : Int) (u : Int)
      rw [hs.out] at hG2
      go_wp2
      go_region
      go_wp2
      go_roundw
      case rel => exact ⟨k + 1, by omega, by go_num, hG2⟩
      case measure => simp [intOf]; omega
    · obtain rfl : k = p := by omega
      have hI : decide ((k : Int) < (k : Int)) = false := decide_eq_false (by omega)
      obtain ⟨ao, cp, rfl, hc, hv⟩ := hG.done (lat_len r R k)
      have hb := hG.below
      have hfr : Hid (Fr w.heap.size ao) := hG.fresh
      go_wp2
      go_ret
      exact ⟨ao, cp, rfl, hc, hv, hfr.out, hb⟩

end Go.Proofs.YtjageagnclmnjabGreatDoor.D
