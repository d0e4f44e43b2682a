/- PROVED: edges and graphs in memory; graphs that are right. CONDITIONS: none beyond each theorem's own. -/
import Derived.Test.YtdbpgcaodgkcjaaCel
import Derived.Test.YtdbpgcaodgkcjaaCl
namespace Go.Proofs.Ytdbpgcaodgkcjaa
open Go.RowKit

/-- an edge as it came: from, to, weight -/
structure Ed where
  f : Int
  t : Int
  x : Int
def ed (L : List Ed) (j : Nat) : Ed := L.getD j ⟨0, 0, 0⟩
def upE (e : Eg) : Ed := ⟨e.f, e.t, e.x⟩
theorem ed_up {es : List Eg} {j : Nat} (h : j < es.length) : ed (es.map upE) j = upE (eg es j) := by
  unfold ed eg
  rw [List.getD_eq_getElem?_getD, List.getD_eq_getElem?_getD, List.getElem?_map, List.getElem?_eq_getElem h]
  rfl
/-- a slice of edges that holds L -/
def ERow (w : World) (ao : Option Addr) (L : List Ed) : Prop :=
  L = [] ∨ ∃ b off, ao = some ⟨b, off, none⟩ ∧ ∀ j, j < L.length → w.cell? ⟨b, off + j * 3, none⟩ = some (.int .i64 (ed L j).f) ∧ w.cell? ⟨b, off + j * 3 + 1, none⟩ = some (.int .i64 (ed L j).t) ∧ w.cell? ⟨b, off + j * 3 + 2, none⟩ = some (.int .i64 (ed L j).x)
theorem ERow.kept {w w' : World} {ao : Option Addr} {L : List Ed} (h : ERow w ao L) (b : Below w.heap.size w w') : ERow w' ao L := by
  rcases h with h | ⟨g, off, rfl, h⟩
  · exact .inl h
  · refine .inr ⟨g, off, rfl, fun j hj => ?_⟩
    obtain ⟨h1, h2, h3⟩ := h j hj
    exact ⟨(b.cell (p := ⟨g, off + j * 3, none⟩) (block_lt h1)).trans h1, (b.cell (p := ⟨g, off + j * 3 + 1, none⟩) (block_lt h2)).trans h2, (b.cell (p := ⟨g, off + j * 3 + 2, none⟩) (block_lt h3)).trans h3⟩
theorem ERow.at {w : World} {ao : Option Addr} {L : List Ed} (h : ERow w ao L) (hp : 0 < L.length) : ∃ b off, ao = some ⟨b, off, none⟩ ∧ ∀ j, j < L.length → w.cell? ⟨b, off + j * 3, none⟩ = some (.int .i64 (ed L j).f) ∧ w.cell? ⟨b, off + j * 3 + 1, none⟩ = some (.int .i64 (ed L j).t) ∧ w.cell? ⟨b, off + j * 3 + 2, none⟩ = some (.int .i64 (ed L j).x) := by
  rcases h with e | e
  · subst e; simp at hp
  · exact e
theorem ERow.drewN {w : World} {ao : Option Addr} {L : List Ed} (h : ERow w ao L) (n : Nat) : ERow (w.drewN n) ao L := h
theorem ERow.alloc {w : World} {ao : Option Addr} {L : List Ed} (h : ERow w ao L) (o : Obj) : ERow (w.alloc o) ao L := h.kept (balloc (Below.refl _ _) o)
/-- edges of a right graph -/
def GRow (w : World) (ao : Option Addr) (es : List Eg) : Prop := ERow w ao (es.map upE)
theorem GRow.kept {w w' : World} {ao : Option Addr} {es : List Eg} (h : GRow w ao es) (b : Below w.heap.size w w') : GRow w' ao es := ERow.kept h b
theorem GRow.drewN {w : World} {ao : Option Addr} {es : List Eg} (h : GRow w ao es) (n : Nat) : GRow (w.drewN n) ao es := h
theorem GRow.alloc {w : World} {ao : Option Addr} {es : List Eg} (h : GRow w ao es) (o : Obj) : GRow (w.alloc o) ao es := ERow.alloc h o
theorem GRow.at {w : World} {ao : Option Addr} {es : List Eg} (h : GRow w ao es) (hp : 0 < es.length) : ∃ b off, ao = some ⟨b, off, none⟩ ∧ ∀ j, j < es.length → w.cell? ⟨b, off + j * 3, none⟩ = some (.int .i64 ((eg es j).f : Int)) ∧ w.cell? ⟨b, off + j * 3 + 1, none⟩ = some (.int .i64 ((eg es j).t : Int)) ∧ w.cell? ⟨b, off + j * 3 + 2, none⟩ = some (.int .i64 (eg es j).x) := by
  obtain ⟨b, off, rfl, h1⟩ := ERow.at h (by rw [List.length_map]; exact hp)
  refine ⟨b, off, rfl, fun j hj => ?_⟩
  have := h1 j (by rw [List.length_map]; exact hj)
  rw [ed_up hj] at this
  exact this

/-- an edge is right among n nodes -/
def eok (n : Int) (e : Ed) : Prop := (0 ≤ e.f ∧ e.f < n) ∧ (0 ≤ e.t ∧ e.t < n) ∧ -1048576 ≤ e.x ∧ e.x ≤ 1048576
instance (n : Int) (e : Ed) : Decidable (eok n e) := inferInstanceAs (Decidable (_ ∧ _ ∧ _ ∧ _))
/-- a graph is right -/
def grt (n : Int) (L : List Ed) : Prop := 0 ≤ n ∧ n ≤ 300 ∧ L.length ≤ 4800 ∧ ∀ j, j < L.length → eok n (ed L j)
instance (n : Int) (L : List Ed) : Decidable (grt n L) := inferInstanceAs (Decidable (_ ∧ _ ∧ _ ∧ ∀ j, j < L.length → eok n (ed L j)))
/-- what Wrong tells -/
def gwr (n : Int) (L : List Ed) : Int := if grt n L then 0 else 2
theorem gwr_yes {n : Int} {L : List Ed} (h : grt n L) : gwr n L = 0 := if_pos h
theorem gwr_no {n : Int} {L : List Ed} (h : ¬ grt n L) : gwr n L = 2 := if_neg h

/-- a right graph: its nodes and edges -/
structure Gph (n : Nat) (es : List Eg) : Prop where
  n3 : n ≤ 300
  m4 : es.length ≤ 4800
  inn : Inn n es
  wgt : Wgt es
theorem grt_gph {N : Int} {L : List Ed} (h : grt N L) : ∃ (n : Nat) (es : List Eg), N = (n : Int) ∧ L = es.map upE ∧ Gph n es := by
  obtain ⟨h0, h1, h2, h3⟩ := h
  refine ⟨N.toNat, L.map fun e => ⟨e.f.toNat, e.t.toNat, e.x⟩, by omega, ?_, by omega, by rw [List.length_map]; exact h2, fun e he => ?_, fun e he => ?_⟩
  · rw [List.map_map]
    conv => lhs; rw [← List.map_id L]
    refine List.map_congr_left fun e he => ?_
    obtain ⟨j, hj, rfl⟩ := List.getElem_of_mem he
    have := h3 j hj
    rw [show ed L j = L[j] by unfold ed; rw [List.getD_eq_getElem?_getD, List.getElem?_eq_getElem hj]; rfl] at this
    obtain ⟨⟨g1, _⟩, ⟨g2, _⟩, _⟩ := this
    show L[j] = ⟨((L[j].f.toNat : Nat) : Int), ((L[j].t.toNat : Nat) : Int), L[j].x⟩
    rw [Int.toNat_of_nonneg g1, Int.toNat_of_nonneg g2]
  · obtain ⟨d, hd, rfl⟩ := List.mem_map.1 he
    obtain ⟨j, hj, rfl⟩ := List.getElem_of_mem hd
    have := h3 j hj
    rw [show ed L j = L[j] by unfold ed; rw [List.getD_eq_getElem?_getD, List.getElem?_eq_getElem hj]; rfl] at this
    obtain ⟨⟨g1, g3⟩, ⟨g2, g4⟩, _⟩ := this
    show L[j].f.toNat < _ ∧ L[j].t.toNat < _
    omega
  · obtain ⟨d, hd, rfl⟩ := List.mem_map.1 he
    obtain ⟨j, hj, rfl⟩ := List.getElem_of_mem hd
    have := h3 j hj
    rw [show ed L j = L[j] by unfold ed; rw [List.getD_eq_getElem?_getD, List.getElem?_eq_getElem hj]; rfl] at this
    exact this.2.2
theorem gph_grt {n : Nat} {es : List Eg} (h : Gph n es) : grt (n : Int) (es.map upE) := by
  refine ⟨by omega, by have := h.n3; omega, by rw [List.length_map]; exact h.m4, fun j hj => ?_⟩
  rw [List.length_map] at hj
  rw [ed_up hj]
  have h1 := h.inn _ (eg_mem hj)
  have h2 := h.wgt _ (eg_mem hj)
  show (0 ≤ ((eg es j).f : Int) ∧ ((eg es j).f : Int) < n) ∧ (0 ≤ ((eg es j).t : Int) ∧ ((eg es j).t : Int) < n) ∧ -1048576 ≤ (eg es j).x ∧ (eg es j).x ≤ 1048576
  omega

/-- a graph in block O -/
structure Gb (w : World) (O : Nat) (N : Int) (a : Option Addr) (m cap : Nat) : Prop where
  g : w.cell? ⟨O, 0, none⟩ = some (.int .i64 N)
  s : w.cell? ⟨O, 1, none⟩ = some (.slice a m cap)
theorem Gb.new (w : World) (N : Int) (a : Option Addr) (m cap : Nat) : Gb (w.alloc (.cells #[.int .i64 N, .slice a m cap] 24)) w.heap.size N a m cap :=
  ⟨by rw [World.cell?_alloc_at _ _ _ _ rfl]; rfl, by rw [World.cell?_alloc_at _ _ _ _ rfl]; rfl⟩
theorem Gb.kept {w w' : World} {O : Nat} {N : Int} {a : Option Addr} {m cap : Nat} (h : Gb w O N a m cap) (b : Below w.heap.size w w') : Gb w' O N a m cap :=
  ⟨(b.cell (p := ⟨O, 0, none⟩) (block_lt h.g)).trans h.g, (b.cell (p := ⟨O, 1, none⟩) (block_lt h.s)).trans h.s⟩
theorem Gb.alloc {w : World} {O : Nat} {N : Int} {a : Option Addr} {m cap : Nat} (h : Gb w O N a m cap) (o : Obj) : Gb (w.alloc o) O N a m cap := h.kept (balloc (Below.refl _ _) o)
theorem Gb.drewN {w : World} {O : Nat} {N : Int} {a : Option Addr} {m cap : Nat} (h : Gb w O N a m cap) (q : Nat) : Gb (w.drewN q) O N a m cap := ⟨h.g, h.s⟩

end Go.Proofs.Ytdbpgcaodgkcjaa
