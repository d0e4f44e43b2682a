/- PROVED: edges that are gathered in a row of the call's own, behind a struct's field; edges that are lighter as they climb. CONDITIONS: none beyond each theorem's own. -/
import Derived.Test.YtdbpgcaodgkcjaaPas
namespace Go.Proofs.Ytdbpgcaodgkcjaa
open Go.RowKit

def flatE : List Ed → List Value
  | [] => []
  | e :: l => .int .i64 e.f :: .int .i64 e.t :: .int .i64 e.x :: flatE l
theorem flatE_len (l : List Ed) : (flatE l).length = l.length * 3 := by
  induction l with
  | nil => rfl
  | cons r t ih => simp only [flatE, List.length_cons, ih]; omega
theorem flatE_append (a b : List Ed) : flatE (a ++ b) = flatE a ++ flatE b := by
  induction a with
  | nil => rfl
  | cons r t ih => simp [flatE, ih]
theorem flatE_get (l : List Ed) : ∀ j, j < l.length → (flatE l)[j * 3]? = some (.int .i64 (ed l j).f) ∧ (flatE l)[j * 3 + 1]? = some (.int .i64 (ed l j).t) ∧ (flatE l)[j * 3 + 2]? = some (.int .i64 (ed l j).x) := by
  induction l with
  | nil => intro j h; simp at h
  | cons r t ih =>
    intro j h
    cases j with
    | zero => exact ⟨rfl, rfl, rfl⟩
    | succ j =>
      have := ih j (by simpa using h)
      rw [show (j + 1) * 3 = j * 3 + 1 + 1 + 1 by omega]
      exact this
theorem Try.info37 : (Try.prog.info? 36).map (fun i => (i.zero, i.size, i.bytes)) = some (some (.agg #[.int .i64 0, .int .i64 0, .int .i64 0]), 3, 24) := by kernel_rfl
theorem owned3 {w : World} {base : Nat} {t : Value} {L : List Ed} (h : w.ownsRow base 36 3 t L.length (flatE L)) : ∃ ao cap, t = .slice ao L.length cap ∧ ERow w ao L := by
  obtain ⟨hl, ⟨e, e2⟩ | ⟨g, cap, cur, e, hg, hh, hnc, _, hcs, htk⟩⟩ := h
  · exact ⟨none, 0, by rw [e, e2], .inl (List.eq_nil_of_length_eq_zero e2)⟩
  · refine ⟨_, cap, e, .inr ⟨g, 0, rfl, fun j hj => ?_⟩⟩
    obtain ⟨f1, f2, f3⟩ := flatE_get L j hj
    rw [← htk, List.getElem?_take_of_lt (by omega)] at f1 f2 f3
    rw [Nat.zero_add]
    simp [World.cell?, hh]
    exact ⟨by simpa using f1, by simpa using f2, by simpa using f3⟩
theorem own_block {w w' : World} {base : Nat} {t : Value} {n : Nat} {xs : List Value} (h : w.ownsRow base 36 3 t n xs) (hb : ∀ g, base ≤ g → g < w.heap.size → w'.heap[g]? = w.heap[g]?) : w'.ownsRow base 36 3 t n xs := by
  obtain ⟨hl, h2⟩ := h
  refine ⟨hl, ?_⟩
  rcases h2 with e | ⟨g, cap, cur, e, hg, hh, r⟩
  · exact .inl e
  · exact .inr ⟨g, cap, cur, e, hg, by rw [hb g hg (lt_of_block hh)]; exact hh, r⟩
theorem own_succ {W : World} {base : Nat} {v : Value} {k : Nat} {xs : List Value} (h : W.ownsRow base 36 3 v (k + 1) xs) : ∃ g cap, v = .slice (some ⟨g, 0, none⟩) (k + 1) cap := by
  rcases h.2 with ⟨_, h0⟩ | ⟨g, cap, _, rfl, _⟩
  · omega
  · exact ⟨g, cap, rfl⟩

/-- append, kept whole -/
def appe (ats : Array TypeId) (ty : TypeId) (args : Array Value) : Sem Value := Builtin.append_ ats ty args
theorem appe_whole (ats : Array TypeId) (ty : TypeId) (args : Array Value) : Builtin.append_ ats ty args = appe ats ty args := rfl

/-- a graph that grows, in block O: its edges L in a row of their own -/
structure Hb (v wr : World) (O : Nat) (N : Int) (ao : Option Addr) (cp : Nat) (L : List Ed) : Prop where
  g : wr.cell? ⟨O, 0, none⟩ = some (.int .i64 N)
  s : wr.cell? ⟨O, 1, none⟩ = some (.slice ao L.length cp)
  f : wr.frozen? ⟨O, 1, none⟩ = false
  own : wr.ownsRow (O + 1) 36 3 (.slice ao L.length cp) L.length (flatE L)
  bel : Below O v wr
  lt : O < wr.heap.size
theorem Hb.start (v : World) (N : Int) : Hb v (v.alloc (.cells #[.int .i64 N, .slice none 0 0] 24)) v.heap.size N none 0 [] where
  g := by rw [World.cell?_alloc_at _ _ _ _ rfl]; rfl
  s := by rw [World.cell?_alloc_at _ _ _ _ rfl]; rfl
  f := by rw [World.frozen?_alloc_at _ _ _ _ rfl]
  own := World.ownsRow_nil _ _ _ _
  bel := balloc (Below.refl _ _) _
  lt := by simp
theorem Hb.kept {v wr w' : World} {O : Nat} {N : Int} {ao : Option Addr} {cp : Nat} {L : List Ed} (h : Hb v wr O N ao cp L) (b : Below wr.heap.size wr w') : Hb v w' O N ao cp L where
  g := (b.cell (p := ⟨O, 0, none⟩) h.lt).trans h.g
  s := (b.cell (p := ⟨O, 1, none⟩) h.lt).trans h.s
  f := frozen_kept h.f h.lt b
  own := own_block h.own fun g _ hg => b.block g hg
  bel := h.bel.trans (b.mono (Nat.le_of_lt h.lt))
  lt := Nat.lt_of_lt_of_le h.lt b.size
theorem Hb.row {v wr : World} {O : Nat} {N : Int} {ao : Option Addr} {cp : Nat} {L : List Ed} (h : Hb v wr O N ao cp L) : ERow wr ao L := by
  obtain ⟨a, c, e, hr⟩ := owned3 h.own
  injection e with e1 _ _
  rw [e1]; exact hr
theorem cell_edge_new (w : World) (f t x : Int) (j : Nat) (u : Value) (h : [Value.int .i64 f, .int .i64 t, .int .i64 x][j]? = some u) : (w.alloc (.cells #[.int .i64 f, .int .i64 t, .int .i64 x] 36)).cell? ((⟨w.heap.size, 0, none⟩ : Addr).add j) = some u := by
  rw [Addr.add_lit, Nat.zero_add]
  exact (World.cell?_alloc_at (w := w) #[.int .i64 f, .int .i64 t, .int .i64 x] 36 w.heap.size j rfl).trans (by simpa using h)

/-- one edge more, in a region that draws its order -/
theorem Hb.drawn {v wr : World} {O : Nat} {N : Int} {ao : Option Addr} {cp k : Nat} {L : List Ed} (hk : L.length = k) (h : Hb v wr O N ao cp L) (hk4 : k + 1 ≤ 4800) (f t x : Int) :
    ∃ g cap w2, (appe #[22, 22] 22 #[.slice ao k cp, .slice (some ⟨wr.heap.size, 0, none⟩) 1 1]).run Try.prog (wr.alloc (.cells #[.int .i64 f, .int .i64 t, .int .i64 x] 36)).drew = .ok (.slice (some ⟨g, 0, none⟩) (k + 1) cap) w2
      ∧ w2.cell? ⟨O, 0, none⟩ = some (.int .i64 N) ∧ (∃ u, w2.cell? ⟨O, 1, none⟩ = some u) ∧ w2.frozen? ⟨O, 1, none⟩ = false ∧ (∀ p u, wr.cell? p = some u → some p.block ≠ Value.ownBlock (.slice ao k cp) → w2.cell? p = some u) ∧ Hb v (w2.setCell ⟨O, 1, none⟩ (.slice (some ⟨g, 0, none⟩) (k + 1) cap)) O N (some ⟨g, 0, none⟩) cap (L ++ [⟨f, t, x⟩]) := by
  subst hk
  obtain ⟨i0, hi, hz0, hz1, hz2⟩ := info_parts Try.info37
  have hd := h.kept (Below.drew (Below.refl wr.heap.size wr))
  obtain ⟨v', w2, hrun, hown, hgrow, _⟩ := run_append_own (P := Try.prog) (wr.drew.alloc (.cells #[.int .i64 f, .int .i64 t, .int .i64 x] 36)) (O + 1) 22 22 36 i0 _ 3 24 Try.underlying22 hi hz0 hz1 hz2 rfl (by decide) _ _ _ (hd.own.alloc _) ⟨wr.heap.size, 0, none⟩ 1 1 [.int .i64 f, .int .i64 t, .int .i64 x] rfl (cell_edge_new wr.drew f t x) (by simp [Value.oneCell']) (by unfold maxLen; omega) (by omega) (by have := h.lt; simp; omega)
  obtain ⟨g, cap, rfl⟩ := own_succ hown
  have hlt : O < (wr.drew.alloc (.cells #[.int .i64 f, .int .i64 t, .int .i64 x] 36)).heap.size := by have := h.lt; simp; omega
  have hne : some O ≠ Value.ownBlock (.slice ao L.length cp) := fun q => by have := (hd.own.lt O q.symm).1; omega
  have ho : w2.heap[O]? = (wr.drew.alloc (.cells #[.int .i64 f, .int .i64 t, .int .i64 x] 36)).heap[O]? := hgrow.block O hlt hne
  have h3 := hd.kept (balloc (Below.refl _ _) (.cells #[.int .i64 f, .int .i64 t, .int .i64 x] 36))
  have c0 : w2.cell? ⟨O, 0, none⟩ = some (.int .i64 N) := (World.cell?_of_block (a := ⟨O, 0, none⟩) ho).trans h3.g
  have c1 : w2.cell? ⟨O, 1, none⟩ = some (.slice ao L.length cp) := (World.cell?_of_block (a := ⟨O, 1, none⟩) ho).trans h3.s
  have f1 : w2.frozen? ⟨O, 1, none⟩ = false := (World.frozen?_of_block (a := ⟨O, 1, none⟩) ho).trans h3.f
  have hl2 : (L ++ [(⟨f, t, x⟩ : Ed)]).length = L.length + 1 := by simp
  have hfar : ∀ p u, wr.cell? p = some u → some p.block ≠ Value.ownBlock (.slice ao L.length cp) → w2.cell? p = some u := fun p u hp hn => by
    have hpb : p.block < wr.heap.size := block_lt hp
    rw [World.cell?_of_block (hgrow.block p.block (by simp; omega) hn)]
    exact ((balloc (Below.refl wr.drew.heap.size wr.drew) (.cells #[.int .i64 f, .int .i64 t, .int .i64 x] 36)).cell (p := p) hpb).trans hp
  refine ⟨g, cap, w2, hrun, c0, ⟨_, c1⟩, f1, hfar, ?_, ?_, ?_, ?_, ?_, ?_⟩
  · rw [World.cell?_setCell_other _ _ _ _ (by simp)]; exact c0
  · rw [hl2]; exact World.cell?_setCell_same _ _ _ c1
  · rw [World.frozen?_setCell]; exact f1
  · rw [hl2, flatE_append]
    exact own_block hown fun g' hg' _ => Below.heap_setCell _ _ _ _ (by show g' ≠ O; omega)
  · exact Below.setCell (h3.bel.grown hgrow (Nat.le_of_lt hlt) (fun q hq => by have := (hd.own.lt q hq).1; omega)) (Nat.le_refl _) _
  · have := hgrow.size
    simp only [World.setCell, Array.size_modify]
    omega

theorem lit_keeps {w : World} {p0 p1 p2 p3 p4 : Addr} {u0 u1 u2 u3 u4 : Value} (h0 : w.cell? p0 = some u0) (h1 : w.cell? p1 = some u1) (h2 : w.cell? p2 = some u2) (h3 : w.cell? p3 = some u3) (h4 : w.cell? p4 = some u4) (o : Obj) :
    (w.alloc o).cell? p0 = some u0 ∧ (w.alloc o).cell? p1 = some u1 ∧ (w.alloc o).cell? p2 = some u2 ∧ (w.alloc o).cell? p3 = some u3 ∧ (w.alloc o).cell? p4 = some u4 :=
  have b := balloc (Below.refl w.heap.size w) o
  ⟨(b.cell (block_lt h0)).trans h0, (b.cell (block_lt h1)).trans h1, (b.cell (block_lt h2)).trans h2, (b.cell (block_lt h3)).trans h3, (b.cell (block_lt h4)).trans h4⟩
theorem far_set {w : World} {O b o : Nat} {u : Value} (hO : ¬ O = b) (h : w.cell? ⟨b, o, none⟩ = some u) (k : Nat) (x : Value) : (w.setCell ⟨O, k, none⟩ x).cell? ⟨b, o, none⟩ = some u := by
  rw [World.cell?_setCell_other _ _ _ _ (fun q => hO (by injection q))]; exact h

/-- each edge so much lighter as it climbs -/
def hes (es : List Eg) (z : List Int) : List Eg := es.map fun e => ⟨e.f, e.t, e.x + z.getD e.f 0 - z.getD e.t 0⟩
theorem hes_len (es : List Eg) (z : List Int) : (hes es z).length = es.length := by simp [hes]
theorem hes_eg {es : List Eg} {z : List Int} {j : Nat} (h : j < es.length) : eg (hes es z) j = ⟨(eg es j).f, (eg es j).t, (eg es j).x + z.getD (eg es j).f 0 - z.getD (eg es j).t 0⟩ := by
  unfold eg hes
  rw [List.getD_eq_getElem?_getD, List.getElem?_map, List.getD_eq_getElem?_getD, List.getElem?_eq_getElem h]
  rfl
theorem hes_noPos (es : List Eg) (z : List Int) : noPos (hes es z) ↔ noPos es := high_noPos fun v => z.getD v 0
/-- the first k of them as they lie there -/
def hL (es : List Eg) (z : List Int) (k : Nat) : List Ed := ((hes es z).take k).map upE
theorem hL_len {es : List Eg} {z : List Int} {k : Nat} (h : k ≤ es.length) : (hL es z k).length = k := by simp [hL, hes]; omega
theorem hL_succ {es : List Eg} {z : List Int} {k : Nat} (h : k < es.length) : hL es z (k + 1) = hL es z k ++ [⟨((eg es k).f : Int), ((eg es k).t : Int), (eg es k).x + z.getD (eg es k).f 0 - z.getD (eg es k).t 0⟩] := by
  have h2 : k < (hes es z).length := by rw [hes_len]; exact h
  have e := hes_eg (z := z) h
  unfold eg at e
  rw [List.getD_eq_getElem?_getD, List.getElem?_eq_getElem h2] at e
  unfold hL
  rw [List.take_add_one, List.getElem?_eq_getElem h2, List.map_append]
  show _ ++ [upE _] = _
  have e2 : (hes es z)[k] = ⟨(eg es k).f, (eg es k).t, (eg es k).x + z.getD (eg es k).f 0 - z.getD (eg es k).t 0⟩ := e
  rw [e2]
  rfl
theorem hL_all (es : List Eg) (z : List Int) : hL es z es.length = (hes es z).map upE := by
  unfold hL; rw [← hes_len es z, List.take_length]
theorem hes_gph {n : Nat} {es : List Eg} {z : List Int} (hG : Gph n es) (h : grt (n : Int) ((hes es z).map upE)) : Gph n (hes es z) := by
  refine ⟨hG.n3, by rw [hes_len]; exact hG.m4, fun e he => ?_, fun e he => ?_⟩
  · obtain ⟨d, hd, rfl⟩ := List.mem_map.1 he
    exact hG.inn d hd
  · obtain ⟨j, hj, rfl⟩ := mem_eg he
    have := h.2.2.2 j (by rw [List.length_map]; exact hj)
    rw [ed_up hj] at this
    exact this.2.2

end Go.Proofs.Ytdbpgcaodgkcjaa
