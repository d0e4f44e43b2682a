/- PROVED: two graphs that grow side by side, each in a box of its own, their edges in rows of their own. CONDITIONS: none beyond each theorem's own. -/
import Derived.Test.YtdbpgcaodgkcjaaHig
import Derived.Maps.AppendAt
namespace Go.Proofs.Ytdbpgcaodgkcjaa
open Go.RowKit
set_option linter.unusedVariables false

/-- two graphs, in blocks O and U -/
structure Tw (v wr : World) (O U : Nat) (N : Int) (a : Option Addr) (c : Nat) (L : List Ed) (b : Option Addr) (d : Nat) (M : List Ed) : Prop where
  g : wr.cell? ⟨O, 0, none⟩ = some (.int .i64 N)
  s : wr.cell? ⟨O, 1, none⟩ = some (.slice a L.length c)
  f : wr.frozen? ⟨O, 1, none⟩ = false
  own : wr.ownsRow (v.heap.size + 2) 36 3 (.slice a L.length c) L.length (flatE L)
  g' : wr.cell? ⟨U, 0, none⟩ = some (.int .i64 N)
  s' : wr.cell? ⟨U, 1, none⟩ = some (.slice b M.length d)
  f' : wr.frozen? ⟨U, 1, none⟩ = false
  own' : wr.ownsRow (v.heap.size + 2) 36 3 (.slice b M.length d) M.length (flatE M)
  apart : ∀ g, Value.ownBlock (.slice a L.length c) = some g → Value.ownBlock (.slice b M.length d) ≠ some g
  ne : O ≠ U
  oo : v.heap.size ≤ O ∧ O < v.heap.size + 2
  uu : v.heap.size ≤ U ∧ U < v.heap.size + 2
  bel : Below v.heap.size v wr
  lt : v.heap.size + 2 ≤ wr.heap.size
theorem Tw.swap {v wr : World} {O U : Nat} {N : Int} {a b : Option Addr} {c d : Nat} {L M : List Ed} (h : Tw v wr O U N a c L b d M) : Tw v wr U O N b d M a c L :=
  ⟨h.g', h.s', h.f', h.own', h.g, h.s, h.f, h.own, fun g h1 h2 => h.apart g h2 h1, Ne.symm h.ne, h.uu, h.oo, h.bel, h.lt⟩
theorem Tw.kept {v wr w' : World} {O U : Nat} {N : Int} {a b : Option Addr} {c d : Nat} {L M : List Ed} (h : Tw v wr O U N a c L b d M) (k : Below wr.heap.size wr w') : Tw v w' O U N a c L b d M :=
  have l1 : O < wr.heap.size := by have := h.oo; have := h.lt; omega
  have l2 : U < wr.heap.size := by have := h.uu; have := h.lt; omega
  ⟨(k.cell (p := ⟨O, 0, none⟩) l1).trans h.g, (k.cell (p := ⟨O, 1, none⟩) l1).trans h.s, frozen_kept h.f l1 k, own_block h.own fun g _ hg => k.block g hg,
   (k.cell (p := ⟨U, 0, none⟩) l2).trans h.g', (k.cell (p := ⟨U, 1, none⟩) l2).trans h.s', frozen_kept h.f' l2 k, own_block h.own' fun g _ hg => k.block g hg, h.apart, h.ne, h.oo, h.uu,
   h.bel.trans (k.mono (by have := h.lt; omega)), Nat.le_trans h.lt k.size⟩
theorem Tw.row {v wr : World} {O U : Nat} {N : Int} {a b : Option Addr} {c d : Nat} {L M : List Ed} (h : Tw v wr O U N a c L b d M) : ERow wr a L := by
  obtain ⟨a', c', e, hr⟩ := owned3 h.own
  injection e with e1 _ _
  rw [e1]; exact hr
theorem own_one {w w' : World} {base : Nat} {t : Value} {n : Nat} {xs : List Value} (h : w.ownsRow base 36 3 t n xs) (hb : ∀ g, Value.ownBlock t = some g → w'.heap[g]? = w.heap[g]?) : w'.ownsRow base 36 3 t n xs := by
  obtain ⟨hl, h2⟩ := h
  refine ⟨hl, ?_⟩
  rcases h2 with e | ⟨g, cap, cur, e, hg, hh, r⟩
  · exact .inl e
  · exact .inr ⟨g, cap, cur, e, hg, by rw [hb g (by rw [e]; rfl)]; exact hh, r⟩
/-- one edge more for the first -/
theorem Tw.more {v wr : World} {O U : Nat} {N : Int} {a b : Option Addr} {c d k : Nat} {L M : List Ed} (hk : L.length = k) (h : Tw v wr O U N a c L b d M) (hk4 : k + 1 ≤ 5864062014805) (f t x : Int) :
    ∃ g cap w2, (appe #[22, 22] 22 #[.slice a k c, .slice (some ⟨wr.heap.size, 0, none⟩) 1 1]).run Try.prog (wr.alloc (.cells #[.int .i64 f, .int .i64 t, .int .i64 x] 36)) = .ok (.slice (some ⟨g, 0, none⟩) (k + 1) cap) w2
      ∧ (∃ u, w2.cell? ⟨O, 1, none⟩ = some u) ∧ w2.frozen? ⟨O, 1, none⟩ = false ∧ (∀ p u, wr.cell? p = some u → some p.block ≠ Value.ownBlock (.slice a k c) → p.block ≠ O → (w2.setCell ⟨O, 1, none⟩ (.slice (some ⟨g, 0, none⟩) (k + 1) cap)).cell? p = some u)
      ∧ Tw v (w2.setCell ⟨O, 1, none⟩ (.slice (some ⟨g, 0, none⟩) (k + 1) cap)) O U N (some ⟨g, 0, none⟩) cap (L ++ [⟨f, t, x⟩]) b d M := by
  subst hk
  obtain ⟨i0, hi, hz0, hz1, hz2⟩ := info_parts Try.info37
  have h3 := h.kept (balloc (Below.refl _ _) (.cells #[.int .i64 f, .int .i64 t, .int .i64 x] 36))
  obtain ⟨v', w2, hrun, hown, hgrow, _, hat⟩ := run_append_own_at (P := Try.prog) (wr.alloc (.cells #[.int .i64 f, .int .i64 t, .int .i64 x] 36)) (v.heap.size + 2) 22 22 36 i0 _ 3 24 Try.underlying22 hi hz0 hz1 hz2 rfl (by decide) _ _ _ h3.own ⟨wr.heap.size, 0, none⟩ 1 1 [.int .i64 f, .int .i64 t, .int .i64 x] rfl (cell_edge_new wr f t x) (by simp [Value.oneCell']) (by unfold maxLen; omega) (by omega) h3.lt
  obtain ⟨g, cap, rfl⟩ := own_succ hown
  have lt1 := h3.lt
  have oo := h.oo
  have uu := h.uu
  have blk : ∀ B, B < (wr.alloc (.cells #[.int .i64 f, .int .i64 t, .int .i64 x] 36)).heap.size → some B ≠ Value.ownBlock (.slice a L.length c) → w2.heap[B]? = (wr.alloc (.cells #[.int .i64 f, .int .i64 t, .int .i64 x] 36)).heap[B]? := fun B hB hn => hgrow.block B hB hn
  have low : ∀ B, B < v.heap.size + 2 → some B ≠ Value.ownBlock (.slice a L.length c) := fun B hB q => by have := (h3.own.lt B q.symm).1; omega
  have hO : w2.heap[O]? = (wr.alloc (.cells #[.int .i64 f, .int .i64 t, .int .i64 x] 36)).heap[O]? := blk O (by omega) (low O (by omega))
  have hU : w2.heap[U]? = (wr.alloc (.cells #[.int .i64 f, .int .i64 t, .int .i64 x] 36)).heap[U]? := blk U (by omega) (low U (by omega))
  have c0 : w2.cell? ⟨O, 0, none⟩ = some (.int .i64 N) := (World.cell?_of_block (a := ⟨O, 0, none⟩) hO).trans h3.g
  have c1 : w2.cell? ⟨O, 1, none⟩ = some (.slice a L.length c) := (World.cell?_of_block (a := ⟨O, 1, none⟩) hO).trans h3.s
  have f1 : w2.frozen? ⟨O, 1, none⟩ = false := (World.frozen?_of_block (a := ⟨O, 1, none⟩) hO).trans h3.f
  have u0 : w2.cell? ⟨U, 0, none⟩ = some (.int .i64 N) := (World.cell?_of_block (a := ⟨U, 0, none⟩) hU).trans h3.g'
  have u1 : w2.cell? ⟨U, 1, none⟩ = some (.slice b M.length d) := (World.cell?_of_block (a := ⟨U, 1, none⟩) hU).trans h3.s'
  have u2 : w2.frozen? ⟨U, 1, none⟩ = false := (World.frozen?_of_block (a := ⟨U, 1, none⟩) hU).trans h3.f'
  have hl2 : (L ++ [(⟨f, t, x⟩ : Ed)]).length = L.length + 1 := by simp
  have ne := h.ne
  refine ⟨g, cap, w2, hrun, ⟨_, c1⟩, f1, fun p u hp hn hpO => ?_, ?_, ?_, ?_, ?_, ?_, ?_, ?_, ?_, ?_, ne, oo, uu, ?_, ?_⟩
  · have hpb : p.block < wr.heap.size := block_lt hp
    rw [World.cell?_setCell_other _ _ _ _ (fun q => hpO (by rw [← q])), World.cell?_of_block (blk p.block (by simp; omega) hn)]
    exact ((balloc (Below.refl wr.heap.size wr) (.cells #[.int .i64 f, .int .i64 t, .int .i64 x] 36)).cell (p := p) hpb).trans hp
  · rw [World.cell?_setCell_other _ _ _ _ (by simp)]; exact c0
  · rw [hl2]; exact World.cell?_setCell_same _ _ _ c1
  · rw [World.frozen?_setCell]; exact f1
  · rw [hl2, flatE_append]
    exact own_block hown fun g' hg' _ => Below.heap_setCell _ _ _ _ (by show g' ≠ O; omega)
  · rw [World.cell?_setCell_other _ _ _ _ (fun q => ne (by injection q))]; exact u0
  · rw [World.cell?_setCell_other _ _ _ _ (fun q => ne (by injection q))]; exact u1
  · rw [World.frozen?_setCell]; exact u2
  · refine own_one h3.own' fun g' hg' => ?_
    have hlt := h3.own'.lt g' hg'
    rw [Below.heap_setCell _ _ _ _ (by show g' ≠ O; omega)]
    exact blk g' hlt.2 (fun q => h3.apart g' q.symm hg')
  · intro g' hg' hb'
    have hlt := h3.own'.lt g' hb'
    have hg'' : g = g' := by simpa [Value.ownBlock] using hg'
    rcases hat with q | q
    · have q' : Value.ownBlock (.slice a L.length c) = some g := by rw [← q]; rfl
      exact h3.apart g q' (by rw [hg'']; exact hb')
    · have q' : g = (wr.alloc (.cells #[.int .i64 f, .int .i64 t, .int .i64 x] 36)).heap.size := by simpa [Value.ownBlock] using q
      omega
  · exact Below.setCell (h3.bel.grown hgrow (by omega) (fun q hq => by have := (h3.own.lt q hq).1; omega)) oo.1 _
  · have := hgrow.size
    simp only [World.setCell, Array.size_modify]
    omega

end Go.Proofs.Ytdbpgcaodgkcjaa
