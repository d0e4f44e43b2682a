/- PROVED: steady's finding in memory: three rows, a map, what keeps them, how each grows. CONDITIONS: none beyond each theorem's own. -/
import Derived.Test.YtilpooifggofiaaB15Ft
import Derived.Test.YtilpooifggofiaaB16Mp
import Derived.RangeFuncNested
namespace Go.Proofs.Ytilpooifggofiaa.D
open Go.RowKit K
set_option linter.unusedVariables false

/-- in which field row c lies -/
def fld : Nat → Nat
  | 0 => 0
  | c + 1 => c + 2
/-- the finding in block C, its map in block M: rows of L, S, F; the map knows of Lm -/
structure Fnd (B0 : Nat) (K : Nat → Prop) (C M : Nat) (r : Ru) (v : Nat → Value) (L Lm : List Sx) (S : List Stp) (F : List Nat) (w : World) : Prop where
  cf : ∀ c, c < 3 → w.cell? ⟨C, fld c, none⟩ = some (v c)
  cm : w.cell? ⟨C, 1, none⟩ = some (.map (some M))
  f : ∀ c, c < 4 → w.frozen? ⟨C, c, none⟩ = false
  fam : F3.Fam B0 K v (gn ⟨L, S, F⟩) (gr r ⟨L, S, F⟩) w
  kC : K C
  kM : K M
  map : MapOf w M Lm
  b0 : B0 ≤ C ∧ B0 ≤ M
/-- what has changed: C, M and the rows, and nothing but M that is no row of cells -/
structure Mov (B0 : Nat) (K : Nat → Prop) (C M : Nat) (w w' : World) : Prop where
  oth : ∀ g, K g → g ≠ C → g ≠ M → w'.heap[g]? = w.heap[g]?
  obj : ∀ (g : Nat) (o : Obj), g ≠ M → w.heap[g]? = some o → o.isCells = false → w'.heap[g]? = some o
  bel : Below B0 w w'
theorem Mov.refl (B0 : Nat) (K : Nat → Prop) (C M : Nat) (w : World) : Mov B0 K C M w w := ⟨fun _ _ _ _ => rfl, fun _ _ _ h _ => h, Below.refl _ _⟩
theorem Mov.trans {B0 : Nat} {K : Nat → Prop} {C M : Nat} {w w1 w2 : World} (h : Mov B0 K C M w w1) (k : Mov B0 K C M w1 w2) : Mov B0 K C M w w2 :=
  ⟨fun g h1 h2 h3 => (k.oth g h1 h2 h3).trans (h.oth g h1 h2 h3), fun g o h1 h2 h3 => k.obj g o h1 (h.obj g o h1 h2 h3) h3, h.bel.trans k.bel⟩
theorem Mov.of_below {B0 : Nat} {K : Nat → Prop} {C M : Nat} {w w1 : World} (hK : ∀ g, K g → g < w.heap.size) (hB : B0 ≤ w.heap.size) (b : Below w.heap.size w w1) : Mov B0 K C M w w1 :=
  ⟨fun g h1 _ _ => b.block g (hK g h1), fun g o _ h2 _ => (b.block g (Array.getElem?_eq_some_iff.1 h2).1).trans h2, b.mono hB⟩
theorem Mov.less {B0 : Nat} {K K' : Nat → Prop} {C M : Nat} {w w1 : World} (h : Mov B0 K C M w w1) (hk : ∀ g, K' g → K g) : Mov B0 K' C M w w1 := ⟨fun g h1 => h.oth g (hk g h1), h.obj, h.bel⟩

section
variable {B0 : Nat} {K : Nat → Prop} {C M : Nat} {r : Ru} {v : Nat → Value} {L Lm : List Sx} {S : List Stp} {F : List Nat} {w w' : World}
theorem Fnd.kept (h : Fnd B0 K C M r v L Lm S F w) (b : Below w.heap.size w w') : Fnd B0 K C M r v L Lm S F w' := by
  have hC : C < w.heap.size := block_lt h.cm
  exact ⟨fun c hc => (b.cell (p := ⟨C, fld c, none⟩) hC).trans (h.cf c hc), (b.cell (p := ⟨C, 1, none⟩) hC).trans h.cm, fun c hc => (b.frozen (p := ⟨C, c, none⟩) hC).trans (h.f c hc), h.fam.kept b, h.kC, h.kM, h.map.same (b.block M h.map.lt), h.b0⟩
theorem Fnd.alloc (h : Fnd B0 K C M r v L Lm S F w) (o : Obj) : Fnd B0 (fun g => K g ∨ g = w.heap.size) C M r v L Lm S F (w.alloc o) :=
  have k := h.kept (balloc (Below.refl _ _) o)
  ⟨k.cf, k.cm, k.f, h.fam.alloc o, .inl k.kC, .inl k.kM, k.map, k.b0⟩
theorem Fnd.less {K' : Nat → Prop} (h : Fnd B0 K C M r v L Lm S F w) (hk : ∀ g, K' g → K g) (h1 : K' C) (h2 : K' M) : Fnd B0 K' C M r v L Lm S F w :=
  ⟨h.cf, h.cm, h.f, h.fam.less hk, h1, h2, h.map, h.b0⟩
theorem Fnd.drew (h : Fnd B0 K C M r v L Lm S F w) : Fnd B0 K C M r v L Lm S F w.drew := h.kept (Below.drew (Below.refl _ _))
theorem Fnd.apart (h : Fnd B0 K C M r v L Lm S F w) : C ≠ M := fun e => by
  obtain ⟨es, cl, q⟩ := h.map.obj
  have := h.cm
  rw [e] at this
  simp [World.cell?, q] at this
/-- a block of K that is neither is written -/
theorem Fnd.put (h : Fnd B0 K C M r v L Lm S F w) {p : Addr} (hp : K p.block) (h1 : p.block ≠ C) (h2 : p.block ≠ M) (x : Value) : Fnd B0 K C M r v L Lm S F (w.setCell p x) :=
  ⟨fun c hc => (World.cell?_setCell_other _ _ _ _ (fun q => h1 (by rw [q]))).trans (h.cf c hc), (World.cell?_setCell_other _ _ _ _ (fun q => h1 (by rw [q]))).trans h.cm, fun c hc => (World.frozen?_setCell _ _ _ _).trans (h.f c hc), h.fam.put hp x, h.kC, h.kM, h.map.same (Below.heap_setCell _ _ _ _ (fun e => h2 e.symm)), h.b0⟩
theorem fld_inj {c d : Nat} (hc : c < 3) (hd : d < 3) (h : fld c = fld d) : c = d := by
  rcases (show c = 0 ∨ c = 1 ∨ c = 2 by omega) with rfl | rfl | rfl <;> rcases (show d = 0 ∨ d = 1 ∨ d = 2 by omega) with rfl | rfl | rfl <;> simp [fld] at h ⊢
theorem fld_ne {c : Nat} (hc : c < 3) : fld c ≠ 1 ∧ fld c < 4 := by
  rcases (show c = 0 ∨ c = 1 ∨ c = 2 by omega) with rfl | rfl | rfl <;> simp [fld]
theorem cells_at {w : World} {a : Addr} {x : Value} {o : Obj} (h : w.cell? a = some x) (ho : w.heap[a.block]? = some o) (hc : o.isCells = false) : False := by
  unfold World.cell? at h
  rw [ho] at h
  cases o with
  | cells cs t fr => cases hc
  | _ => cases h
/-- ROW c GROWS BY ONE -/
theorem Fnd.app (h : Fnd B0 K C M r v L Lm S F w) {c : Nat} (hc : c < 3) (hn : gn ⟨L, S, F⟩ c + 1 ≤ 1048576) {news : List Value} (hl : news.length = F3.fsz c) (h1 : ∀ u ∈ news, u.oneCell' = true) (ty : Nat) {L' : List Sx} {S' : List Stp} {F' : List Nat}
    (hg : ∀ d, d < 3 → gn ⟨L', S', F'⟩ d = up (gn ⟨L, S, F⟩) c (gn ⟨L, S, F⟩ c + 1) d ∧ gr r ⟨L', S', F'⟩ d = up (gr r ⟨L, S, F⟩) c (gr r ⟨L, S, F⟩ c ++ news) d) :
    ∃ g cap w2, (Builtin.append_ #[F3.fsl c, F3.fsl c] ty #[v c, .slice (some ⟨w.heap.size, 0, none⟩) 1 1]).run Try.prog (w.alloc (.cells news.toArray (F3.fty c))) = .ok (.slice (some ⟨g, 0, none⟩) (gn ⟨L, S, F⟩ c + 1) cap) w2 ∧ w2.cell? ⟨C, fld c, none⟩ = some (v c) ∧ w2.frozen? ⟨C, fld c, none⟩ = false ∧
      Fnd B0 K C M r (up v c (.slice (some ⟨g, 0, none⟩) (gn ⟨L, S, F⟩ c + 1) cap)) L' Lm S' F' (w2.setCell ⟨C, fld c, none⟩ (.slice (some ⟨g, 0, none⟩) (gn ⟨L, S, F⟩ c + 1) cap)) ∧
      Mov B0 K C M w (w2.setCell ⟨C, fld c, none⟩ (.slice (some ⟨g, 0, none⟩) (gn ⟨L, S, F⟩ c + 1) cap)) ∧ (∀ g, K g → w2.heap[g]? = w.heap[g]?) := by
  have k := h.alloc (.cells news.toArray (F3.fty c))
  have hb : (w.alloc (.cells news.toArray (F3.fty c))).heap[w.heap.size]? = some (.cells news.toArray (F3.fty c) (0, 0)) := by show (w.heap.push _)[w.heap.size]? = _; simp
  obtain ⟨g, cap, w2, hr, hF, hK, hgr⟩ := k.fam.append hc hn hb hl h1 ty
  have bA : Below w.heap.size w (w.alloc (.cells news.toArray (F3.fty c))) := balloc (Below.refl _ _) _
  have hKw : ∀ g, K g → g < w.heap.size := fun g hg => (h.fam.kb g hg).1
  have hsame : ∀ g, K g → w2.heap[g]? = w.heap[g]? := fun g hg => (hK g (.inl hg)).trans (bA.block g (hKw g hg))
  have hC := hsame C h.kC
  have hsz : w.heap.size ≤ w2.heap.size := Nat.le_trans bA.size hgr.size
  obtain ⟨hf1, hf4⟩ := fld_ne hc
  have cc : ∀ d, d < 3 → w2.cell? ⟨C, fld d, none⟩ = some (v d) := fun d hd => (World.cell?_of_block (a := ⟨C, fld d, none⟩) hC).trans (h.cf d hd)
  have ff : ∀ d, d < 4 → w2.frozen? ⟨C, d, none⟩ = false := fun d hd => (World.frozen?_of_block (a := ⟨C, d, none⟩) hC).trans (h.f d hd)
  have hne := h.apart
  have hmv : Mov B0 K C M w w2 := by
    refine ⟨fun g hg _ _ => hsame g hg, fun g o hg ho hoc => ?_, ?_⟩
    · have hlt := (Array.getElem?_eq_some_iff.1 ho).1
      have hA := (bA.block g hlt).trans ho
      refine (hgr.block g (Nat.lt_of_lt_of_le hlt bA.size) (fun q => ?_)).trans hA
      obtain ⟨o', q1, q2⟩ := k.fam.cells hc q.symm
      rw [hA] at q1; injection q1 with q1; subst q1; rw [q2] at hoc; cases hoc
    · exact Below.grown (bA.mono h.fam.sz) hgr (Nat.le_trans h.fam.sz bA.size) (fun q hq => ((k.fam.own c hc).lt q hq).1)
  refine ⟨g, cap, w2, hr, cc c hc, ff _ hf4, ?_, hmv.trans ?_, hsame⟩
  · refine ⟨fun d hd => ?_, ?_, fun d hd => (World.frozen?_setCell _ _ _ _).trans (ff d hd), ?_, h.kC, h.kM, ?_, h.b0⟩
    · by_cases e : d = c
      · subst e; rw [up_at]; exact World.cell?_setCell_same _ _ _ (cc d hd)
      · rw [up_ne _ _ _ e, World.cell?_setCell_other _ _ _ _ (fun q => e (fld_inj hd hc (congrArg Addr.off q).symm))]; exact cc d hd
    · rw [World.cell?_setCell_other _ _ _ _ (fun q => hf1 (congrArg Addr.off q))]
      exact (World.cell?_of_block (a := ⟨C, 1, none⟩) hC).trans h.cm
    · refine ((hF.put (p := ⟨C, fld c, none⟩) (.inl h.kC) _).less (K' := K) fun g hg => .inl hg).ext fun d hd => ⟨rfl, (hg d hd).1, (hg d hd).2⟩
    · refine h.map.same ((Below.heap_setCell _ _ _ _ ?_).trans (hsame M h.kM))
      exact fun e => hne e.symm
  · refine ⟨fun g hg q1 q2 => Below.heap_setCell _ _ _ _ (by exact q1), fun g o q1 q2 q3 => ?_, ?_⟩
    · refine (Below.heap_setCell _ _ _ _ ?_).trans q2
      intro e
      have e : g = C := e
      subst e
      exact cells_at (cc c hc) q2 q3
    · exact Below.setCell (Below.refl _ _) (p := ⟨C, fld c, none⟩) h.b0.1 _
/-- THE MAP HEARS OF ONE STATE MORE -/
theorem Fnd.store (h : Fnd B0 K C M r v L Lm S F w) {x : Sx} (hx : okS x) (hn : x ∉ Lm) (hl : Lm.length ≤ 1048576) :
    ∃ w', (Instr.mapUpdate 69 (.map (some M)) (aS x) (.int .i64 (Lm.length : Int))).run Try.prog w = .ok () w' ∧ Fnd B0 K C M r v L (Lm ++ [x]) S F w' ∧ Mov B0 K C M w w' := by
  obtain ⟨w', hr, hM, hg, hsz⟩ := h.map.store hx hn hl
  have hne := h.apart
  have blk : ∀ g, g < w.heap.size → g ≠ M → w'.heap[g]? = w.heap[g]? := fun g h1 h2 => hg.block g h1 (fun q => h2 (by injection q))
  have hC : C < w.heap.size := block_lt h.cm
  have eC := blk C hC hne
  refine ⟨w', hr, ⟨fun c hc => (World.cell?_of_block (a := ⟨C, fld c, none⟩) eC).trans (h.cf c hc), (World.cell?_of_block (a := ⟨C, 1, none⟩) eC).trans h.cm, fun c hc => (World.frozen?_of_block (a := ⟨C, c, none⟩) eC).trans (h.f c hc), ?_, h.kC, h.kM, hM, h.b0⟩, ?_⟩
  · exact h.fam.same (fun c hc g hq => blk g ((h.fam.own c hc).lt g hq).2 (fun e => (h.fam.kb M h.kM).2 c hc (by rw [← e]; exact hq))) (by omega)
  · exact ⟨fun g h1 _ h3 => blk g (h.fam.kb g h1).1 h3, fun g o h1 h2 _ => (blk g (Array.getElem?_eq_some_iff.1 h2).1 h1).trans h2, Below.grown (Below.refl _ _) hg h.fam.sz (fun q hq => by cases hq; exact h.b0.2)⟩
end
/-- how the three rows grow -/
theorem gn_state (r : Ru) (L : List Sx) (S : List Stp) (F : List Nat) (y : Sx) : ∀ d, d < 3 → gn ⟨L ++ [y], S, F⟩ d = up (gn ⟨L, S, F⟩) 0 (gn ⟨L, S, F⟩ 0 + 1) d ∧ gr r ⟨L ++ [y], S, F⟩ d = up (gr r ⟨L, S, F⟩) 0 (gr r ⟨L, S, F⟩ 0 ++ cS y) d := by
  intro d hd
  rcases (show d = 0 ∨ d = 1 ∨ d = 2 by omega) with rfl | rfl | rfl
  · exact ⟨by rw [up_at]; simp [gn], by rw [up_at]; simp [gr, flS_append, flS]⟩
  · exact ⟨rfl, rfl⟩
  · exact ⟨rfl, rfl⟩
theorem gn_step (r : Ru) (L : List Sx) (S : List Stp) (F : List Nat) (y : Stp) : ∀ d, d < 3 → gn ⟨L, S ++ [y], F⟩ d = up (gn ⟨L, S, F⟩) 1 (gn ⟨L, S, F⟩ 1 + 1) d ∧ gr r ⟨L, S ++ [y], F⟩ d = up (gr r ⟨L, S, F⟩) 1 (gr r ⟨L, S, F⟩ 1 ++ cP r y) d := by
  intro d hd
  rcases (show d = 0 ∨ d = 1 ∨ d = 2 by omega) with rfl | rfl | rfl
  · exact ⟨rfl, rfl⟩
  · exact ⟨by rw [up_at]; simp [gn], by rw [up_at]; simp [gr, flP_append, flP]⟩
  · exact ⟨rfl, rfl⟩
theorem gn_first (r : Ru) (L : List Sx) (S : List Stp) (F : List Nat) (n : Nat) : ∀ d, d < 3 → gn ⟨L, S, F ++ [n]⟩ d = up (gn ⟨L, S, F⟩) 2 (gn ⟨L, S, F⟩ 2 + 1) d ∧ gr r ⟨L, S, F ++ [n]⟩ d = up (gr r ⟨L, S, F⟩) 2 (gr r ⟨L, S, F⟩ 2 ++ [.int .i64 (n : Int)]) d := by
  intro d hd
  rcases (show d = 0 ∨ d = 1 ∨ d = 2 by omega) with rfl | rfl | rfl
  · exact ⟨rfl, rfl⟩
  · exact ⟨rfl, rfl⟩
  · exact ⟨by rw [up_at]; simp [gn], by rw [up_at]; simp [gr]⟩

end Go.Proofs.Ytilpooifggofiaa.D
