/- PROVED: the document's own SOf: the region in which a step is taken, and what it brings laid into new blocks, in whatever order. the document's own SOf: the region in which a step is taken, whole. a region that draws its order, whose operations that change memory wait for one another: whatever the order, each yields the same, and the worlds are the same. CONDITIONS: none beyond each theorem's own. -/
import Derived.Test.YtjageagnclmnjabGreatDoorB08SoA
namespace Go.Proofs.YtjageagnclmnjabGreatDoor.D
open Go.RowKit K
set_option linter.unusedVariables false

section
variable {P : Program} {ops : Array Oper} {Q : Exit → Act → World → Prop}
theorem wpOp_call {i : Nat} {o : Oper} {K : Act → World → Prop} {a : Act} {w w1 : World} {f : Nat} {args : Array Value} (ho : ops[i]? = some o) (hg : o.guard = none) (hr : (execOp a.eval o).run P w = .ok (.enter f args) w1) (h : Calls P f args w1 fun e w' => ∃ u, e = .returned u ∧ K (a.put o.dst u) w') : wpOp P ops Q i K a w := by
  unfold wpOp
  have hw : Region.wanted o (yielded ops a.tmps) = true := by simp [Region.wanted, hg]
  simp only [ho, hw, if_true, Oper.wp, hr, Oper.upon]
  refine .inl (Calls.mono h fun e w' ⟨u, he, hk⟩ => ?_)
  subst he
  exact hk
/-- where none may come up, all have come up -/
theorem all_up {L : Array Bool} (hs : L.size = ops.size) (hd : (List.range ops.size).all (fun i => ((ops[i]?).map fun o => o.after.all fun e => !Region.binds .any e || decide (e.on < i)).getD true) = true) (hr : Region.ready .any ops L = []) : ∀ i, i < ops.size → L.getD i false = true := by
  intro i
  induction i using Nat.strongRecOn with
  | _ i ih =>
    intro hi
    cases hl : L.getD i false with
    | true => rfl
    | false =>
      exfalso
      have ho : ops[i]? = some ops[i] := Array.getElem?_eq_getElem hi
      have hmem : i ∈ Region.ready .any ops L := by
        refine mem_ready.2 ⟨?_, ops[i], ho, fun e he hb => ?_⟩
        · rw [Array.getD_eq_getD_getElem?, Array.getElem?_eq_getElem (by omega)] at hl ⊢
          exact hl
        · have h1 := List.all_eq_true.1 hd i (List.mem_range.2 hi)
          rw [ho] at h1
          have h2 : ops[i].after.all (fun e => !Region.binds .any e || decide (e.on < i)) = true := h1
          have h3 : e.on < i := by
            have h4 := Array.all_eq_true'.1 h2 e he
            rw [hb] at h4
            simpa using h4
          exact ih e.on h3 (by omega)
      rw [hr] at hmem; cases hmem
end

theorem below_set {B N o : Nat} {w v : World} (h : Below B w v) (hN : B ≤ N) (x : Value) : Below B w (v.setCell ⟨N, o, none⟩ x) := Below.setCell h hN x
section
variable {ev : Operand → Value} {w : World}
theorem eb_rules {o : Oper} {R s : Nat} {r : Ru} (ho : o.op = .load 69 (.tmp s)) (h : ev (.tmp s) = .pointer (some ⟨R, 0, none⟩)) (hR : Rul w R r.k0 r.k1 r.r r.m r.j) : (execOp ev o).run Tryz.prog w = .ok (.value (.agg #[.int .i64 r.k0, .int .i64 r.k1, .int .i64 r.r, .int .i64 r.m, .int .i64 r.j])) w := by
  obtain ⟨x0, x1, x2, x3, x4, _⟩ := hR
  simp [execOp, ho, h, go_sem, x0, x1, x2, x3, x4]
theorem eb_ld25 {o : Oper} {C s : Nat} {x : Value} (ho : o.op = .load 115 (.tmp s)) (h : ev (.tmp s) = .pointer (some ⟨C, 0, none⟩)) (hx : w.cell? ⟨C, 0, none⟩ = some x) : (execOp ev o).run Tryz.prog w = .ok (.value x) w := by
  simp [execOp, ho, h, go_sem, hx]
theorem eb_ix {o : Oper} {g n cp s x k : Nat} (ho : o.op = .indexAddr 115 (.tmp s) (.tmp x)) (h : ev (.tmp s) = .slice (some ⟨g, 0, none⟩) n cp) (hx : ev (.tmp x) = .int .i64 (k : Int)) (hk : (k : Int) < (n : Int)) : (execOp ev o).run Tryz.prog w = .ok (.value (.pointer (some ⟨g, k * 14, none⟩))) w := by
  have h1 : k < n := by omega
  simp [execOp, ho, h, hx, go_sem, h1]
theorem eb_state {o : Oper} {g p x : Nat} {s : Sx} (ho : o.op = .load 147 (.tmp x)) (h : ev (.tmp x) = .pointer (some ⟨g, p, none⟩)) (hs : Sat w g p s) : (execOp ev o).run Tryz.prog w = .ok (.value (.agg #[.int .i64 s.f0.k, .int .i64 s.f0.n, .int .i64 s.f0.b, .int .i64 s.f0.a, .int .i64 s.f0.s, .int .i64 s.f0.q, .int .i64 s.f1.k, .int .i64 s.f1.n, .int .i64 s.f1.b, .int .i64 s.f1.a, .int .i64 s.f1.s, .int .i64 s.f1.q, .int .i64 s.w0, .int .i64 s.w1])) w := by
  obtain ⟨x0, x1, x2, x3, x4, x5, x6, x7, x8, x9, x10, x11, x12, x13⟩ := hs
  simp [execOp, ho, h, go_sem, x0, x1, x2, x3, x4, x5, x6, x7, x8, x9, x10, x11, x12, x13]
theorem eb_call {o : Oper} {f s1 s2 s3 : Nat} {v1 v2 v3 : Value} {ts : Array TypeId} (ho : o.op = .call { callee := .value (.func f), args := #[.tmp s1, .tmp s2, .tmp s3], argTypes := ts }) (hf : ev (.func f) = .func (.func f) #[] #[]) (h1 : ev (.tmp s1) = v1) (h2 : ev (.tmp s2) = v2) (h3 : ev (.tmp s3) = v3) (hc : (callFunc f #[v1, v2, v3]).run Tryz.prog w = .ok (.enter f #[v1, v2, v3]) w) : (execOp ev o).run Tryz.prog w = .ok (.enter f #[v1, v2, v3]) w := by
  simp [execOp, ho, h1, h2, h3, hf, go_sem, hc]
theorem eb_ext {o : Oper} {s i : Nat} {vs : Array Value} {x : Value} (ho : o.op = .extract (.tmp s) i) (h : ev (.tmp s) = .tuple vs) (hx : vs[i]? = some x) : (execOp ev o).run Tryz.prog w = .ok (.value x) w := by
  simp [execOp, ho, h, go_sem, hx]
theorem eb_al48 {o : Oper} (ho : o.op = .alloc 147) : (execOp ev o).run Tryz.prog w = .ok (.value (.pointer (some ⟨w.heap.size, 0, none⟩))) (w.alloc (.cells #[.int .i64 0, .int .i64 0, .int .i64 0, .int .i64 0, .int .i64 0, .int .i64 0, .int .i64 0, .int .i64 0, .int .i64 0, .int .i64 0, .int .i64 0, .int .i64 0, .int .i64 0, .int .i64 0] 147)) := by
  simp [execOp, ho, go_sem]
theorem eb_al62 {o : Oper} (ho : o.op = .alloc 155) : (execOp ev o).run Tryz.prog w = .ok (.value (.pointer (some ⟨w.heap.size, 0, none⟩))) (w.alloc (.cells #[.int .i64 0, .int .i64 0, .int .i64 0, .int .i64 0, .int .i64 0, .int .i64 0] 155)) := by
  simp [execOp, ho, go_sem]
theorem eb_as {o : Oper} {s : Nat} {x : Value} (ho : o.op = .assign (.tmp s)) (h : ev (.tmp s) = x) : (execOp ev o).run Tryz.prog w = .ok (.value x) w := by
  simp [execOp, ho, h, go_sem]
theorem eb_st48 {o : Oper} {N s x : Nat} {s' : Sx} (ho : o.op = .store 147 (.tmp s) (.tmp x)) (h : ev (.tmp s) = .pointer (some ⟨N, 0, none⟩)) (hx : ev (.tmp x) = .agg #[.int .i64 s'.f0.k, .int .i64 s'.f0.n, .int .i64 s'.f0.b, .int .i64 s'.f0.a, .int .i64 s'.f0.s, .int .i64 s'.f0.q, .int .i64 s'.f1.k, .int .i64 s'.f1.n, .int .i64 s'.f1.b, .int .i64 s'.f1.a, .int .i64 s'.f1.s, .int .i64 s'.f1.q, .int .i64 s'.w0, .int .i64 s'.w1]) (hN : Sta w N 0 0 0 0 0 0 0 0 0 0 0 0 0 0) : ∃ w', (execOp ev o).run Tryz.prog w = .ok .skip w' ∧ Sta w' N s'.f0.k s'.f0.n s'.f0.b s'.f0.a s'.f0.s s'.f0.q s'.f1.k s'.f1.n s'.f1.b s'.f1.a s'.f1.s s'.f1.q s'.w0 s'.w1 ∧ w'.heap.size = w.heap.size ∧ (∀ g, g ≠ N → w'.heap[g]? = w.heap[g]?) ∧ Below N w w' := by
  have hp := hN.put s'.f0.k s'.f0.n s'.f0.b s'.f0.a s'.f0.s s'.f0.q s'.f1.k s'.f1.n s'.f1.b s'.f1.a s'.f1.s s'.f1.q s'.w0 s'.w1
  refine ⟨_, ?_, hp, by simp, fun g hg => ?_, ?_⟩
  · obtain ⟨x0, x1, x2, x3, x4, x5, x6, x7, x8, x9, x10, x11, x12, x13, f0, f1, f2, f3, f4, f5, f6, f7, f8, f9, f10, f11, f12, f13⟩ := hN
    simp [execOp, ho, h, hx, go_sem, x0, x1, x2, x3, x4, x5, x6, x7, x8, x9, x10, x11, x12, x13, f0, f1, f2, f3, f4, f5, f6, f7, f8, f9, f10, f11, f12, f13]
  · repeat rw [Below.heap_setCell _ _ _ _ (by exact hg)]
  · exact below_set (below_set (below_set (below_set (below_set (below_set (below_set (below_set (below_set (below_set (below_set (below_set (below_set (below_set (Below.refl _ _) (Nat.le_refl _) _) (Nat.le_refl _) _) (Nat.le_refl _) _) (Nat.le_refl _) _) (Nat.le_refl _) _) (Nat.le_refl _) _) (Nat.le_refl _) _) (Nat.le_refl _) _) (Nat.le_refl _) _) (Nat.le_refl _) _) (Nat.le_refl _) _) (Nat.le_refl _) _) (Nat.le_refl _) _) (Nat.le_refl _) _
theorem eb_st62 {o : Oper} {N s x : Nat} {r' : Rx} (ho : o.op = .store 155 (.tmp s) (.tmp x)) (h : ev (.tmp s) = .pointer (some ⟨N, 0, none⟩)) (hx : ev (.tmp x) = .agg #[.int .i64 r'.s0, .int .i64 r'.s1, .int .i64 r'.c0, .int .i64 r'.c1, .int .i64 r'.l0, .int .i64 r'.l1]) (hN : Rnd w N 0 0 0 0 0 0) : ∃ w', (execOp ev o).run Tryz.prog w = .ok .skip w' ∧ Rnd w' N r'.s0 r'.s1 r'.c0 r'.c1 r'.l0 r'.l1 ∧ w'.heap.size = w.heap.size ∧ (∀ g, g ≠ N → w'.heap[g]? = w.heap[g]?) ∧ Below N w w' := by
  have hp := hN.put r'.s0 r'.s1 r'.c0 r'.c1 r'.l0 r'.l1
  refine ⟨_, ?_, hp, by simp, fun g hg => ?_, ?_⟩
  · obtain ⟨x0, x1, x2, x3, x4, x5, f0, f1, f2, f3, f4, f5⟩ := hN
    simp [execOp, ho, h, hx, go_sem, x0, x1, x2, x3, x4, x5, f0, f1, f2, f3, f4, f5]
  · repeat rw [Below.heap_setCell _ _ _ _ (by exact hg)]
  · exact below_set (below_set (below_set (below_set (below_set (below_set (Below.refl _ _) (Nat.le_refl _) _) (Nat.le_refl _) _) (Nat.le_refl _) _) (Nat.le_refl _) _) (Nat.le_refl _) _) (Nat.le_refl _) _
end

theorem Sta.block {w w' : World} {C : Nat} {v0 v1 v2 v3 v4 v5 v6 v7 v8 v9 v10 v11 v12 v13 : Int} (h : Sta w C v0 v1 v2 v3 v4 v5 v6 v7 v8 v9 v10 v11 v12 v13) (e : w'.heap[C]? = w.heap[C]?) : Sta w' C v0 v1 v2 v3 v4 v5 v6 v7 v8 v9 v10 v11 v12 v13 :=
  h.same (fun o => World.cell?_of_block (a := ⟨C, o, none⟩) e) (fun o => World.frozen?_of_block (a := ⟨C, o, none⟩) e)
theorem rnd_block {w w' : World} {C : Nat} {a b c d e f : Int} (h : Rnd w C a b c d e f) (q : w'.heap[C]? = w.heap[C]?) : Rnd w' C a b c d e f :=
  ⟨(World.cell?_of_block (a := ⟨C, 0, none⟩) q).trans h.c0, (World.cell?_of_block (a := ⟨C, 1, none⟩) q).trans h.c1, (World.cell?_of_block (a := ⟨C, 2, none⟩) q).trans h.c2, (World.cell?_of_block (a := ⟨C, 3, none⟩) q).trans h.c3, (World.cell?_of_block (a := ⟨C, 4, none⟩) q).trans h.c4, (World.cell?_of_block (a := ⟨C, 5, none⟩) q).trans h.c5,
   (World.frozen?_of_block (a := ⟨C, 0, none⟩) q).trans h.f0, (World.frozen?_of_block (a := ⟨C, 1, none⟩) q).trans h.f1, (World.frozen?_of_block (a := ⟨C, 2, none⟩) q).trans h.f2, (World.frozen?_of_block (a := ⟨C, 3, none⟩) q).trans h.f3, (World.frozen?_of_block (a := ⟨C, 4, none⟩) q).trans h.f4, (World.frozen?_of_block (a := ⟨C, 5, none⟩) q).trans h.f5⟩
def v12 (vals : Nat → Value) (Nx Rd : Nat) (i : Nat) : Value := if i = 12 then .pointer (some ⟨Nx, 0, none⟩) else if i = 13 then .pointer (some ⟨Rd, 0, none⟩) else vals i
def y12 (i : Nat) : Prop := i ≠ 14 ∧ i ≠ 15
section
variable {W2 : World} {vals : Nat → Value} {yy : Sx} {rr : Rx} {L : Array Bool} {y : Nat → Value} {Nx Rd : Nat} {w : World}
end

end Go.Proofs.YtjageagnclmnjabGreatDoor.D

namespace Go.Proofs.YtjageagnclmnjabGreatDoor.D
set_option maxRecDepth 100000
open Go.RowKit K
set_option linter.unusedVariables false

section
variable {P : Program} {ops : Array Oper} {Q : Exit → Act → World → Prop}
/-- operations, by what they do and where they leave it -/
def looks (ops : Array Oper) (O : List (Op × Option Nat)) : Prop := ops.toList.map (fun o => (o.op, o.dst, o.guard)) = O.map fun t => (t.1, t.2, none)
theorem looks_at {O : List (Op × Option Nat)} (h : looks ops O) {i : Nat} {t : Op × Option Nat} (hi : O[i]? = some t) : ∃ o, ops[i]? = some o ∧ o.op = t.1 ∧ o.dst = t.2 ∧ o.guard = none := by
  have e : (ops.toList.map (fun o => (o.op, o.dst, o.guard)))[i]? = some (t.1, t.2, none) := by rw [h, List.getElem?_map, hi]; rfl
  rw [List.getElem?_map] at e
  cases ho : ops.toList[i]? with
  | none => rw [ho] at e; cases e
  | some o =>
    rw [ho] at e
    injection e with e
    injection e with e1 e2
    injection e2 with e2 e3
    exact ⟨o, by simpa using ho, e1, e2, e3⟩
theorem looks_size {O : List (Op × Option Nat)} (h : looks ops O) : ops.size = O.length := by
  have := congrArg List.length h
  simpa using this
/-- what each waits for -/
def waits (ops : Array Oper) (D : List (List Nat)) : Bool := (ops.toList.zip D).all fun p => p.2.all fun d => p.1.after.any fun e => e.on == d && Region.binds .any e
theorem waits_at {D : List (List Nat)} (h : waits ops D = true) {L : Array Bool} {i : Nat} (hr : i ∈ Region.ready .any ops L) {l : List Nat} (hi : D[i]? = some l) : L.getD i true = false ∧ ∀ d ∈ l, L.getD d false = true := by
  obtain ⟨h0, o, ho, hall⟩ := mem_ready.1 hr
  refine ⟨h0, fun d hd => ?_⟩
  have hz : (ops.toList.zip D)[i]? = some (o, l) := by
    rw [List.getElem?_zip_eq_some]
    exact ⟨by simpa using ho, hi⟩
  have h1 := List.all_eq_true.1 h (o, l) (List.mem_of_getElem? hz)
  have h2 := List.all_eq_true.1 h1 d hd
  obtain ⟨e, he, h3⟩ := Array.any_eq_true'.1 h2
  simp only [Bool.and_eq_true, beq_iff_eq] at h3
  have := hall e he h3.2
  rw [h3.1] at this
  exact this
theorem not_yet {L : Array Bool} {i : Nat} (hs : i < L.size) (h : L.getD i true = false) : L.getD i false = false := by
  rw [Array.getD_eq_getD_getElem?, Array.getElem?_eq_getElem hs] at h ⊢
  exact h
theorem wp_region_slots {id : Nat} {a0 : Act} {w : World} (hm : P.follows .mixedOrders = true) (l : List Nat) (J : Array Bool → (Nat → Value) → World → Prop) (h0 : J (Array.replicate ops.size false) (fun s => a0.tmps.getD s undef) w.drew)
    (hstep : ∀ L y w', J L y w' → ∀ i, i ∈ Region.ready .any ops L → wpOp P ops Q i (fun a' w'' => ∃ y', a' = tA a0 l y' ∧ J (L.setIfInBounds i true) y' w'') (tA a0 l y) w')
    (hend : ∀ L y w', J L y w' → Region.ready .any ops L = [] → Q .normal (tA a0 l y) w') : (Code.region id ops true).wp P Q a0 w := by
  refine wp_region_inv hm (fun L a w' => ∃ y, a = tA a0 l y ∧ J L y w') ⟨_, tA_id a0 l, h0⟩ (fun L a w' ⟨y, ha, hJ⟩ i hi => ?_) (fun L a w' ⟨y, ha, hJ⟩ hr => ?_)
  · subst ha; exact hstep L y w' hJ i hi
  · subst ha; exact hend L y w' hJ hr
end

end Go.Proofs.YtjageagnclmnjabGreatDoor.D

namespace Go.Proofs.YtjageagnclmnjabGreatDoor.D
set_option maxRecDepth 100000
open Go.RowKit K
set_option linter.unusedVariables false

/-- the slots that are written -/
def slotsOf (O : List (Op × Option Nat)) : List Nat := O.filterMap Prod.snd
/-- where operation i leaves what it yields -/
def slotAt (O : List (Op × Option Nat)) (i : Nat) : Option Nat := (O[i]?).bind Prod.snd
def chk (O : List (Op × Option Nat)) (D Tr : List (List Nat)) (ch : List Nat) : Bool :=
  ((List.range O.length).all fun i => (List.range O.length).all fun j => i == j || slotAt O i == none || slotAt O i != slotAt O j) &&
  ((List.range O.length).all fun i => (Tr.getD i []).all fun j => (D.getD i []).contains j || (D.getD i []).any fun d => (Tr.getD d []).contains j) &&
  ((List.range ch.length).all fun q => (List.range q).all fun p => (Tr.getD (ch.getD q 0) []).contains (ch.getD p 0)) &&
  (ch.all fun c => c < O.length) && decide (D.length = O.length) && decide ch.Nodup
theorem slot_mem {O : List (Op × Option Nat)} {i s : Nat} (h : slotAt O i = some s) : s ∈ slotsOf O := by
  unfold slotAt at h
  cases hi : O[i]? with
  | none => rw [hi] at h; cases h
  | some t =>
    rw [hi] at h
    exact List.mem_filterMap.2 ⟨t, List.mem_of_getElem? hi, h⟩
section
variable {P : Program} {ops : Array Oper} {Q : Exit → Act → World → Prop}
structure Cj (N : Nat) (O : List (Op × Option Nat)) (Tr : List (List Nat)) (ch : List Nat) (val : Nat → Value) (Ws : Nat → World) (L : Array Bool) (y : Nat → Value) (w : World) : Prop where
  ls : L.size = N
  sl : ∀ i s, slotAt O i = some s → L.getD i false = true → y s = val i
  dn : ∀ i, L.getD i false = true → ∀ j ∈ Tr.getD i [], L.getD j false = true
  ph : ∃ p, p ≤ ch.length ∧ (∀ q c, ch[q]? = some c → (L.getD c false = true ↔ q < p)) ∧ w = Ws p
/-- THE CHAIN -/
theorem wp_region_chain {O : List (Op × Option Nat)} (ho : looks ops O) {D : List (List Nat)} (hd : waits ops D = true) (hor : (List.range ops.size).all (fun i => ((ops[i]?).map fun o => o.after.all fun e => !Region.binds .any e || decide (e.on < i)).getD true) = true) {id : Nat} {a0 : Act} {W : World} (hm : P.follows .mixedOrders = true)
    (Tr : List (List Nat)) (ch : List Nat) (hck : chk O D Tr ch = true) (hz : ∀ s ∈ slotsOf O, s < a0.tmps.size) (val : Nat → Value) (Ws : Nat → World) (hW : Ws 0 = W.drew)
    (hs : ∀ i o, ops[i]? = some o → i < O.length → o.guard = none → ∀ t, O[i]? = some t → o.op = t.1 → o.dst = t.2 → ∀ p, p ≤ ch.length → (∀ q c, ch[q]? = some c → c ∈ Tr.getD i [] → q < p) → (∀ q c, ch[q]? = some c → i ∈ Tr.getD c [] → p ≤ q) → (∀ q, ch[q]? = some i → q = p) →
      ∀ a : Act, (∀ s, s ∉ slotsOf O → a.eval (.tmp s) = a0.eval (.tmp s)) → (∀ j s, j ∈ D.getD i [] → slotAt O j = some s → a.eval (.tmp s) = val j) →
        (t.2.isSome = true ∧ (execOp a.eval o).run P (Ws p) = .ok (.value (val i)) (Ws (if i ∈ ch then p + 1 else p))) ∨ (t.2 = none ∧ (execOp a.eval o).run P (Ws p) = .ok .skip (Ws (if i ∈ ch then p + 1 else p))))
    (hQ : ∀ y, (∀ i s, slotAt O i = some s → y s = val i) → Q .normal (tA a0 (slotsOf O) y) (Ws ch.length)) : (Code.region id ops true).wp P Q a0 W := by
  have hN : ops.size = O.length := looks_size ho
  unfold chk at hck
  simp only [Bool.and_eq_true, List.all_eq_true, List.mem_range, Bool.or_eq_true, beq_iff_eq, bne_iff_ne, List.any_eq_true, List.contains_iff_mem, decide_eq_true_eq] at hck
  obtain ⟨⟨⟨⟨⟨k1, k2⟩, k3⟩, k4⟩, k5⟩, k6⟩ := hck
  have chAt : ∀ q c, ch[q]? = some c → ch.getD q 0 = c ∧ q < ch.length := fun q c h => ⟨by rw [List.getD_eq_getElem?_getD, h]; rfl, (List.getElem?_eq_some_iff.1 h).1⟩
  have sdiff : ∀ i j s, i < O.length → j < O.length → i ≠ j → slotAt O i = some s → slotAt O j ≠ some s := fun i j s hi hj hne h1 h2 => by
    rcases k1 i hi j hj with (q | q) | q
    · exact hne q
    · rw [h1] at q; cases q
    · exact q (h1.trans h2.symm)
  have inL : ∀ {L : Array Bool} {i : Nat}, L.size = ops.size → L.getD i false = true → i < O.length := fun {L i} hL h => by
    rcases Nat.lt_or_ge i O.length with q | q
    · exact q
    · rw [Array.getD_eq_getD_getElem?, Array.getElem?_eq_none (by omega)] at h; cases h
  refine wp_region_slots hm (slotsOf O) (fun L y w' => Cj ops.size O Tr ch val Ws L y w') ?_ ?_ ?_
  · have f : ∀ i, (Array.replicate ops.size false).getD i false = false := fun i => by
      rw [Array.getD_eq_getD_getElem?, Array.getElem?_replicate]
      split <;> rfl
    refine ⟨by simp, fun i s _ h => ?_, fun i h => ?_, 0, Nat.zero_le _, fun q c _ => ?_, hW.symm⟩
    · rw [f] at h; cases h
    · rw [f] at h; cases h
    · rw [f]; simp
  · intro L y w' hG i hi
    obtain ⟨p, hp, hph, rfl⟩ := hG.ph
    have hio : i < ops.size := by
      obtain ⟨_, o, q, _⟩ := mem_ready.1 hi
      exact (Array.getElem?_eq_some_iff.1 q).1
    have hiO : i < O.length := by omega
    obtain ⟨t, ht⟩ : ∃ t, O[i]? = some t := ⟨_, List.getElem?_eq_getElem hiO⟩
    obtain ⟨o, h1, h2, h3, h4⟩ := looks_at ho ht
    have hw := waits_at hd hi (l := D.getD i []) (by rw [List.getD_eq_getElem?_getD, List.getElem?_eq_getElem (by omega)]; rfl)
    have hno : L.getD i false = false := not_yet (by rw [hG.ls]; exact hio) hw.1
    have htr : ∀ j ∈ Tr.getD i [], L.getD j false = true := fun j hj => by
      rcases k2 i hiO j hj with q | ⟨d, hd1, hd2⟩
      · exact hw.2 j q
      · exact hG.dn d (hw.2 d hd1) j hd2
    have hz' : i < L.size := by rw [hG.ls]; exact hio
    have got := hs i o h1 hiO h4 t ht h2 h3 p hp (fun q c hq hc => (hph q c hq).1 (htr c hc)) (fun q c hq hc => by
        rcases Nat.lt_or_ge q p with e | e
        · have := hG.dn c ((hph q c hq).2 e) i hc
          rw [hno] at this; cases this
        · exact e) (fun q hq => by
        have a1 : ¬ q < p := fun e => by have := (hph q i hq).2 e; rw [hno] at this; cases this
        rcases Nat.lt_or_ge p q with e | e
        · exfalso
          have hpq : p < ch.length := by have := (chAt q i hq).2; omega
          have hcp : ch[p]? = some ch[p] := List.getElem?_eq_getElem hpq
          have m := k3 q (chAt q i hq).2 p e
          rw [(chAt q i hq).1, (chAt p _ hcp).1] at m
          have := (hph p _ hcp).1 (htr _ m)
          omega
        · omega) (tA a0 (slotsOf O) y) (fun s h => tA_other a0 (slotsOf O) y h) (fun j s hj hsl => by
        rw [tA_slot a0 (slotsOf O) y (slot_mem hsl) (hz s (slot_mem hsl))]
        exact hG.sl j s hsl (hw.2 j hj))
    have hpn : ∃ p', p' ≤ ch.length ∧ (∀ q c, ch[q]? = some c → ((L.setIfInBounds i true).getD c false = true ↔ q < p')) ∧ Ws (if i ∈ ch then p + 1 else p) = Ws p' := by
      by_cases hm' : i ∈ ch
      · obtain ⟨q0, hq0, e0⟩ := List.getElem_of_mem hm'
        have hq0' : ch[q0]? = some i := by rw [List.getElem?_eq_getElem hq0, e0]
        have hq0p : q0 = p := by
          have a1 : ¬ q0 < p := fun e => by have := (hph q0 i hq0').2 e; rw [hno] at this; cases this
          rcases Nat.lt_or_ge p q0 with e | e
          · exfalso
            have hpq : p < ch.length := by omega
            have hcp : ch[p]? = some ch[p] := List.getElem?_eq_getElem hpq
            have m := k3 q0 hq0 p e
            rw [(chAt q0 i hq0').1, (chAt p _ hcp).1] at m
            have := (hph p _ hcp).1 (htr _ m)
            omega
          · omega
        subst hq0p
        refine ⟨q0 + 1, hq0, fun q c hq => ?_, by rw [if_pos hm']⟩
        rw [getD_set hz']
        by_cases e : c = i
        · subst e
          have : q = q0 := by
            have h5 := (List.getElem?_eq_some_iff.1 hq)
            obtain ⟨h5, h6⟩ := h5
            exact (List.getElem_inj k6).1 (h6.trans e0.symm)
          simp [this]
        · rw [if_neg e, hph q c hq]
          have : q ≠ q0 := fun e2 => e (by rw [e2, hq0'] at hq; injection hq with hq; exact hq.symm)
          omega
      · refine ⟨p, hp, fun q c hq => ?_, by rw [if_neg hm']⟩
        rw [getD_set hz', if_neg (fun e => hm' (by rw [← e]; exact List.mem_of_getElem? hq))]
        exact hph q c hq
    have hdn : ∀ j, (L.setIfInBounds i true).getD j false = true → ∀ j' ∈ Tr.getD j [], (L.setIfInBounds i true).getD j' false = true := fun j hj j' hj' => by
      rw [getD_set hz'] at hj ⊢
      by_cases e : j' = i
      · rw [if_pos e]
      · rw [if_neg e]
        by_cases e2 : j = i
        · subst e2; exact htr j' hj'
        · rw [if_neg e2] at hj; exact hG.dn j hj j' hj'
    rcases got with ⟨q1, q2⟩ | ⟨q1, q2⟩
    · obtain ⟨s, hsS⟩ := Option.isSome_iff_exists.1 q1
      have hsl : slotAt O i = some s := by unfold slotAt; rw [ht]; exact hsS
      refine wpOp_value h1 h4 q2 ?_
      rw [h3, hsS]
      refine ⟨_, tA_put a0 (slotsOf O) y (slot_mem hsl) _, by simp [hG.ls], fun j s' hj' hl => ?_, hdn, hpn⟩
      rw [getD_set hz'] at hl
      by_cases e : j = i
      · subst e
        rw [hsl] at hj'; injection hj' with hj'
        subst hj'
        exact up_at _ _ _
      · rw [if_neg e] at hl
        rw [up_ne _ _ _ (fun q => sdiff i j s hiO (inL hG.ls hl) (Ne.symm e) hsl (by rw [← q]; exact hj'))]
        exact hG.sl j s' hj' hl
    · refine wpOp_skip h1 h4 q2 ?_
      rw [h3, q1]
      refine ⟨y, rfl, by simp [hG.ls], fun j s' hj' hl => ?_, hdn, hpn⟩
      rw [getD_set hz'] at hl
      by_cases e : j = i
      · subst e
        unfold slotAt at hj'
        rw [ht] at hj'
        have : t.2 = some s' := hj'
        rw [q1] at this; cases this
      · rw [if_neg e] at hl; exact hG.sl j s' hj' hl
  · intro L y w' hG hr
    have al := all_up hG.ls hor hr
    obtain ⟨p, hp, hph, rfl⟩ := hG.ph
    have hpe : p = ch.length := by
      rcases Nat.lt_or_ge p ch.length with e | e
      · have hcp : ch[p]? = some ch[p] := List.getElem?_eq_getElem e
        have := (hph p _ hcp).1 (al _ (by rw [hN]; exact k4 _ (List.getElem_mem e)))
        omega
      · omega
    subst hpe
    refine hQ y fun i s hsl => hG.sl i s hsl (al i ?_)
    rw [hN]
    rcases Nat.lt_or_ge i O.length with q | q
    · exact q
    · unfold slotAt at hsl; rw [List.getElem?_eq_none q] at hsl; cases hsl
end
end Go.Proofs.YtjageagnclmnjabGreatDoor.D
