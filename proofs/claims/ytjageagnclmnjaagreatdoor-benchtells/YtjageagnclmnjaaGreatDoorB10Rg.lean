/- PROVED: the document's own SOf: the region in which a step is taken, and what it brings laid into new blocks, in whatever order. CONDITIONS: none beyond each theorem's own. -/
import Derived.Test.YtjageagnclmnjaaGreatDoorB09SoA
namespace Go.Proofs.YtjageagnclmnjaaGreatDoor.D
open Go.RowKit K
set_option linter.unusedVariables false

section
variable {P : Program} {ops : Array Oper} {Q : Exit → Act → World → Prop}
theorem wpOp_call {i : Nat} {o : Oper} {K : Act → World → Prop} {a : Act} {w w1 : World} {f : Nat} {args : Array Value} (ho : ops[i]? = some o) (hg : o.guard = none) (hr : (execOp a.eval o).run P w = .ok (.enter f args) w1) (h : Calls P f args w1 fun e w' => ∃ u, e = .returned u ∧ K (a.put o.dst u) w') : wpOp P ops Q i K a w := by
  unfold wpOp
  have hw : Region.wanted o (yielded ops a.tmps) = true := by simp [Region.wanted, hg]
  simp only [ho, hw, if_true, Oper.wp, hr, Oper.upon]
  refine .inl (Calls.mono h fun e w' ⟨u, he, hk⟩ => ?_)
  subst he
  exact hk
/-- where none may come up, all have come up -/
theorem all_up {L : Array Bool} (hs : L.size = ops.size) (hd : (List.range ops.size).all (fun i => ((ops[i]?).map fun o => o.after.all fun e => !Region.binds .any e || decide (e.on < i)).getD true) = true) (hr : Region.ready .any ops L = []) : ∀ i, i < ops.size → L.getD i false = true := by
  intro i
  induction i using Nat.strongRecOn with
  | _ i ih =>
    intro hi
    cases hl : L.getD i false with
    | true => rfl
    | false =>
      exfalso
      have ho : ops[i]? = some ops[i] := Array.getElem?_eq_getElem hi
      have hmem : i ∈ Region.ready .any ops L := by
        refine mem_ready.2 ⟨?_, ops[i], ho, fun e he hb => ?_⟩
        · rw [Array.getD_eq_getD_getElem?, Array.getElem?_eq_getElem (by omega)] at hl ⊢
          exact hl
        · have h1 := List.all_eq_true.1 hd i (List.mem_range.2 hi)
          rw [ho] at h1
          have h2 : ops[i].after.all (fun e => !Region.binds .any e || decide (e.on < i)) = true := h1
          have h3 : e.on < i := by
            have h4 := Array.all_eq_true'.1 h2 e he
            rw [hb] at h4
            simpa using h4
          exact ih e.on h3 (by omega)
      rw [hr] at hmem; cases hmem
end

theorem below_set {B N o : Nat} {w v : World} (h : Below B w v) (hN : B ≤ N) (x : Value) : Below B w (v.setCell ⟨N, o, none⟩ x) := Below.setCell h hN x
section
variable {ev : Operand → Value} {w : World}
theorem eb_rules {o : Oper} {R s : Nat} {r : Ru} (ho : o.op = .load 33 (.tmp s)) (h : ev (.tmp s) = .pointer (some ⟨R, 0, none⟩)) (hR : Rul w R r.k0 r.k1 r.r r.m r.j) : (execOp ev o).run Tryz.prog w = .ok (.value (.agg #[.int .i64 r.k0, .int .i64 r.k1, .int .i64 r.r, .int .i64 r.m, .int .i64 r.j])) w := by
  obtain ⟨x0, x1, x2, x3, x4, _⟩ := hR
  simp [execOp, ho, h, go_sem, x0, x1, x2, x3, x4]
theorem eb_fa0 {o : Oper} {C s : Nat} (ho : o.op = .fieldAddr 102 (.tmp s) 0) (h : ev (.tmp s) = .pointer (some ⟨C, 0, none⟩)) : (execOp ev o).run Tryz.prog w = .ok (.value (.pointer (some ⟨C, 0, none⟩))) w := by
  simp [execOp, ho, h, go_sem]
theorem eb_ld25 {o : Oper} {C s : Nat} {x : Value} (ho : o.op = .load 89 (.tmp s)) (h : ev (.tmp s) = .pointer (some ⟨C, 0, none⟩)) (hx : w.cell? ⟨C, 0, none⟩ = some x) : (execOp ev o).run Tryz.prog w = .ok (.value x) w := by
  simp [execOp, ho, h, go_sem, hx]
theorem eb_ix {o : Oper} {g n cp s x k : Nat} (ho : o.op = .indexAddr 89 (.tmp s) (.tmp x)) (h : ev (.tmp s) = .slice (some ⟨g, 0, none⟩) n cp) (hx : ev (.tmp x) = .int .i64 (k : Int)) (hk : (k : Int) < (n : Int)) : (execOp ev o).run Tryz.prog w = .ok (.value (.pointer (some ⟨g, k * 14, none⟩))) w := by
  have h1 : k < n := by omega
  simp [execOp, ho, h, hx, go_sem, h1]
theorem eb_state {o : Oper} {g p x : Nat} {s : Sx} (ho : o.op = .load 45 (.tmp x)) (h : ev (.tmp x) = .pointer (some ⟨g, p, none⟩)) (hs : Sat w g p s) : (execOp ev o).run Tryz.prog w = .ok (.value (.agg #[.int .i64 s.f0.k, .int .i64 s.f0.n, .int .i64 s.f0.b, .int .i64 s.f0.a, .int .i64 s.f0.s, .int .i64 s.f0.q, .int .i64 s.f1.k, .int .i64 s.f1.n, .int .i64 s.f1.b, .int .i64 s.f1.a, .int .i64 s.f1.s, .int .i64 s.f1.q, .int .i64 s.w0, .int .i64 s.w1])) w := by
  obtain ⟨x0, x1, x2, x3, x4, x5, x6, x7, x8, x9, x10, x11, x12, x13⟩ := hs
  simp [execOp, ho, h, go_sem, x0, x1, x2, x3, x4, x5, x6, x7, x8, x9, x10, x11, x12, x13]
theorem eb_call {o : Oper} {f s1 s2 s3 : Nat} {v1 v2 v3 : Value} {ts : Array TypeId} (ho : o.op = .call { callee := .value (.func f), args := #[.tmp s1, .tmp s2, .tmp s3], argTypes := ts }) (hf : ev (.func f) = .func (.func f) #[] #[]) (h1 : ev (.tmp s1) = v1) (h2 : ev (.tmp s2) = v2) (h3 : ev (.tmp s3) = v3) (hc : (callFunc f #[v1, v2, v3]).run Tryz.prog w = .ok (.enter f #[v1, v2, v3]) w) : (execOp ev o).run Tryz.prog w = .ok (.enter f #[v1, v2, v3]) w := by
  simp [execOp, ho, h1, h2, h3, hf, go_sem, hc]
theorem eb_ext {o : Oper} {s i : Nat} {vs : Array Value} {x : Value} (ho : o.op = .extract (.tmp s) i) (h : ev (.tmp s) = .tuple vs) (hx : vs[i]? = some x) : (execOp ev o).run Tryz.prog w = .ok (.value x) w := by
  simp [execOp, ho, h, go_sem, hx]
theorem eb_al48 {o : Oper} (ho : o.op = .alloc 45) : (execOp ev o).run Tryz.prog w = .ok (.value (.pointer (some ⟨w.heap.size, 0, none⟩))) (w.alloc (.cells #[.int .i64 0, .int .i64 0, .int .i64 0, .int .i64 0, .int .i64 0, .int .i64 0, .int .i64 0, .int .i64 0, .int .i64 0, .int .i64 0, .int .i64 0, .int .i64 0, .int .i64 0, .int .i64 0] 45)) := by
  simp [execOp, ho, go_sem]
theorem eb_al62 {o : Oper} (ho : o.op = .alloc 86) : (execOp ev o).run Tryz.prog w = .ok (.value (.pointer (some ⟨w.heap.size, 0, none⟩))) (w.alloc (.cells #[.int .i64 0, .int .i64 0, .int .i64 0, .int .i64 0, .int .i64 0, .int .i64 0] 86)) := by
  simp [execOp, ho, go_sem]
theorem eb_as {o : Oper} {s : Nat} {x : Value} (ho : o.op = .assign (.tmp s)) (h : ev (.tmp s) = x) : (execOp ev o).run Tryz.prog w = .ok (.value x) w := by
  simp [execOp, ho, h, go_sem]
theorem eb_st48 {o : Oper} {N s x : Nat} {s' : Sx} (ho : o.op = .store 45 (.tmp s) (.tmp x)) (h : ev (.tmp s) = .pointer (some ⟨N, 0, none⟩)) (hx : ev (.tmp x) = .agg #[.int .i64 s'.f0.k, .int .i64 s'.f0.n, .int .i64 s'.f0.b, .int .i64 s'.f0.a, .int .i64 s'.f0.s, .int .i64 s'.f0.q, .int .i64 s'.f1.k, .int .i64 s'.f1.n, .int .i64 s'.f1.b, .int .i64 s'.f1.a, .int .i64 s'.f1.s, .int .i64 s'.f1.q, .int .i64 s'.w0, .int .i64 s'.w1]) (hN : Sta w N 0 0 0 0 0 0 0 0 0 0 0 0 0 0) : ∃ w', (execOp ev o).run Tryz.prog w = .ok .skip w' ∧ Sta w' N s'.f0.k s'.f0.n s'.f0.b s'.f0.a s'.f0.s s'.f0.q s'.f1.k s'.f1.n s'.f1.b s'.f1.a s'.f1.s s'.f1.q s'.w0 s'.w1 ∧ w'.heap.size = w.heap.size ∧ (∀ g, g ≠ N → w'.heap[g]? = w.heap[g]?) ∧ Below N w w' := by
  have hp := hN.put s'.f0.k s'.f0.n s'.f0.b s'.f0.a s'.f0.s s'.f0.q s'.f1.k s'.f1.n s'.f1.b s'.f1.a s'.f1.s s'.f1.q s'.w0 s'.w1
  refine ⟨_, ?_, hp, by simp, fun g hg => ?_, ?_⟩
  · obtain ⟨x0, x1, x2, x3, x4, x5, x6, x7, x8, x9, x10, x11, x12, x13, f0, f1, f2, f3, f4, f5, f6, f7, f8, f9, f10, f11, f12, f13⟩ := hN
    simp [execOp, ho, h, hx, go_sem, x0, x1, x2, x3, x4, x5, x6, x7, x8, x9, x10, x11, x12, x13, f0, f1, f2, f3, f4, f5, f6, f7, f8, f9, f10, f11, f12, f13]
  · repeat rw [Below.heap_setCell _ _ _ _ (by exact hg)]
  · exact below_set (below_set (below_set (below_set (below_set (below_set (below_set (below_set (below_set (below_set (below_set (below_set (below_set (below_set (Below.refl _ _) (Nat.le_refl _) _) (Nat.le_refl _) _) (Nat.le_refl _) _) (Nat.le_refl _) _) (Nat.le_refl _) _) (Nat.le_refl _) _) (Nat.le_refl _) _) (Nat.le_refl _) _) (Nat.le_refl _) _) (Nat.le_refl _) _) (Nat.le_refl _) _) (Nat.le_refl _) _) (Nat.le_refl _) _) (Nat.le_refl _) _
theorem eb_st62 {o : Oper} {N s x : Nat} {r' : Rx} (ho : o.op = .store 86 (.tmp s) (.tmp x)) (h : ev (.tmp s) = .pointer (some ⟨N, 0, none⟩)) (hx : ev (.tmp x) = .agg #[.int .i64 r'.s0, .int .i64 r'.s1, .int .i64 r'.c0, .int .i64 r'.c1, .int .i64 r'.l0, .int .i64 r'.l1]) (hN : Rnd w N 0 0 0 0 0 0) : ∃ w', (execOp ev o).run Tryz.prog w = .ok .skip w' ∧ Rnd w' N r'.s0 r'.s1 r'.c0 r'.c1 r'.l0 r'.l1 ∧ w'.heap.size = w.heap.size ∧ (∀ g, g ≠ N → w'.heap[g]? = w.heap[g]?) ∧ Below N w w' := by
  have hp := hN.put r'.s0 r'.s1 r'.c0 r'.c1 r'.l0 r'.l1
  refine ⟨_, ?_, hp, by simp, fun g hg => ?_, ?_⟩
  · obtain ⟨x0, x1, x2, x3, x4, x5, f0, f1, f2, f3, f4, f5⟩ := hN
    simp [execOp, ho, h, hx, go_sem, x0, x1, x2, x3, x4, x5, f0, f1, f2, f3, f4, f5]
  · repeat rw [Below.heap_setCell _ _ _ _ (by exact hg)]
  · exact below_set (below_set (below_set (below_set (below_set (below_set (Below.refl _ _) (Nat.le_refl _) _) (Nat.le_refl _) _) (Nat.le_refl _) _) (Nat.le_refl _) _) (Nat.le_refl _) _) (Nat.le_refl _) _
end

theorem Sta.block {w w' : World} {C : Nat} {v0 v1 v2 v3 v4 v5 v6 v7 v8 v9 v10 v11 v12 v13 : Int} (h : Sta w C v0 v1 v2 v3 v4 v5 v6 v7 v8 v9 v10 v11 v12 v13) (e : w'.heap[C]? = w.heap[C]?) : Sta w' C v0 v1 v2 v3 v4 v5 v6 v7 v8 v9 v10 v11 v12 v13 :=
  h.same (fun o => World.cell?_of_block (a := ⟨C, o, none⟩) e) (fun o => World.frozen?_of_block (a := ⟨C, o, none⟩) e)
theorem rnd_block {w w' : World} {C : Nat} {a b c d e f : Int} (h : Rnd w C a b c d e f) (q : w'.heap[C]? = w.heap[C]?) : Rnd w' C a b c d e f :=
  ⟨(World.cell?_of_block (a := ⟨C, 0, none⟩) q).trans h.c0, (World.cell?_of_block (a := ⟨C, 1, none⟩) q).trans h.c1, (World.cell?_of_block (a := ⟨C, 2, none⟩) q).trans h.c2, (World.cell?_of_block (a := ⟨C, 3, none⟩) q).trans h.c3, (World.cell?_of_block (a := ⟨C, 4, none⟩) q).trans h.c4, (World.cell?_of_block (a := ⟨C, 5, none⟩) q).trans h.c5,
   (World.frozen?_of_block (a := ⟨C, 0, none⟩) q).trans h.f0, (World.frozen?_of_block (a := ⟨C, 1, none⟩) q).trans h.f1, (World.frozen?_of_block (a := ⟨C, 2, none⟩) q).trans h.f2, (World.frozen?_of_block (a := ⟨C, 3, none⟩) q).trans h.f3, (World.frozen?_of_block (a := ⟨C, 4, none⟩) q).trans h.f4, (World.frozen?_of_block (a := ⟨C, 5, none⟩) q).trans h.f5⟩
/-- where each operation of that region leaves what it yields -/
def s12 (i : Nat) : Nat := if i = 8 then 56 else if i < 8 then 57 + i else if i < 12 then 56 + i else if i = 12 then 10 else if i = 13 then 11 else 12
def v12 (vals : Nat → Value) (Nx Rd : Nat) (i : Nat) : Value := if i = 12 then .pointer (some ⟨Nx, 0, none⟩) else if i = 13 then .pointer (some ⟨Rd, 0, none⟩) else vals i
def y12 (i : Nat) : Prop := i ≠ 14 ∧ i ≠ 15
theorem s12_ne {i j : Nat} (hi : i < 17) (hj : j < 17) (yi : y12 i) (yj : y12 j) (h : j ≠ i) : s12 j ≠ s12 i := by
  have key : ∀ i j : Fin 17, (i.1 == 14 || i.1 == 15 || j.1 == 14 || j.1 == 15 || j.1 == i.1 || s12 j.1 != s12 i.1) = true := by decide
  have := key ⟨i, hi⟩ ⟨j, hj⟩
  simp only [Bool.or_eq_true, beq_iff_eq, bne_iff_ne] at this
  unfold y12 at yi yj
  rcases this with ((((q | q) | q) | q) | q) | q
  · exact absurd q yi.1
  · exact absurd q yi.2
  · exact absurd q yj.1
  · exact absurd q yj.2
  · exact absurd q h
  · exact q
/-- what holds behind whichever have come up -/
structure G12 (W2 : World) (vals : Nat → Value) (yy : Sx) (rr : Rx) (L : Array Bool) (y : Nat → Value) (Nx Rd : Nat) (w : World) : Prop where
  ls : L.size = 17
  sl : ∀ i, i < 17 → y12 i → L.getD i false = true → y (s12 i) = v12 vals Nx Rd i
  bel : Below W2.heap.size W2 w
  nx0 : L.getD 12 false = true → W2.heap.size ≤ Nx ∧ Nx < w.heap.size ∧ (L.getD 14 false = false → Sta w Nx 0 0 0 0 0 0 0 0 0 0 0 0 0 0) ∧ (L.getD 14 false = true → Sta w Nx yy.f0.k yy.f0.n yy.f0.b yy.f0.a yy.f0.s yy.f0.q yy.f1.k yy.f1.n yy.f1.b yy.f1.a yy.f1.s yy.f1.q yy.w0 yy.w1)
  rd0 : L.getD 13 false = true → W2.heap.size ≤ Rd ∧ Rd < w.heap.size ∧ (L.getD 15 false = false → Rnd w Rd 0 0 0 0 0 0) ∧ (L.getD 15 false = true → Rnd w Rd rr.s0 rr.s1 rr.c0 rr.c1 rr.l0 rr.l1)
  ne : L.getD 12 false = true → L.getD 13 false = true → Nx ≠ Rd
  cl : (L.getD 14 false = true → L.getD 12 false = true) ∧ (L.getD 15 false = true → L.getD 13 false = true)
section
variable {W2 : World} {vals : Nat → Value} {yy : Sx} {rr : Rx} {L : Array Bool} {y : Nat → Value} {Nx Rd : Nat} {w : World}
theorem G12.slots (h : G12 W2 vals yy rr L y Nx Rd w) {i : Nat} (hi : i < 17) (yi : y12 i) {N2 R2 : Nat} {x : Value} (hx : x = v12 vals N2 R2 i) (hold : ∀ j, j < 17 → j ≠ i → L.getD j false = true → v12 vals N2 R2 j = v12 vals Nx Rd j) :
    ∀ j, j < 17 → y12 j → (L.setIfInBounds i true).getD j false = true → up y (s12 i) x (s12 j) = v12 vals N2 R2 j := fun j hj yj hl => by
  rw [getD_set (by rw [h.ls]; exact hi)] at hl
  by_cases e : j = i
  · subst e; rw [up_at]; exact hx
  · rw [if_neg e] at hl
    rw [up_ne _ _ _ (s12_ne hi hj yi yj e), h.sl j hj yj hl, hold j hj e hl]
/-- what yields, whatever it makes of memory above -/
theorem G12.pure (h : G12 W2 vals yy rr L y Nx Rd w) {i : Nat} (hi : i < 12 ∨ i = 16) {x : Value} (hx : x = vals i) {w' : World} (b : Below w.heap.size w w') : G12 W2 vals yy rr (L.setIfInBounds i true) (up y (s12 i) x) Nx Rd w' := by
  have hz : i < L.size := by rw [h.ls]; omega
  have g : ∀ j, 12 ≤ j → j < 16 → (L.setIfInBounds i true).getD j false = L.getD j false := fun j h1 h2 => by rw [getD_set hz, if_neg (by omega)]
  refine ⟨by simp [h.ls], h.slots (by omega) (by unfold y12; omega) (by rw [hx]; unfold v12; rw [if_neg (by omega), if_neg (by omega)]) fun _ _ _ _ => rfl, bthen h.bel b, ?_, ?_, ?_, ?_⟩
  · rw [g 12 (by omega) (by omega), g 14 (by omega) (by omega)]
    intro hl
    obtain ⟨a1, a2, a3, a4⟩ := h.nx0 hl
    exact ⟨a1, Nat.lt_of_lt_of_le a2 b.size, fun q => (a3 q).kept b, fun q => (a4 q).kept b⟩
  · rw [g 13 (by omega) (by omega), g 15 (by omega) (by omega)]
    intro hl
    obtain ⟨a1, a2, a3, a4⟩ := h.rd0 hl
    exact ⟨a1, Nat.lt_of_lt_of_le a2 b.size, fun q => (a3 q).kept b, fun q => (a4 q).kept b⟩
  · rw [g 12 (by omega) (by omega), g 13 (by omega) (by omega)]; exact h.ne
  · rw [g 12 (by omega) (by omega), g 13 (by omega) (by omega), g 14 (by omega) (by omega), g 15 (by omega) (by omega)]; exact h.cl
/-- the state's own block -/
theorem G12.al10 (h : G12 W2 vals yy rr L y Nx Rd w) (hno : L.getD 12 false = false) : G12 W2 vals yy rr (L.setIfInBounds 12 true) (up y (s12 12) (.pointer (some ⟨w.heap.size, 0, none⟩))) w.heap.size Rd (w.alloc (.cells #[.int .i64 0, .int .i64 0, .int .i64 0, .int .i64 0, .int .i64 0, .int .i64 0, .int .i64 0, .int .i64 0, .int .i64 0, .int .i64 0, .int .i64 0, .int .i64 0, .int .i64 0, .int .i64 0] 45)) := by
  have hz : 12 < L.size := by rw [h.ls]; omega
  have g : ∀ j, j ≠ 12 → (L.setIfInBounds 12 true).getD j false = L.getD j false := fun j h1 => by rw [getD_set hz, if_neg h1]
  have b : Below w.heap.size w (w.alloc (.cells #[.int .i64 0, .int .i64 0, .int .i64 0, .int .i64 0, .int .i64 0, .int .i64 0, .int .i64 0, .int .i64 0, .int .i64 0, .int .i64 0, .int .i64 0, .int .i64 0, .int .i64 0, .int .i64 0] 45)) := balloc (Below.refl _ _) _
  have h14 : L.getD 14 false = false := by
    cases q : L.getD 14 false with
    | false => rfl
    | true => have := h.cl.1 q; rw [hno] at this; cases this
  refine ⟨by simp [h.ls], h.slots (by omega) (by unfold y12; omega) rfl fun j _ hne _ => by unfold v12; rw [if_neg hne, if_neg hne], bthen h.bel b, fun _ => ⟨h.bel.size, by simp, fun _ => Sta.new w _ rfl 0 0 0 0 0 0 0 0 0 0 0 0 0 0, fun q => ?_⟩, ?_, ?_, ?_⟩
  · rw [g 14 (by omega), h14] at q; cases q
  · rw [g 13 (by omega), g 15 (by omega)]
    intro hl
    obtain ⟨a1, a2, a3, a4⟩ := h.rd0 hl
    exact ⟨a1, Nat.lt_of_lt_of_le a2 b.size, fun q => (a3 q).kept b, fun q => (a4 q).kept b⟩
  · rw [g 13 (by omega)]
    intro _ hl
    have := (h.rd0 hl).2.1
    omega
  · rw [g 13 (by omega), g 14 (by omega), g 15 (by omega)]
    exact ⟨fun q => (by rw [h14] at q; cases q), h.cl.2⟩
/-- the round's own block -/
theorem G12.al11 (h : G12 W2 vals yy rr L y Nx Rd w) (hno : L.getD 13 false = false) : G12 W2 vals yy rr (L.setIfInBounds 13 true) (up y (s12 13) (.pointer (some ⟨w.heap.size, 0, none⟩))) Nx w.heap.size (w.alloc (.cells #[.int .i64 0, .int .i64 0, .int .i64 0, .int .i64 0, .int .i64 0, .int .i64 0] 86)) := by
  have hz : 13 < L.size := by rw [h.ls]; omega
  have g : ∀ j, j ≠ 13 → (L.setIfInBounds 13 true).getD j false = L.getD j false := fun j h1 => by rw [getD_set hz, if_neg h1]
  have b : Below w.heap.size w (w.alloc (.cells #[.int .i64 0, .int .i64 0, .int .i64 0, .int .i64 0, .int .i64 0, .int .i64 0] 86)) := balloc (Below.refl _ _) _
  have h15 : L.getD 15 false = false := by
    cases q : L.getD 15 false with
    | false => rfl
    | true => have := h.cl.2 q; rw [hno] at this; cases this
  refine ⟨by simp [h.ls], h.slots (by omega) (by unfold y12; omega) rfl fun j _ hne _ => by unfold v12; rw [if_neg hne, if_neg hne], bthen h.bel b, ?_, fun _ => ⟨h.bel.size, by simp, fun _ => Rnd.new w _ rfl 0 0 0 0 0 0, fun q => ?_⟩, ?_, ?_⟩
  · rw [g 12 (by omega), g 14 (by omega)]
    intro hl
    obtain ⟨a1, a2, a3, a4⟩ := h.nx0 hl
    exact ⟨a1, Nat.lt_of_lt_of_le a2 b.size, fun q => (a3 q).kept b, fun q => (a4 q).kept b⟩
  · rw [g 15 (by omega), h15] at q; cases q
  · rw [g 12 (by omega)]
    intro hl _
    have := (h.nx0 hl).2.1
    omega
  · rw [g 12 (by omega), g 14 (by omega), g 15 (by omega)]
    exact ⟨h.cl.1, fun q => by rw [h15] at q; cases q⟩
/-- the state is written -/
theorem G12.st14 (h : G12 W2 vals yy rr L y Nx Rd w) (h12 : L.getD 12 false = true) {w' : World} (hS : Sta w' Nx yy.f0.k yy.f0.n yy.f0.b yy.f0.a yy.f0.s yy.f0.q yy.f1.k yy.f1.n yy.f1.b yy.f1.a yy.f1.s yy.f1.q yy.w0 yy.w1) (hs : w'.heap.size = w.heap.size) (hh : ∀ g, g ≠ Nx → w'.heap[g]? = w.heap[g]?) (hb : Below W2.heap.size W2 w') : G12 W2 vals yy rr (L.setIfInBounds 14 true) y Nx Rd w' := by
  have hz : 14 < L.size := by rw [h.ls]; omega
  have g : ∀ j, j ≠ 14 → (L.setIfInBounds 14 true).getD j false = L.getD j false := fun j h1 => by rw [getD_set hz, if_neg h1]
  refine ⟨by simp [h.ls], fun j hj yj hl => ?_, hb, fun _ => ?_, ?_, ?_, ?_⟩
  · rw [g j (by unfold y12 at yj; omega)] at hl; exact h.sl j hj yj hl
  · obtain ⟨a1, a2, _, _⟩ := h.nx0 h12
    refine ⟨a1, by omega, fun q => ?_, fun _ => hS⟩
    rw [getD_set hz, if_pos rfl] at q; cases q
  · rw [g 13 (by omega), g 15 (by omega)]
    intro hl
    obtain ⟨a1, a2, a3, a4⟩ := h.rd0 hl
    have hne : Rd ≠ Nx := fun e => h.ne h12 hl e.symm
    exact ⟨a1, by omega, fun q => rnd_block (a3 q) (hh Rd hne), fun q => rnd_block (a4 q) (hh Rd hne)⟩
  · rw [g 12 (by omega), g 13 (by omega)]; exact h.ne
  · rw [g 12 (by omega), g 13 (by omega), g 15 (by omega)]; exact ⟨fun _ => h12, h.cl.2⟩
/-- the round is written -/
theorem G12.st15 (h : G12 W2 vals yy rr L y Nx Rd w) (h13 : L.getD 13 false = true) {w' : World} (hS : Rnd w' Rd rr.s0 rr.s1 rr.c0 rr.c1 rr.l0 rr.l1) (hs : w'.heap.size = w.heap.size) (hh : ∀ g, g ≠ Rd → w'.heap[g]? = w.heap[g]?) (hb : Below W2.heap.size W2 w') : G12 W2 vals yy rr (L.setIfInBounds 15 true) y Nx Rd w' := by
  have hz : 15 < L.size := by rw [h.ls]; omega
  have g : ∀ j, j ≠ 15 → (L.setIfInBounds 15 true).getD j false = L.getD j false := fun j h1 => by rw [getD_set hz, if_neg h1]
  refine ⟨by simp [h.ls], fun j hj yj hl => ?_, hb, ?_, fun _ => ?_, ?_, ?_⟩
  · rw [g j (by unfold y12 at yj; omega)] at hl; exact h.sl j hj yj hl
  · rw [g 12 (by omega), g 14 (by omega)]
    intro hl
    obtain ⟨a1, a2, a3, a4⟩ := h.nx0 hl
    have hne : Nx ≠ Rd := h.ne hl h13
    exact ⟨a1, by omega, fun q => (a3 q).block (hh Nx hne), fun q => (a4 q).block (hh Nx hne)⟩
  · obtain ⟨a1, a2, _, _⟩ := h.rd0 h13
    refine ⟨a1, by omega, fun q => ?_, fun _ => hS⟩
    rw [getD_set hz, if_pos rfl] at q; cases q
  · rw [g 12 (by omega), g 13 (by omega)]; exact h.ne
  · rw [g 12 (by omega), g 13 (by omega), g 14 (by omega)]; exact ⟨h.cl.1, fun _ => h13⟩
end

end Go.Proofs.YtjageagnclmnjaaGreatDoor.D
