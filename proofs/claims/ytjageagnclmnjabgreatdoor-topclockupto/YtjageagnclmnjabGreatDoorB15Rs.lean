/- PROVED: steady's search: the region in which a step is taken, and what it brings laid into new blocks, in whatever order, within a round. CONDITIONS: none beyond each theorem's own. -/
import Derived.Test.YtjageagnclmnjabGreatDoorB14Lif
import Derived.Test.YtjageagnclmnjabGreatDoorB12Pr
namespace Go.Proofs.YtjageagnclmnjabGreatDoor.D
set_option maxRecDepth 100000
open Go.RowKit K
set_option linter.unusedVariables false
/-- where each operation of that region leaves what it yields -/
def sS (i : Nat) : Nat := if i = 8 then 38 else if i < 8 then 39 + i else if i < 12 then 38 + i else if i = 12 then 9 else if i = 13 then 10 else 11
def vS (vals : Nat → Value) (Nx Rd : Nat) (i : Nat) : Value := if i = 12 then .pointer (some ⟨Nx, 0, none⟩) else if i = 13 then .pointer (some ⟨Rd, 0, none⟩) else vals i
def yS (i : Nat) : Prop := i ≠ 14 ∧ i ≠ 15
theorem sS_ne {i j : Nat} (hi : i < 17) (hj : j < 17) (yi : yS i) (yj : yS j) (h : j ≠ i) : sS j ≠ sS i := by
  have key : ∀ i j : Fin 17, (i.1 == 14 || i.1 == 15 || j.1 == 14 || j.1 == 15 || j.1 == i.1 || sS j.1 != sS i.1) = true := by decide
  have := key ⟨i, hi⟩ ⟨j, hj⟩
  simp only [Bool.or_eq_true, beq_iff_eq, bne_iff_ne] at this
  unfold yS at yi yj
  rcases this with ((((q | q) | q) | q) | q) | q
  · exact absurd q yi.1
  · exact absurd q yi.2
  · exact absurd q yj.1
  · exact absurd q yj.2
  · exact absurd q h
  · exact q
/-- what holds behind whichever have come up -/
structure GS (W2 : World) (vals : Nat → Value) (yy : Sx) (rr : Rx) (L : Array Bool) (y : Nat → Value) (Nx Rd : Nat) (w : World) : Prop where
  ls : L.size = 17
  sl : ∀ i, i < 17 → yS i → L.getD i false = true → y (sS i) = vS vals Nx Rd i
  bel : Below W2.heap.size W2 w
  nx0 : L.getD 12 false = true → W2.heap.size ≤ Nx ∧ Nx < w.heap.size ∧ (L.getD 14 false = false → Sta w Nx 0 0 0 0 0 0 0 0 0 0 0 0 0 0) ∧ (L.getD 14 false = true → Sta w Nx yy.f0.k yy.f0.n yy.f0.b yy.f0.a yy.f0.s yy.f0.q yy.f1.k yy.f1.n yy.f1.b yy.f1.a yy.f1.s yy.f1.q yy.w0 yy.w1)
  rd0 : L.getD 13 false = true → W2.heap.size ≤ Rd ∧ Rd < w.heap.size ∧ (L.getD 15 false = false → Rnd w Rd 0 0 0 0 0 0) ∧ (L.getD 15 false = true → Rnd w Rd rr.s0 rr.s1 rr.c0 rr.c1 rr.l0 rr.l1)
  ne : L.getD 12 false = true → L.getD 13 false = true → Nx ≠ Rd
  cl : (L.getD 14 false = true → L.getD 12 false = true) ∧ (L.getD 15 false = true → L.getD 13 false = true)
section
variable {W2 : World} {vals : Nat → Value} {yy : Sx} {rr : Rx} {L : Array Bool} {y : Nat → Value} {Nx Rd : Nat} {w : World}
theorem GS.slots (h : GS W2 vals yy rr L y Nx Rd w) {i : Nat} (hi : i < 17) (yi : yS i) {N2 R2 : Nat} {x : Value} (hx : x = vS vals N2 R2 i) (hold : ∀ j, j < 17 → j ≠ i → L.getD j false = true → vS vals N2 R2 j = vS vals Nx Rd j) :
    ∀ j, j < 17 → yS j → (L.setIfInBounds i true).getD j false = true → up y (sS i) x (sS j) = vS vals N2 R2 j := fun j hj yj hl => by
  rw [getD_set (by rw [h.ls]; exact hi)] at hl
  by_cases e : j = i
  · subst e; rw [up_at]; exact hx
  · rw [if_neg e] at hl
    rw [up_ne _ _ _ (sS_ne hi hj yi yj e), h.sl j hj yj hl, hold j hj e hl]
/-- what yields, whatever it makes of memory above -/
theorem GS.pure (h : GS W2 vals yy rr L y Nx Rd w) {i : Nat} (hi : i < 12 ∨ i = 16) {x : Value} (hx : x = vals i) {w' : World} (b : Below w.heap.size w w') : GS W2 vals yy rr (L.setIfInBounds i true) (up y (sS i) x) Nx Rd w' := by
  have hz : i < L.size := by rw [h.ls]; omega
  have g : ∀ j, 12 ≤ j → j < 16 → (L.setIfInBounds i true).getD j false = L.getD j false := fun j h1 h2 => by rw [getD_set hz, if_neg (by omega)]
  refine ⟨by simp [h.ls], h.slots (by omega) (by unfold yS; omega) (by rw [hx]; unfold vS; rw [if_neg (by omega), if_neg (by omega)]) fun _ _ _ _ => rfl, bthen h.bel b, ?_, ?_, ?_, ?_⟩
  · rw [g 12 (by omega) (by omega), g 14 (by omega) (by omega)]
    intro hl
    obtain ⟨a1, a2, a3, a4⟩ := h.nx0 hl
    exact ⟨a1, Nat.lt_of_lt_of_le a2 b.size, fun q => (a3 q).kept b, fun q => (a4 q).kept b⟩
  · rw [g 13 (by omega) (by omega), g 15 (by omega) (by omega)]
    intro hl
    obtain ⟨a1, a2, a3, a4⟩ := h.rd0 hl
    exact ⟨a1, Nat.lt_of_lt_of_le a2 b.size, fun q => (a3 q).kept b, fun q => (a4 q).kept b⟩
  · rw [g 12 (by omega) (by omega), g 13 (by omega) (by omega)]; exact h.ne
  · rw [g 12 (by omega) (by omega), g 13 (by omega) (by omega), g 14 (by omega) (by omega), g 15 (by omega) (by omega)]; exact h.cl
/-- the state's own block -/
theorem GS.al10 (h : GS W2 vals yy rr L y Nx Rd w) (hno : L.getD 12 false = false) : GS W2 vals yy rr (L.setIfInBounds 12 true) (up y (sS 12) (.pointer (some ⟨w.heap.size, 0, none⟩))) w.heap.size Rd (w.alloc (.cells #[.int .i64 0, .int .i64 0, .int .i64 0, .int .i64 0, .int .i64 0, .int .i64 0, .int .i64 0, .int .i64 0, .int .i64 0, .int .i64 0, .int .i64 0, .int .i64 0, .int .i64 0, .int .i64 0] 147)) := by
  have hz : 12 < L.size := by rw [h.ls]; omega
  have g : ∀ j, j ≠ 12 → (L.setIfInBounds 12 true).getD j false = L.getD j false := fun j h1 => by rw [getD_set hz, if_neg h1]
  have b : Below w.heap.size w (w.alloc (.cells #[.int .i64 0, .int .i64 0, .int .i64 0, .int .i64 0, .int .i64 0, .int .i64 0, .int .i64 0, .int .i64 0, .int .i64 0, .int .i64 0, .int .i64 0, .int .i64 0, .int .i64 0, .int .i64 0] 147)) := balloc (Below.refl _ _) _
  have h14 : L.getD 14 false = false := by
    cases q : L.getD 14 false with
    | false => rfl
    | true => have := h.cl.1 q; rw [hno] at this; cases this
  refine ⟨by simp [h.ls], h.slots (by omega) (by unfold yS; omega) rfl fun j _ hne _ => by unfold vS; rw [if_neg hne, if_neg hne], bthen h.bel b, fun _ => ⟨h.bel.size, by simp, fun _ => Sta.new w _ rfl 0 0 0 0 0 0 0 0 0 0 0 0 0 0, fun q => ?_⟩, ?_, ?_, ?_⟩
  · rw [g 14 (by omega), h14] at q; cases q
  · rw [g 13 (by omega), g 15 (by omega)]
    intro hl
    obtain ⟨a1, a2, a3, a4⟩ := h.rd0 hl
    exact ⟨a1, Nat.lt_of_lt_of_le a2 b.size, fun q => (a3 q).kept b, fun q => (a4 q).kept b⟩
  · rw [g 13 (by omega)]
    intro _ hl
    have := (h.rd0 hl).2.1
    omega
  · rw [g 13 (by omega), g 14 (by omega), g 15 (by omega)]
    exact ⟨fun q => (by rw [h14] at q; cases q), h.cl.2⟩
/-- the round's own block -/
theorem GS.al11 (h : GS W2 vals yy rr L y Nx Rd w) (hno : L.getD 13 false = false) : GS W2 vals yy rr (L.setIfInBounds 13 true) (up y (sS 13) (.pointer (some ⟨w.heap.size, 0, none⟩))) Nx w.heap.size (w.alloc (.cells #[.int .i64 0, .int .i64 0, .int .i64 0, .int .i64 0, .int .i64 0, .int .i64 0] 155)) := by
  have hz : 13 < L.size := by rw [h.ls]; omega
  have g : ∀ j, j ≠ 13 → (L.setIfInBounds 13 true).getD j false = L.getD j false := fun j h1 => by rw [getD_set hz, if_neg h1]
  have b : Below w.heap.size w (w.alloc (.cells #[.int .i64 0, .int .i64 0, .int .i64 0, .int .i64 0, .int .i64 0, .int .i64 0] 155)) := balloc (Below.refl _ _) _
  have h15 : L.getD 15 false = false := by
    cases q : L.getD 15 false with
    | false => rfl
    | true => have := h.cl.2 q; rw [hno] at this; cases this
  refine ⟨by simp [h.ls], h.slots (by omega) (by unfold yS; omega) rfl fun j _ hne _ => by unfold vS; rw [if_neg hne, if_neg hne], bthen h.bel b, ?_, fun _ => ⟨h.bel.size, by simp, fun _ => Rnd.new w _ rfl 0 0 0 0 0 0, fun q => ?_⟩, ?_, ?_⟩
  · rw [g 12 (by omega), g 14 (by omega)]
    intro hl
    obtain ⟨a1, a2, a3, a4⟩ := h.nx0 hl
    exact ⟨a1, Nat.lt_of_lt_of_le a2 b.size, fun q => (a3 q).kept b, fun q => (a4 q).kept b⟩
  · rw [g 15 (by omega), h15] at q; cases q
  · rw [g 12 (by omega)]
    intro hl _
    have := (h.nx0 hl).2.1
    omega
  · rw [g 12 (by omega), g 14 (by omega), g 15 (by omega)]
    exact ⟨h.cl.1, fun q => by rw [h15] at q; cases q⟩
/-- the state is written -/
theorem GS.st14 (h : GS W2 vals yy rr L y Nx Rd w) (h12 : L.getD 12 false = true) {w' : World} (hS : Sta w' Nx yy.f0.k yy.f0.n yy.f0.b yy.f0.a yy.f0.s yy.f0.q yy.f1.k yy.f1.n yy.f1.b yy.f1.a yy.f1.s yy.f1.q yy.w0 yy.w1) (hs : w'.heap.size = w.heap.size) (hh : ∀ g, g ≠ Nx → w'.heap[g]? = w.heap[g]?) (hb : Below W2.heap.size W2 w') : GS W2 vals yy rr (L.setIfInBounds 14 true) y Nx Rd w' := by
  have hz : 14 < L.size := by rw [h.ls]; omega
  have g : ∀ j, j ≠ 14 → (L.setIfInBounds 14 true).getD j false = L.getD j false := fun j h1 => by rw [getD_set hz, if_neg h1]
  refine ⟨by simp [h.ls], fun j hj yj hl => ?_, hb, fun _ => ?_, ?_, ?_, ?_⟩
  · rw [g j (by unfold yS at yj; omega)] at hl; exact h.sl j hj yj hl
  · obtain ⟨a1, a2, _, _⟩ := h.nx0 h12
    refine ⟨a1, by omega, fun q => ?_, fun _ => hS⟩
    rw [getD_set hz, if_pos rfl] at q; cases q
  · rw [g 13 (by omega), g 15 (by omega)]
    intro hl
    obtain ⟨a1, a2, a3, a4⟩ := h.rd0 hl
    have hne : Rd ≠ Nx := fun e => h.ne h12 hl e.symm
    exact ⟨a1, by omega, fun q => rnd_block (a3 q) (hh Rd hne), fun q => rnd_block (a4 q) (hh Rd hne)⟩
  · rw [g 12 (by omega), g 13 (by omega)]; exact h.ne
  · rw [g 12 (by omega), g 13 (by omega), g 15 (by omega)]; exact ⟨fun _ => h12, h.cl.2⟩
/-- the round is written -/
theorem GS.st15 (h : GS W2 vals yy rr L y Nx Rd w) (h13 : L.getD 13 false = true) {w' : World} (hS : Rnd w' Rd rr.s0 rr.s1 rr.c0 rr.c1 rr.l0 rr.l1) (hs : w'.heap.size = w.heap.size) (hh : ∀ g, g ≠ Rd → w'.heap[g]? = w.heap[g]?) (hb : Below W2.heap.size W2 w') : GS W2 vals yy rr (L.setIfInBounds 15 true) y Nx Rd w' := by
  have hz : 15 < L.size := by rw [h.ls]; omega
  have g : ∀ j, j ≠ 15 → (L.setIfInBounds 15 true).getD j false = L.getD j false := fun j h1 => by rw [getD_set hz, if_neg h1]
  refine ⟨by simp [h.ls], fun j hj yj hl => ?_, hb, ?_, fun _ => ?_, ?_, ?_⟩
  · rw [g j (by unfold yS at yj; omega)] at hl; exact h.sl j hj yj hl
  · rw [g 12 (by omega), g 14 (by omega)]
    intro hl
    obtain ⟨a1, a2, a3, a4⟩ := h.nx0 hl
    have hne : Nx ≠ Rd := h.ne hl h13
    exact ⟨a1, by omega, fun q => (a3 q).block (hh Nx hne), fun q => (a4 q).block (hh Nx hne)⟩
  · obtain ⟨a1, a2, _, _⟩ := h.rd0 h13
    refine ⟨a1, by omega, fun q => ?_, fun _ => hS⟩
    rw [getD_set hz, if_pos rfl] at q; cases q
  · rw [g 12 (by omega), g 13 (by omega)]; exact h.ne
  · rw [g 12 (by omega), g 13 (by omega), g 14 (by omega)]; exact ⟨h.cl.1, fun _ => h13⟩
end


def OS : List (Op × Option Nat) := [(.load 69 (.tmp 1), some 39), (.fieldAddr 119 (.tmp 6) 0, some 40), (.load 115 (.tmp 40), some 41), (.load 3 (.tmp 7), some 42), (.indexAddr 115 (.tmp 41) (.tmp 42), some 43), (.load 147 (.tmp 43), some 44), (.load 67 (.tmp 8), some 45), (.call { callee := .value (.func 93), args := #[.tmp 39, .tmp 44, .tmp 45], argTypes := #[69, 147, 67] }, some 46), (.move (.tmp 46), some 38), (.extract (.tmp 38) 0, some 47), (.extract (.tmp 38) 1, some 48), (.extract (.tmp 38) 2, some 49), (.alloc 147, some 9), (.alloc 155, some 10), (.store 147 (.tmp 9) (.tmp 47), none), (.store 155 (.tmp 10) (.tmp 48), none), (.assign (.tmp 49), some 11)]
def DS : List (List Nat) := [[], [], [1], [], [2, 3], [4], [], [0, 5, 6], [7], [8], [8], [8], [], [], [12, 9], [13, 10], [11]]
def lS : List Nat := [39, 40, 41, 42, 43, 44, 45, 46, 38, 47, 48, 49, 9, 10, 11]
/-- what they yield -/
def valsS (r : Ru) (C g0 k : Nat) (v0 : Value) (x yy : Sx) (rr : Rx) (lx ly : Int) : Nat → Value
  | 0 => .agg #[.int .i64 r.k0, .int .i64 r.k1, .int .i64 r.r, .int .i64 r.m, .int .i64 r.j]
  | 1 => .pointer (some ⟨C, 0, none⟩)
  | 2 => v0
  | 3 => .int .i64 (k : Int)
  | 4 => .pointer (some ⟨g0, k * 14, none⟩)
  | 5 => .agg #[.int .i64 x.f0.k, .int .i64 x.f0.n, .int .i64 x.f0.b, .int .i64 x.f0.a, .int .i64 x.f0.s, .int .i64 x.f0.q, .int .i64 x.f1.k, .int .i64 x.f1.n, .int .i64 x.f1.b, .int .i64 x.f1.a, .int .i64 x.f1.s, .int .i64 x.f1.q, .int .i64 x.w0, .int .i64 x.w1]
  | 6 => .agg #[.int .i64 lx, .int .i64 ly]
  | 7 => .tuple #[.agg #[.int .i64 yy.f0.k, .int .i64 yy.f0.n, .int .i64 yy.f0.b, .int .i64 yy.f0.a, .int .i64 yy.f0.s, .int .i64 yy.f0.q, .int .i64 yy.f1.k, .int .i64 yy.f1.n, .int .i64 yy.f1.b, .int .i64 yy.f1.a, .int .i64 yy.f1.s, .int .i64 yy.f1.q, .int .i64 yy.w0, .int .i64 yy.w1], .agg #[.int .i64 rr.s0, .int .i64 rr.s1, .int .i64 rr.c0, .int .i64 rr.c1, .int .i64 rr.l0, .int .i64 rr.l1], .int .i64 0]
  | 8 => .tuple #[.agg #[.int .i64 yy.f0.k, .int .i64 yy.f0.n, .int .i64 yy.f0.b, .int .i64 yy.f0.a, .int .i64 yy.f0.s, .int .i64 yy.f0.q, .int .i64 yy.f1.k, .int .i64 yy.f1.n, .int .i64 yy.f1.b, .int .i64 yy.f1.a, .int .i64 yy.f1.s, .int .i64 yy.f1.q, .int .i64 yy.w0, .int .i64 yy.w1], .agg #[.int .i64 rr.s0, .int .i64 rr.s1, .int .i64 rr.c0, .int .i64 rr.c1, .int .i64 rr.l0, .int .i64 rr.l1], .int .i64 0]
  | 9 => .agg #[.int .i64 yy.f0.k, .int .i64 yy.f0.n, .int .i64 yy.f0.b, .int .i64 yy.f0.a, .int .i64 yy.f0.s, .int .i64 yy.f0.q, .int .i64 yy.f1.k, .int .i64 yy.f1.n, .int .i64 yy.f1.b, .int .i64 yy.f1.a, .int .i64 yy.f1.s, .int .i64 yy.f1.q, .int .i64 yy.w0, .int .i64 yy.w1]
  | 10 => .agg #[.int .i64 rr.s0, .int .i64 rr.s1, .int .i64 rr.c0, .int .i64 rr.c1, .int .i64 rr.l0, .int .i64 rr.l1]
  | 11 => .int .i64 0
  | 12 => undef
  | 13 => undef
  | 14 => undef
  | 15 => undef
  | _ => .int .i64 0
/-- THE REGION: whatever the order, the step's state and round lie in new blocks -/
theorem regionS {Q : Exit → Act → World → Prop} {ops : Array Oper} (ho : looks ops OS) (hd : waits ops DS = true) (hor : (List.range ops.size).all (fun i => ((ops[i]?).map fun o => o.after.all fun e => !Region.binds .any e || decide (e.on < i)).getD true) = true) {l' n id : Nat} {a0 : Act} {W : World} (hnd : ∀ (i : Nat) (o : Oper), ops[i]? = some o → ∀ c, o.op ≠ .defer c) (hno : ¬ LetsOut Q) (hm : Tryz.prog.follows .mixedOrders = true)
    {r : Ru} {R C Lt Fr g0 n0 cp0 k : Nat} {x yy : Sx} {rr : Rx} {lx ly : Int} (hz : 49 < a0.tmps.size)
    (e1 : a0.eval (.tmp 1) = .pointer (some ⟨R, 0, none⟩)) (e6 : a0.eval (.tmp 6) = .pointer (some ⟨C, 0, none⟩)) (e7 : a0.eval (.tmp 7) = .pointer (some ⟨Fr, 0, none⟩)) (e9 : a0.eval (.tmp 8) = .pointer (some ⟨Lt, 0, none⟩)) (hfr : W.cell? ⟨Fr, 0, none⟩ = some (.int .i64 (k : Int)))
    (hR : Rul W R r.k0 r.k1 r.r r.m r.j) (hC : W.cell? ⟨C, 0, none⟩ = some (.slice (some ⟨g0, 0, none⟩) n0 cp0)) (hk : (k : Int) < (n0 : Int)) (hx : Sat W g0 (k * 14) x) (hl0 : W.cell? ⟨Lt, 0, none⟩ = some (.int .i64 lx)) (hl1 : W.cell? ⟨Lt, 1, none⟩ = some (.int .i64 ly))
    (hc : ∀ v, Calls Tryz.prog 93 #[.agg #[.int .i64 r.k0, .int .i64 r.k1, .int .i64 r.r, .int .i64 r.m, .int .i64 r.j], .agg #[.int .i64 x.f0.k, .int .i64 x.f0.n, .int .i64 x.f0.b, .int .i64 x.f0.a, .int .i64 x.f0.s, .int .i64 x.f0.q, .int .i64 x.f1.k, .int .i64 x.f1.n, .int .i64 x.f1.b, .int .i64 x.f1.a, .int .i64 x.f1.s, .int .i64 x.f1.q, .int .i64 x.w0, .int .i64 x.w1], .agg #[.int .i64 lx, .int .i64 ly]] v fun e w' => e = .returned (.tuple #[.agg #[.int .i64 yy.f0.k, .int .i64 yy.f0.n, .int .i64 yy.f0.b, .int .i64 yy.f0.a, .int .i64 yy.f0.s, .int .i64 yy.f0.q, .int .i64 yy.f1.k, .int .i64 yy.f1.n, .int .i64 yy.f1.b, .int .i64 yy.f1.a, .int .i64 yy.f1.s, .int .i64 yy.f1.q, .int .i64 yy.w0, .int .i64 yy.w1], .agg #[.int .i64 rr.s0, .int .i64 rr.s1, .int .i64 rr.c0, .int .i64 rr.c1, .int .i64 rr.l0, .int .i64 rr.l1], .int .i64 0]) ∧ Below v.heap.size v w')
    (hQ : ∀ y Nx Rd w', Below W.heap.size W w' → W.heap.size ≤ Nx → W.heap.size ≤ Rd → Nx ≠ Rd → Sta w' Nx yy.f0.k yy.f0.n yy.f0.b yy.f0.a yy.f0.s yy.f0.q yy.f1.k yy.f1.n yy.f1.b yy.f1.a yy.f1.s yy.f1.q yy.w0 yy.w1 → Rnd w' Rd rr.s0 rr.s1 rr.c0 rr.c1 rr.l0 rr.l1 → y 9 = .pointer (some ⟨Nx, 0, none⟩) → y 10 = .pointer (some ⟨Rd, 0, none⟩) → Q .normal (tA a0 lS y) w') : (Code.region id ops true).wpIn (Fence.wide.inRound l') n Tryz.prog Q a0 W := by
  have hsz : ops.size = 17 := looks_size ho
  refine wpIn_region_slots hnd hno hm lS (fun L y w' => ∃ Nx Rd, GS W.drew (valsS r C g0 k (.slice (some ⟨g0, 0, none⟩) n0 cp0) x yy rr lx ly) yy rr L y Nx Rd w') ?_ ?_ ?_
  · have f : ∀ i, (Array.replicate ops.size false).getD i false = false := fun i => by
      rw [Array.getD_eq_getD_getElem?, Array.getElem?_replicate]
      split <;> rfl
    refine ⟨0, 0, by simp [hsz], fun i _ _ h => ?_, Below.refl _ _, fun h => ?_, fun h => ?_, fun h => ?_, fun h => ?_, fun h => ?_⟩ <;> (rw [f] at h; cases h)
  · rintro L y w' ⟨Nx, Rd, hG⟩ i hi
    have hi17 : i < 17 := by
      obtain ⟨_, o, q, _⟩ := mem_ready.1 hi
      have := (Array.getElem?_eq_some_iff.1 q).1
      omega
    have hB : Below W.heap.size W w' := bthen (Below.drew (Below.refl _ _)) hG.bel
    have put : ∀ {s : Nat} (hs : s ∈ lS) (x : Value), (tA a0 lS y).put (some s) x = tA a0 lS (up y s x) := fun hs x => tA_put a0 lS y hs x
    have sv : ∀ {s : Nat} (hs : s ∈ lS), s < a0.tmps.size → (tA a0 lS y).eval (.tmp s) = y s := fun hs h => tA_slot a0 lS y hs h
    have o1 : (tA a0 lS y).eval (.tmp 1) = .pointer (some ⟨R, 0, none⟩) := (tA_other a0 lS y (by decide)).trans e1
    have o6 : (tA a0 lS y).eval (.tmp 6) = .pointer (some ⟨C, 0, none⟩) := (tA_other a0 lS y (by decide)).trans e6
    have o7 : (tA a0 lS y).eval (.tmp 7) = .pointer (some ⟨Fr, 0, none⟩) := (tA_other a0 lS y (by decide)).trans e7
    have o9 : (tA a0 lS y).eval (.tmp 8) = .pointer (some ⟨Lt, 0, none⟩) := (tA_other a0 lS y (by decide)).trans e9
    have got : ∀ {j s : Nat}, j < 17 → yS j → sS j = s → s ∈ lS → s < a0.tmps.size → L.getD j false = true → (tA a0 lS y).eval (.tmp s) = vS (valsS r C g0 k (.slice (some ⟨g0, 0, none⟩) n0 cp0) x yy rr lx ly) Nx Rd j := fun h1 h2 h3 h4 h5 h6 => by
      rw [sv h4 h5, ← h3]; exact hG.sl _ h1 h2 h6
    rcases (show i = 0 ∨ i = 1 ∨ i = 2 ∨ i = 3 ∨ i = 4 ∨ i = 5 ∨ i = 6 ∨ i = 7 ∨ i = 8 ∨ i = 9 ∨ i = 10 ∨ i = 11 ∨ i = 12 ∨ i = 13 ∨ i = 14 ∨ i = 15 ∨ i = 16 by omega) with rfl | rfl | rfl | rfl | rfl | rfl | rfl | rfl | rfl | rfl | rfl | rfl | rfl | rfl | rfl | rfl | rfl
    · obtain ⟨o, h1, h2, h3, h4⟩ := looks_at ho (i := 0) rfl
      have hw := waits_at hd hi (l := DS.getD 0 []) rfl
      refine wpOp_value h1 h4 (eb_rules (r := r) h2 o1 (hR.kept hB)) ?_
      rw [h3]
      exact ⟨_, put (by decide) _, Nx, Rd, hG.pure (by omega) rfl (Below.refl _ _)⟩
    · obtain ⟨o, h1, h2, h3, h4⟩ := looks_at ho (i := 1) rfl
      have hw := waits_at hd hi (l := DS.getD 1 []) rfl
      refine wpOp_value h1 h4 (ex_fb h2 (by omega) o6) ?_
      rw [h3]
      exact ⟨_, put (by decide) _, Nx, Rd, hG.pure (by omega) rfl (Below.refl _ _)⟩
    · obtain ⟨o, h1, h2, h3, h4⟩ := looks_at ho (i := 2) rfl
      have hw := waits_at hd hi (l := DS.getD 2 []) rfl
      refine wpOp_value h1 h4 (eb_ld25 h2 (got (j := 1) (s := 40) (by omega) (by unfold yS; omega) rfl (by decide) (by omega) (hw.2 1 (by decide))) ((hB.cell (p := ⟨C, 0, none⟩) (block_lt hC)).trans hC)) ?_
      rw [h3]
      exact ⟨_, put (by decide) _, Nx, Rd, hG.pure (by omega) rfl (Below.refl _ _)⟩
    · obtain ⟨o, h1, h2, h3, h4⟩ := looks_at ho (i := 3) rfl
      have hw := waits_at hd hi (l := DS.getD 3 []) rfl
      refine wpOp_value h1 h4 (ex_ly h2 (by omega) o7 ((hB.cell (p := ⟨Fr, 0, none⟩) (block_lt hfr)).trans hfr)) ?_
      rw [h3]
      exact ⟨_, put (by decide) _, Nx, Rd, hG.pure (by omega) rfl (Below.refl _ _)⟩
    · obtain ⟨o, h1, h2, h3, h4⟩ := looks_at ho (i := 4) rfl
      have hw := waits_at hd hi (l := DS.getD 4 []) rfl
      refine wpOp_value h1 h4 (eb_ix h2 (got (j := 2) (s := 41) (by omega) (by unfold yS; omega) rfl (by decide) (by omega) (hw.2 2 (by decide))) (got (j := 3) (s := 42) (by omega) (by unfold yS; omega) rfl (by decide) (by omega) (hw.2 3 (by decide))) hk) ?_
      rw [h3]
      exact ⟨_, put (by decide) _, Nx, Rd, hG.pure (by omega) rfl (Below.refl _ _)⟩
    · obtain ⟨o, h1, h2, h3, h4⟩ := looks_at ho (i := 5) rfl
      have hw := waits_at hd hi (l := DS.getD 5 []) rfl
      refine wpOp_value h1 h4 (eb_state h2 (got (j := 4) (s := 43) (by omega) (by unfold yS; omega) rfl (by decide) (by omega) (hw.2 4 (by decide))) (hx.kept hB)) ?_
      rw [h3]
      exact ⟨_, put (by decide) _, Nx, Rd, hG.pure (by omega) rfl (Below.refl _ _)⟩
    · obtain ⟨o, h1, h2, h3, h4⟩ := looks_at ho (i := 6) rfl
      have hw := waits_at hd hi (l := DS.getD 6 []) rfl
      refine wpOp_value h1 h4 (ex_pair h2 o9 ((hB.cell (p := ⟨Lt, 0, none⟩) (block_lt hl0)).trans hl0) ((hB.cell (p := ⟨Lt, 1, none⟩) (block_lt hl1)).trans hl1)) ?_
      rw [h3]
      exact ⟨_, put (by decide) _, Nx, Rd, hG.pure (by omega) rfl (Below.refl _ _)⟩
    · obtain ⟨o, h1, h2, h3, h4⟩ := looks_at ho (i := 7) rfl
      have hw := waits_at hd hi (l := DS.getD 7 []) rfl
      refine wpOp_call h1 h4 (eb_call h2 rfl (got (j := 0) (s := 39) (by omega) (by unfold yS; omega) rfl (by decide) (by omega) (hw.2 0 (by decide))) (got (j := 5) (s := 44) (by omega) (by unfold yS; omega) rfl (by decide) (by omega) (hw.2 5 (by decide))) (got (j := 6) (s := 45) (by omega) (by unfold yS; omega) rfl (by decide) (by omega) (hw.2 6 (by decide))) rfl) ((hc w').mono fun e w'' ⟨he, b⟩ => ⟨_, he, ?_⟩)
      rw [h3]
      exact ⟨_, put (by decide) _, Nx, Rd, hG.pure (by omega) rfl b⟩
    · obtain ⟨o, h1, h2, h3, h4⟩ := looks_at ho (i := 8) rfl
      have hw := waits_at hd hi (l := DS.getD 8 []) rfl
      refine wpOp_value h1 h4 (ex_mv h2 (got (j := 7) (s := 46) (by omega) (by unfold yS; omega) rfl (by decide) (by omega) (hw.2 7 (by decide)))) ?_
      rw [h3]
      exact ⟨_, put (by decide) _, Nx, Rd, hG.pure (by omega) rfl (Below.refl _ _)⟩
    · obtain ⟨o, h1, h2, h3, h4⟩ := looks_at ho (i := 9) rfl
      have hw := waits_at hd hi (l := DS.getD 9 []) rfl
      refine wpOp_value h1 h4 (eb_ext h2 (got (j := 8) (s := 38) (by omega) (by unfold yS; omega) rfl (by decide) (by omega) (hw.2 8 (by decide))) rfl) ?_
      rw [h3]
      exact ⟨_, put (by decide) _, Nx, Rd, hG.pure (by omega) rfl (Below.refl _ _)⟩
    · obtain ⟨o, h1, h2, h3, h4⟩ := looks_at ho (i := 10) rfl
      have hw := waits_at hd hi (l := DS.getD 10 []) rfl
      refine wpOp_value h1 h4 (eb_ext h2 (got (j := 8) (s := 38) (by omega) (by unfold yS; omega) rfl (by decide) (by omega) (hw.2 8 (by decide))) rfl) ?_
      rw [h3]
      exact ⟨_, put (by decide) _, Nx, Rd, hG.pure (by omega) rfl (Below.refl _ _)⟩
    · obtain ⟨o, h1, h2, h3, h4⟩ := looks_at ho (i := 11) rfl
      have hw := waits_at hd hi (l := DS.getD 11 []) rfl
      refine wpOp_value h1 h4 (eb_ext h2 (got (j := 8) (s := 38) (by omega) (by unfold yS; omega) rfl (by decide) (by omega) (hw.2 8 (by decide))) rfl) ?_
      rw [h3]
      exact ⟨_, put (by decide) _, Nx, Rd, hG.pure (by omega) rfl (Below.refl _ _)⟩
    · obtain ⟨o, h1, h2, h3, h4⟩ := looks_at ho (i := 12) rfl
      have hw := waits_at hd hi (l := DS.getD 12 []) rfl
      refine wpOp_value h1 h4 (eb_al48 h2) ?_
      rw [h3]
      exact ⟨_, put (by decide) _, _, Rd, hG.al10 (not_yet (by rw [hG.ls]; omega) hw.1)⟩
    · obtain ⟨o, h1, h2, h3, h4⟩ := looks_at ho (i := 13) rfl
      have hw := waits_at hd hi (l := DS.getD 13 []) rfl
      refine wpOp_value h1 h4 (eb_al62 h2) ?_
      rw [h3]
      exact ⟨_, put (by decide) _, Nx, _, hG.al11 (not_yet (by rw [hG.ls]; omega) hw.1)⟩
    · obtain ⟨o, h1, h2, h3, h4⟩ := looks_at ho (i := 14) rfl
      have hw := waits_at hd hi (l := DS.getD 14 []) rfl
      obtain ⟨a1, a2, a3, _⟩ := hG.nx0 (hw.2 12 (by decide))
      obtain ⟨w2, q1, q2, q3, q4, q5⟩ := eb_st48 (s' := yy) h2 (got (j := 12) (s := 9) (by omega) (by unfold yS; omega) rfl (by decide) (by omega) (hw.2 12 (by decide))) (got (j := 9) (s := 47) (by omega) (by unfold yS; omega) rfl (by decide) (by omega) (hw.2 9 (by decide))) (a3 (not_yet (by rw [hG.ls]; omega) hw.1))
      refine wpOp_skip h1 h4 q1 ?_
      rw [h3]
      exact ⟨y, rfl, Nx, Rd, hG.st14 (hw.2 12 (by decide)) q2 q3 q4 (hG.bel.trans (q5.mono a1))⟩
    · obtain ⟨o, h1, h2, h3, h4⟩ := looks_at ho (i := 15) rfl
      have hw := waits_at hd hi (l := DS.getD 15 []) rfl
      obtain ⟨a1, a2, a3, _⟩ := hG.rd0 (hw.2 13 (by decide))
      obtain ⟨w2, q1, q2, q3, q4, q5⟩ := eb_st62 (r' := rr) h2 (got (j := 13) (s := 10) (by omega) (by unfold yS; omega) rfl (by decide) (by omega) (hw.2 13 (by decide))) (got (j := 10) (s := 48) (by omega) (by unfold yS; omega) rfl (by decide) (by omega) (hw.2 10 (by decide))) (a3 (not_yet (by rw [hG.ls]; omega) hw.1))
      refine wpOp_skip h1 h4 q1 ?_
      rw [h3]
      exact ⟨y, rfl, Nx, Rd, hG.st15 (hw.2 13 (by decide)) q2 q3 q4 (hG.bel.trans (q5.mono a1))⟩
    · obtain ⟨o, h1, h2, h3, h4⟩ := looks_at ho (i := 16) rfl
      have hw := waits_at hd hi (l := DS.getD 16 []) rfl
      refine wpOp_value h1 h4 (eb_as h2 (got (j := 11) (s := 49) (by omega) (by unfold yS; omega) rfl (by decide) (by omega) (hw.2 11 (by decide)))) ?_
      rw [h3]
      exact ⟨_, put (by decide) _, Nx, Rd, hG.pure (by omega) rfl (Below.refl _ _)⟩
  · rintro L y w' ⟨Nx, Rd, hG⟩ hr
    have al := all_up (by rw [hG.ls, hsz]) hor hr
    have h12 := al 12 (by omega)
    have h13 := al 13 (by omega)
    obtain ⟨a1, a2, _, a4⟩ := hG.nx0 h12
    obtain ⟨b1, b2, _, b4⟩ := hG.rd0 h13
    exact hQ y Nx Rd w' (bthen (Below.drew (Below.refl _ _)) hG.bel) a1 b1 (hG.ne h12 h13) (a4 (al 14 (by omega))) (b4 (al 15 (by omega))) (hG.sl 12 (by omega) (by unfold yS; omega) h12) (hG.sl 13 (by omega) (by unfold yS; omega) h13)

end Go.Proofs.YtjageagnclmnjabGreatDoor.D
