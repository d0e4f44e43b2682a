/- PROVED: the document's own SOf: the region in which a step is taken, whole. a region that draws its order, whose operations that change memory wait for one another: whatever the order, each yields the same, and the worlds are the same. CONDITIONS: none beyond each theorem's own. -/
import Derived.Test.YtjageagnclmnjaaGreatDoorB10Rg
namespace Go.Proofs.YtjageagnclmnjaaGreatDoor.D
set_option maxRecDepth 100000
open Go.RowKit K
set_option linter.unusedVariables false

section
variable {P : Program} {ops : Array Oper} {Q : Exit → Act → World → Prop}
/-- operations, by what they do and where they leave it -/
def looks (ops : Array Oper) (O : List (Op × Option Nat)) : Prop := ops.toList.map (fun o => (o.op, o.dst, o.guard)) = O.map fun t => (t.1, t.2, none)
theorem looks_at {O : List (Op × Option Nat)} (h : looks ops O) {i : Nat} {t : Op × Option Nat} (hi : O[i]? = some t) : ∃ o, ops[i]? = some o ∧ o.op = t.1 ∧ o.dst = t.2 ∧ o.guard = none := by
  have e : (ops.toList.map (fun o => (o.op, o.dst, o.guard)))[i]? = some (t.1, t.2, none) := by rw [h, List.getElem?_map, hi]; rfl
  rw [List.getElem?_map] at e
  cases ho : ops.toList[i]? with
  | none => rw [ho] at e; cases e
  | some o =>
    rw [ho] at e
    injection e with e
    injection e with e1 e2
    injection e2 with e2 e3
    exact ⟨o, by simpa using ho, e1, e2, e3⟩
theorem looks_size {O : List (Op × Option Nat)} (h : looks ops O) : ops.size = O.length := by
  have := congrArg List.length h
  simpa using this
/-- what each waits for -/
def waits (ops : Array Oper) (D : List (List Nat)) : Bool := (ops.toList.zip D).all fun p => p.2.all fun d => p.1.after.any fun e => e.on == d && Region.binds .any e
theorem waits_at {D : List (List Nat)} (h : waits ops D = true) {L : Array Bool} {i : Nat} (hr : i ∈ Region.ready .any ops L) {l : List Nat} (hi : D[i]? = some l) : L.getD i true = false ∧ ∀ d ∈ l, L.getD d false = true := by
  obtain ⟨h0, o, ho, hall⟩ := mem_ready.1 hr
  refine ⟨h0, fun d hd => ?_⟩
  have hz : (ops.toList.zip D)[i]? = some (o, l) := by
    rw [List.getElem?_zip_eq_some]
    exact ⟨by simpa using ho, hi⟩
  have h1 := List.all_eq_true.1 h (o, l) (List.mem_of_getElem? hz)
  have h2 := List.all_eq_true.1 h1 d hd
  obtain ⟨e, he, h3⟩ := Array.any_eq_true'.1 h2
  simp only [Bool.and_eq_true, beq_iff_eq] at h3
  have := hall e he h3.2
  rw [h3.1] at this
  exact this
theorem not_yet {L : Array Bool} {i : Nat} (hs : i < L.size) (h : L.getD i true = false) : L.getD i false = false := by
  rw [Array.getD_eq_getD_getElem?, Array.getElem?_eq_getElem hs] at h ⊢
  exact h
theorem wp_region_slots {id : Nat} {a0 : Act} {w : World} (hm : P.follows .mixedOrders = true) (l : List Nat) (J : Array Bool → (Nat → Value) → World → Prop) (h0 : J (Array.replicate ops.size false) (fun s => a0.tmps.getD s undef) w.drew)
    (hstep : ∀ L y w', J L y w' → ∀ i, i ∈ Region.ready .any ops L → wpOp P ops Q i (fun a' w'' => ∃ y', a' = tA a0 l y' ∧ J (L.setIfInBounds i true) y' w'') (tA a0 l y) w')
    (hend : ∀ L y w', J L y w' → Region.ready .any ops L = [] → Q .normal (tA a0 l y) w') : (Code.region id ops true).wp P Q a0 w := by
  refine wp_region_inv hm (fun L a w' => ∃ y, a = tA a0 l y ∧ J L y w') ⟨_, tA_id a0 l, h0⟩ (fun L a w' ⟨y, ha, hJ⟩ i hi => ?_) (fun L a w' ⟨y, ha, hJ⟩ hr => ?_)
  · subst ha; exact hstep L y w' hJ i hi
  · subst ha; exact hend L y w' hJ hr
end

def O12 : List (Op × Option Nat) := [(.load 33 (.tmp 1), some 57), (.fieldAddr 102 (.tmp 6) 0, some 58), (.load 89 (.tmp 58), some 59), (.move (.tmp 7), some 60), (.indexAddr 89 (.tmp 59) (.tmp 60), some 61), (.load 45 (.tmp 61), some 62), (.load 31 (.tmp 9), some 63), (.call { callee := .value (.func 69), args := #[.tmp 57, .tmp 62, .tmp 63], argTypes := #[33, 45, 31] }, some 64), (.move (.tmp 64), some 56), (.extract (.tmp 56) 0, some 65), (.extract (.tmp 56) 1, some 66), (.extract (.tmp 56) 2, some 67), (.alloc 45, some 10), (.alloc 86, some 11), (.store 45 (.tmp 10) (.tmp 65), none), (.store 86 (.tmp 11) (.tmp 66), none), (.assign (.tmp 67), some 12)]
def D12 : List (List Nat) := [[], [], [1], [], [2, 3], [4], [], [0, 5, 6], [7], [8], [8], [8], [], [], [12, 9], [13, 10], [11]]
def l12 : List Nat := [57, 58, 59, 60, 61, 62, 63, 64, 56, 65, 66, 67, 10, 11, 12]
/-- what they yield -/
def vals12 (r : Ru) (C g0 k : Nat) (v0 : Value) (x yy : Sx) (rr : Rx) (lx ly : Int) : Nat → Value
  | 0 => .agg #[.int .i64 r.k0, .int .i64 r.k1, .int .i64 r.r, .int .i64 r.m, .int .i64 r.j]
  | 1 => .pointer (some ⟨C, 0, none⟩)
  | 2 => v0
  | 3 => .int .i64 (k : Int)
  | 4 => .pointer (some ⟨g0, k * 14, none⟩)
  | 5 => .agg #[.int .i64 x.f0.k, .int .i64 x.f0.n, .int .i64 x.f0.b, .int .i64 x.f0.a, .int .i64 x.f0.s, .int .i64 x.f0.q, .int .i64 x.f1.k, .int .i64 x.f1.n, .int .i64 x.f1.b, .int .i64 x.f1.a, .int .i64 x.f1.s, .int .i64 x.f1.q, .int .i64 x.w0, .int .i64 x.w1]
  | 6 => .agg #[.int .i64 lx, .int .i64 ly]
  | 7 => .tuple #[.agg #[.int .i64 yy.f0.k, .int .i64 yy.f0.n, .int .i64 yy.f0.b, .int .i64 yy.f0.a, .int .i64 yy.f0.s, .int .i64 yy.f0.q, .int .i64 yy.f1.k, .int .i64 yy.f1.n, .int .i64 yy.f1.b, .int .i64 yy.f1.a, .int .i64 yy.f1.s, .int .i64 yy.f1.q, .int .i64 yy.w0, .int .i64 yy.w1], .agg #[.int .i64 rr.s0, .int .i64 rr.s1, .int .i64 rr.c0, .int .i64 rr.c1, .int .i64 rr.l0, .int .i64 rr.l1], .int .i64 0]
  | 8 => .tuple #[.agg #[.int .i64 yy.f0.k, .int .i64 yy.f0.n, .int .i64 yy.f0.b, .int .i64 yy.f0.a, .int .i64 yy.f0.s, .int .i64 yy.f0.q, .int .i64 yy.f1.k, .int .i64 yy.f1.n, .int .i64 yy.f1.b, .int .i64 yy.f1.a, .int .i64 yy.f1.s, .int .i64 yy.f1.q, .int .i64 yy.w0, .int .i64 yy.w1], .agg #[.int .i64 rr.s0, .int .i64 rr.s1, .int .i64 rr.c0, .int .i64 rr.c1, .int .i64 rr.l0, .int .i64 rr.l1], .int .i64 0]
  | 9 => .agg #[.int .i64 yy.f0.k, .int .i64 yy.f0.n, .int .i64 yy.f0.b, .int .i64 yy.f0.a, .int .i64 yy.f0.s, .int .i64 yy.f0.q, .int .i64 yy.f1.k, .int .i64 yy.f1.n, .int .i64 yy.f1.b, .int .i64 yy.f1.a, .int .i64 yy.f1.s, .int .i64 yy.f1.q, .int .i64 yy.w0, .int .i64 yy.w1]
  | 10 => .agg #[.int .i64 rr.s0, .int .i64 rr.s1, .int .i64 rr.c0, .int .i64 rr.c1, .int .i64 rr.l0, .int .i64 rr.l1]
  | 11 => .int .i64 0
  | 12 => undef
  | 13 => undef
  | 14 => undef
  | 15 => undef
  | _ => .int .i64 0
/-- THE REGION: whatever the order, the step's state and round lie in new blocks -/
theorem region12 {Q : Exit → Act → World → Prop} {ops : Array Oper} (ho : looks ops O12) (hd : waits ops D12 = true) (hor : (List.range ops.size).all (fun i => ((ops[i]?).map fun o => o.after.all fun e => !Region.binds .any e || decide (e.on < i)).getD true) = true) {id : Nat} {a0 : Act} {W : World} (hm : Tryz.prog.follows .mixedOrders = true)
    {r : Ru} {R C Lt g0 n0 cp0 k : Nat} {x yy : Sx} {rr : Rx} {lx ly : Int} (hz : 67 < a0.tmps.size)
    (e1 : a0.eval (.tmp 1) = .pointer (some ⟨R, 0, none⟩)) (e6 : a0.eval (.tmp 6) = .pointer (some ⟨C, 0, none⟩)) (e7 : a0.eval (.tmp 7) = .int .i64 (k : Int)) (e9 : a0.eval (.tmp 9) = .pointer (some ⟨Lt, 0, none⟩))
    (hR : Rul W R r.k0 r.k1 r.r r.m r.j) (hC : W.cell? ⟨C, 0, none⟩ = some (.slice (some ⟨g0, 0, none⟩) n0 cp0)) (hk : (k : Int) < (n0 : Int)) (hx : Sat W g0 (k * 14) x) (hl0 : W.cell? ⟨Lt, 0, none⟩ = some (.int .i64 lx)) (hl1 : W.cell? ⟨Lt, 1, none⟩ = some (.int .i64 ly))
    (hc : ∀ v, Calls Tryz.prog 69 #[.agg #[.int .i64 r.k0, .int .i64 r.k1, .int .i64 r.r, .int .i64 r.m, .int .i64 r.j], .agg #[.int .i64 x.f0.k, .int .i64 x.f0.n, .int .i64 x.f0.b, .int .i64 x.f0.a, .int .i64 x.f0.s, .int .i64 x.f0.q, .int .i64 x.f1.k, .int .i64 x.f1.n, .int .i64 x.f1.b, .int .i64 x.f1.a, .int .i64 x.f1.s, .int .i64 x.f1.q, .int .i64 x.w0, .int .i64 x.w1], .agg #[.int .i64 lx, .int .i64 ly]] v fun e w' => e = .returned (.tuple #[.agg #[.int .i64 yy.f0.k, .int .i64 yy.f0.n, .int .i64 yy.f0.b, .int .i64 yy.f0.a, .int .i64 yy.f0.s, .int .i64 yy.f0.q, .int .i64 yy.f1.k, .int .i64 yy.f1.n, .int .i64 yy.f1.b, .int .i64 yy.f1.a, .int .i64 yy.f1.s, .int .i64 yy.f1.q, .int .i64 yy.w0, .int .i64 yy.w1], .agg #[.int .i64 rr.s0, .int .i64 rr.s1, .int .i64 rr.c0, .int .i64 rr.c1, .int .i64 rr.l0, .int .i64 rr.l1], .int .i64 0]) ∧ Below v.heap.size v w')
    (hQ : ∀ y Nx Rd w', Below W.heap.size W w' → W.heap.size ≤ Nx → W.heap.size ≤ Rd → Nx ≠ Rd → Sta w' Nx yy.f0.k yy.f0.n yy.f0.b yy.f0.a yy.f0.s yy.f0.q yy.f1.k yy.f1.n yy.f1.b yy.f1.a yy.f1.s yy.f1.q yy.w0 yy.w1 → Rnd w' Rd rr.s0 rr.s1 rr.c0 rr.c1 rr.l0 rr.l1 → y 10 = .pointer (some ⟨Nx, 0, none⟩) → y 11 = .pointer (some ⟨Rd, 0, none⟩) → Q .normal (tA a0 l12 y) w') : (Code.region id ops true).wp Tryz.prog Q a0 W := by
  have hsz : ops.size = 17 := looks_size ho
  refine wp_region_slots hm l12 (fun L y w' => ∃ Nx Rd, G12 W.drew (vals12 r C g0 k (.slice (some ⟨g0, 0, none⟩) n0 cp0) x yy rr lx ly) yy rr L y Nx Rd w') ?_ ?_ ?_
  · have f : ∀ i, (Array.replicate ops.size false).getD i false = false := fun i => by
      rw [Array.getD_eq_getD_getElem?, Array.getElem?_replicate]
      split <;> rfl
    refine ⟨0, 0, by simp [hsz], fun i _ _ h => ?_, Below.refl _ _, fun h => ?_, fun h => ?_, fun h => ?_, fun h => ?_, fun h => ?_⟩ <;> (rw [f] at h; cases h)
  · rintro L y w' ⟨Nx, Rd, hG⟩ i hi
    have hi17 : i < 17 := by
      obtain ⟨_, o, q, _⟩ := mem_ready.1 hi
      have := (Array.getElem?_eq_some_iff.1 q).1
      omega
    have hB : Below W.heap.size W w' := bthen (Below.drew (Below.refl _ _)) hG.bel
    have put : ∀ {s : Nat} (hs : s ∈ l12) (x : Value), (tA a0 l12 y).put (some s) x = tA a0 l12 (up y s x) := fun hs x => tA_put a0 l12 y hs x
    have sv : ∀ {s : Nat} (hs : s ∈ l12), s < a0.tmps.size → (tA a0 l12 y).eval (.tmp s) = y s := fun hs h => tA_slot a0 l12 y hs h
    have o1 : (tA a0 l12 y).eval (.tmp 1) = .pointer (some ⟨R, 0, none⟩) := (tA_other a0 l12 y (by decide)).trans e1
    have o6 : (tA a0 l12 y).eval (.tmp 6) = .pointer (some ⟨C, 0, none⟩) := (tA_other a0 l12 y (by decide)).trans e6
    have o7 : (tA a0 l12 y).eval (.tmp 7) = .int .i64 (k : Int) := (tA_other a0 l12 y (by decide)).trans e7
    have o9 : (tA a0 l12 y).eval (.tmp 9) = .pointer (some ⟨Lt, 0, none⟩) := (tA_other a0 l12 y (by decide)).trans e9
    have got : ∀ {j s : Nat}, j < 17 → y12 j → s12 j = s → s ∈ l12 → s < a0.tmps.size → L.getD j false = true → (tA a0 l12 y).eval (.tmp s) = v12 (vals12 r C g0 k (.slice (some ⟨g0, 0, none⟩) n0 cp0) x yy rr lx ly) Nx Rd j := fun h1 h2 h3 h4 h5 h6 => by
      rw [sv h4 h5, ← h3]; exact hG.sl _ h1 h2 h6
    rcases (show i = 0 ∨ i = 1 ∨ i = 2 ∨ i = 3 ∨ i = 4 ∨ i = 5 ∨ i = 6 ∨ i = 7 ∨ i = 8 ∨ i = 9 ∨ i = 10 ∨ i = 11 ∨ i = 12 ∨ i = 13 ∨ i = 14 ∨ i = 15 ∨ i = 16 by omega) with rfl | rfl | rfl | rfl | rfl | rfl | rfl | rfl | rfl | rfl | rfl | rfl | rfl | rfl | rfl | rfl | rfl
    · obtain ⟨o, h1, h2, h3, h4⟩ := looks_at ho (i := 0) rfl
      have hw := waits_at hd hi (l := D12.getD 0 []) rfl
      refine wpOp_value h1 h4 (eb_rules (r := r) h2 o1 (hR.kept hB)) ?_
      rw [h3]
      exact ⟨_, put (by decide) _, Nx, Rd, hG.pure (by omega) rfl (Below.refl _ _)⟩
    · obtain ⟨o, h1, h2, h3, h4⟩ := looks_at ho (i := 1) rfl
      have hw := waits_at hd hi (l := D12.getD 1 []) rfl
      refine wpOp_value h1 h4 (eb_fa0 h2 o6) ?_
      rw [h3]
      exact ⟨_, put (by decide) _, Nx, Rd, hG.pure (by omega) rfl (Below.refl _ _)⟩
    · obtain ⟨o, h1, h2, h3, h4⟩ := looks_at ho (i := 2) rfl
      have hw := waits_at hd hi (l := D12.getD 2 []) rfl
      refine wpOp_value h1 h4 (eb_ld25 h2 (got (j := 1) (s := 58) (by omega) (by unfold y12; omega) rfl (by decide) (by omega) (hw.2 1 (by decide))) ((hB.cell (p := ⟨C, 0, none⟩) (block_lt hC)).trans hC)) ?_
      rw [h3]
      exact ⟨_, put (by decide) _, Nx, Rd, hG.pure (by omega) rfl (Below.refl _ _)⟩
    · obtain ⟨o, h1, h2, h3, h4⟩ := looks_at ho (i := 3) rfl
      have hw := waits_at hd hi (l := D12.getD 3 []) rfl
      refine wpOp_value h1 h4 (ex_mv h2 o7) ?_
      rw [h3]
      exact ⟨_, put (by decide) _, Nx, Rd, hG.pure (by omega) rfl (Below.refl _ _)⟩
    · obtain ⟨o, h1, h2, h3, h4⟩ := looks_at ho (i := 4) rfl
      have hw := waits_at hd hi (l := D12.getD 4 []) rfl
      refine wpOp_value h1 h4 (eb_ix h2 (got (j := 2) (s := 59) (by omega) (by unfold y12; omega) rfl (by decide) (by omega) (hw.2 2 (by decide))) (got (j := 3) (s := 60) (by omega) (by unfold y12; omega) rfl (by decide) (by omega) (hw.2 3 (by decide))) hk) ?_
      rw [h3]
      exact ⟨_, put (by decide) _, Nx, Rd, hG.pure (by omega) rfl (Below.refl _ _)⟩
    · obtain ⟨o, h1, h2, h3, h4⟩ := looks_at ho (i := 5) rfl
      have hw := waits_at hd hi (l := D12.getD 5 []) rfl
      refine wpOp_value h1 h4 (eb_state h2 (got (j := 4) (s := 61) (by omega) (by unfold y12; omega) rfl (by decide) (by omega) (hw.2 4 (by decide))) (hx.kept hB)) ?_
      rw [h3]
      exact ⟨_, put (by decide) _, Nx, Rd, hG.pure (by omega) rfl (Below.refl _ _)⟩
    · obtain ⟨o, h1, h2, h3, h4⟩ := looks_at ho (i := 6) rfl
      have hw := waits_at hd hi (l := D12.getD 6 []) rfl
      refine wpOp_value h1 h4 (ex_pair h2 o9 ((hB.cell (p := ⟨Lt, 0, none⟩) (block_lt hl0)).trans hl0) ((hB.cell (p := ⟨Lt, 1, none⟩) (block_lt hl1)).trans hl1)) ?_
      rw [h3]
      exact ⟨_, put (by decide) _, Nx, Rd, hG.pure (by omega) rfl (Below.refl _ _)⟩
    · obtain ⟨o, h1, h2, h3, h4⟩ := looks_at ho (i := 7) rfl
      have hw := waits_at hd hi (l := D12.getD 7 []) rfl
      refine wpOp_call h1 h4 (eb_call h2 rfl (got (j := 0) (s := 57) (by omega) (by unfold y12; omega) rfl (by decide) (by omega) (hw.2 0 (by decide))) (got (j := 5) (s := 62) (by omega) (by unfold y12; omega) rfl (by decide) (by omega) (hw.2 5 (by decide))) (got (j := 6) (s := 63) (by omega) (by unfold y12; omega) rfl (by decide) (by omega) (hw.2 6 (by decide))) rfl) ((hc w').mono fun e w'' ⟨he, b⟩ => ⟨_, he, ?_⟩)
      rw [h3]
      exact ⟨_, put (by decide) _, Nx, Rd, hG.pure (by omega) rfl b⟩
    · obtain ⟨o, h1, h2, h3, h4⟩ := looks_at ho (i := 8) rfl
      have hw := waits_at hd hi (l := D12.getD 8 []) rfl
      refine wpOp_value h1 h4 (ex_mv h2 (got (j := 7) (s := 64) (by omega) (by unfold y12; omega) rfl (by decide) (by omega) (hw.2 7 (by decide)))) ?_
      rw [h3]
      exact ⟨_, put (by decide) _, Nx, Rd, hG.pure (by omega) rfl (Below.refl _ _)⟩
    · obtain ⟨o, h1, h2, h3, h4⟩ := looks_at ho (i := 9) rfl
      have hw := waits_at hd hi (l := D12.getD 9 []) rfl
      refine wpOp_value h1 h4 (eb_ext h2 (got (j := 8) (s := 56) (by omega) (by unfold y12; omega) rfl (by decide) (by omega) (hw.2 8 (by decide))) rfl) ?_
      rw [h3]
      exact ⟨_, put (by decide) _, Nx, Rd, hG.pure (by omega) rfl (Below.refl _ _)⟩
    · obtain ⟨o, h1, h2, h3, h4⟩ := looks_at ho (i := 10) rfl
      have hw := waits_at hd hi (l := D12.getD 10 []) rfl
      refine wpOp_value h1 h4 (eb_ext h2 (got (j := 8) (s := 56) (by omega) (by unfold y12; omega) rfl (by decide) (by omega) (hw.2 8 (by decide))) rfl) ?_
      rw [h3]
      exact ⟨_, put (by decide) _, Nx, Rd, hG.pure (by omega) rfl (Below.refl _ _)⟩
    · obtain ⟨o, h1, h2, h3, h4⟩ := looks_at ho (i := 11) rfl
      have hw := waits_at hd hi (l := D12.getD 11 []) rfl
      refine wpOp_value h1 h4 (eb_ext h2 (got (j := 8) (s := 56) (by omega) (by unfold y12; omega) rfl (by decide) (by omega) (hw.2 8 (by decide))) rfl) ?_
      rw [h3]
      exact ⟨_, put (by decide) _, Nx, Rd, hG.pure (by omega) rfl (Below.refl _ _)⟩
    · obtain ⟨o, h1, h2, h3, h4⟩ := looks_at ho (i := 12) rfl
      have hw := waits_at hd hi (l := D12.getD 12 []) rfl
      refine wpOp_value h1 h4 (eb_al48 h2) ?_
      rw [h3]
      exact ⟨_, put (by decide) _, _, Rd, hG.al10 (not_yet (by rw [hG.ls]; omega) hw.1)⟩
    · obtain ⟨o, h1, h2, h3, h4⟩ := looks_at ho (i := 13) rfl
      have hw := waits_at hd hi (l := D12.getD 13 []) rfl
      refine wpOp_value h1 h4 (eb_al62 h2) ?_
      rw [h3]
      exact ⟨_, put (by decide) _, Nx, _, hG.al11 (not_yet (by rw [hG.ls]; omega) hw.1)⟩
    · obtain ⟨o, h1, h2, h3, h4⟩ := looks_at ho (i := 14) rfl
      have hw := waits_at hd hi (l := D12.getD 14 []) rfl
      obtain ⟨a1, a2, a3, _⟩ := hG.nx0 (hw.2 12 (by decide))
      obtain ⟨w2, q1, q2, q3, q4, q5⟩ := eb_st48 (s' := yy) h2 (got (j := 12) (s := 10) (by omega) (by unfold y12; omega) rfl (by decide) (by omega) (hw.2 12 (by decide))) (got (j := 9) (s := 65) (by omega) (by unfold y12; omega) rfl (by decide) (by omega) (hw.2 9 (by decide))) (a3 (not_yet (by rw [hG.ls]; omega) hw.1))
      refine wpOp_skip h1 h4 q1 ?_
      rw [h3]
      exact ⟨y, rfl, Nx, Rd, hG.st14 (hw.2 12 (by decide)) q2 q3 q4 (hG.bel.trans (q5.mono a1))⟩
    · obtain ⟨o, h1, h2, h3, h4⟩ := looks_at ho (i := 15) rfl
      have hw := waits_at hd hi (l := D12.getD 15 []) rfl
      obtain ⟨a1, a2, a3, _⟩ := hG.rd0 (hw.2 13 (by decide))
      obtain ⟨w2, q1, q2, q3, q4, q5⟩ := eb_st62 (r' := rr) h2 (got (j := 13) (s := 11) (by omega) (by unfold y12; omega) rfl (by decide) (by omega) (hw.2 13 (by decide))) (got (j := 10) (s := 66) (by omega) (by unfold y12; omega) rfl (by decide) (by omega) (hw.2 10 (by decide))) (a3 (not_yet (by rw [hG.ls]; omega) hw.1))
      refine wpOp_skip h1 h4 q1 ?_
      rw [h3]
      exact ⟨y, rfl, Nx, Rd, hG.st15 (hw.2 13 (by decide)) q2 q3 q4 (hG.bel.trans (q5.mono a1))⟩
    · obtain ⟨o, h1, h2, h3, h4⟩ := looks_at ho (i := 16) rfl
      have hw := waits_at hd hi (l := D12.getD 16 []) rfl
      refine wpOp_value h1 h4 (eb_as h2 (got (j := 11) (s := 67) (by omega) (by unfold y12; omega) rfl (by decide) (by omega) (hw.2 11 (by decide)))) ?_
      rw [h3]
      exact ⟨_, put (by decide) _, Nx, Rd, hG.pure (by omega) rfl (Below.refl _ _)⟩
  · rintro L y w' ⟨Nx, Rd, hG⟩ hr
    have al := all_up (by rw [hG.ls, hsz]) hor hr
    have h12 := al 12 (by omega)
    have h13 := al 13 (by omega)
    obtain ⟨a1, a2, _, a4⟩ := hG.nx0 h12
    obtain ⟨b1, b2, _, b4⟩ := hG.rd0 h13
    exact hQ y Nx Rd w' (bthen (Below.drew (Below.refl _ _)) hG.bel) a1 b1 (hG.ne h12 h13) (a4 (al 14 (by omega))) (b4 (al 15 (by omega))) (hG.sl 12 (by omega) (by unfold y12; omega) h12) (hG.sl 13 (by omega) (by unfold y12; omega) h13)

end Go.Proofs.YtjageagnclmnjaaGreatDoor.D

namespace Go.Proofs.YtjageagnclmnjaaGreatDoor.D
set_option maxRecDepth 100000
open Go.RowKit K
set_option linter.unusedVariables false

/-- the slots that are written -/
def slotsOf (O : List (Op × Option Nat)) : List Nat := O.filterMap Prod.snd
/-- where operation i leaves what it yields -/
def slotAt (O : List (Op × Option Nat)) (i : Nat) : Option Nat := (O[i]?).bind Prod.snd
def chk (O : List (Op × Option Nat)) (D Tr : List (List Nat)) (ch : List Nat) : Bool :=
  ((List.range O.length).all fun i => (List.range O.length).all fun j => i == j || slotAt O i == none || slotAt O i != slotAt O j) &&
  ((List.range O.length).all fun i => (Tr.getD i []).all fun j => (D.getD i []).contains j || (D.getD i []).any fun d => (Tr.getD d []).contains j) &&
  ((List.range ch.length).all fun q => (List.range q).all fun p => (Tr.getD (ch.getD q 0) []).contains (ch.getD p 0)) &&
  (ch.all fun c => c < O.length) && decide (D.length = O.length) && decide ch.Nodup
theorem slot_mem {O : List (Op × Option Nat)} {i s : Nat} (h : slotAt O i = some s) : s ∈ slotsOf O := by
  unfold slotAt at h
  cases hi : O[i]? with
  | none => rw [hi] at h; cases h
  | some t =>
    rw [hi] at h
    exact List.mem_filterMap.2 ⟨t, List.mem_of_getElem? hi, h⟩
section
variable {P : Program} {ops : Array Oper} {Q : Exit → Act → World → Prop}
structure Cj (N : Nat) (O : List (Op × Option Nat)) (Tr : List (List Nat)) (ch : List Nat) (val : Nat → Value) (Ws : Nat → World) (L : Array Bool) (y : Nat → Value) (w : World) : Prop where
  ls : L.size = N
  sl : ∀ i s, slotAt O i = some s → L.getD i false = true → y s = val i
  dn : ∀ i, L.getD i false = true → ∀ j ∈ Tr.getD i [], L.getD j false = true
  ph : ∃ p, p ≤ ch.length ∧ (∀ q c, ch[q]? = some c → (L.getD c false = true ↔ q < p)) ∧ w = Ws p
/-- THE CHAIN -/
theorem wp_region_chain {O : List (Op × Option Nat)} (ho : looks ops O) {D : List (List Nat)} (hd : waits ops D = true) (hor : (List.range ops.size).all (fun i => ((ops[i]?).map fun o => o.after.all fun e => !Region.binds .any e || decide (e.on < i)).getD true) = true) {id : Nat} {a0 : Act} {W : World} (hm : P.follows .mixedOrders = true)
    (Tr : List (List Nat)) (ch : List Nat) (hck : chk O D Tr ch = true) (hz : ∀ s ∈ slotsOf O, s < a0.tmps.size) (val : Nat → Value) (Ws : Nat → World) (hW : Ws 0 = W.drew)
    (hs : ∀ i o, ops[i]? = some o → i < O.length → o.guard = none → ∀ t, O[i]? = some t → o.op = t.1 → o.dst = t.2 → ∀ p, p ≤ ch.length → (∀ q c, ch[q]? = some c → c ∈ Tr.getD i [] → q < p) → (∀ q c, ch[q]? = some c → i ∈ Tr.getD c [] → p ≤ q) → (∀ q, ch[q]? = some i → q = p) →
      ∀ a : Act, (∀ s, s ∉ slotsOf O → a.eval (.tmp s) = a0.eval (.tmp s)) → (∀ j s, j ∈ D.getD i [] → slotAt O j = some s → a.eval (.tmp s) = val j) →
        (t.2.isSome = true ∧ (execOp a.eval o).run P (Ws p) = .ok (.value (val i)) (Ws (if i ∈ ch then p + 1 else p))) ∨ (t.2 = none ∧ (execOp a.eval o).run P (Ws p) = .ok .skip (Ws (if i ∈ ch then p + 1 else p))))
    (hQ : ∀ y, (∀ i s, slotAt O i = some s → y s = val i) → Q .normal (tA a0 (slotsOf O) y) (Ws ch.length)) : (Code.region id ops true).wp P Q a0 W := by
  have hN : ops.size = O.length := looks_size ho
  unfold chk at hck
  simp only [Bool.and_eq_true, List.all_eq_true, List.mem_range, Bool.or_eq_true, beq_iff_eq, bne_iff_ne, List.any_eq_true, List.contains_iff_mem, decide_eq_true_eq] at hck
  obtain ⟨⟨⟨⟨⟨k1, k2⟩, k3⟩, k4⟩, k5⟩, k6⟩ := hck
  have chAt : ∀ q c, ch[q]? = some c → ch.getD q 0 = c ∧ q < ch.length := fun q c h => ⟨by rw [List.getD_eq_getElem?_getD, h]; rfl, (List.getElem?_eq_some_iff.1 h).1⟩
  have sdiff : ∀ i j s, i < O.length → j < O.length → i ≠ j → slotAt O i = some s → slotAt O j ≠ some s := fun i j s hi hj hne h1 h2 => by
    rcases k1 i hi j hj with (q | q) | q
    · exact hne q
    · rw [h1] at q; cases q
    · exact q (h1.trans h2.symm)
  have inL : ∀ {L : Array Bool} {i : Nat}, L.size = ops.size → L.getD i false = true → i < O.length := fun {L i} hL h => by
    rcases Nat.lt_or_ge i O.length with q | q
    · exact q
    · rw [Array.getD_eq_getD_getElem?, Array.getElem?_eq_none (by omega)] at h; cases h
  refine wp_region_slots hm (slotsOf O) (fun L y w' => Cj ops.size O Tr ch val Ws L y w') ?_ ?_ ?_
  · have f : ∀ i, (Array.replicate ops.size false).getD i false = false := fun i => by
      rw [Array.getD_eq_getD_getElem?, Array.getElem?_replicate]
      split <;> rfl
    refine ⟨by simp, fun i s _ h => ?_, fun i h => ?_, 0, Nat.zero_le _, fun q c _ => ?_, hW.symm⟩
    · rw [f] at h; cases h
    · rw [f] at h; cases h
    · rw [f]; simp
  · intro L y w' hG i hi
    obtain ⟨p, hp, hph, rfl⟩ := hG.ph
    have hio : i < ops.size := by
      obtain ⟨_, o, q, _⟩ := mem_ready.1 hi
      exact (Array.getElem?_eq_some_iff.1 q).1
    have hiO : i < O.length := by omega
    obtain ⟨t, ht⟩ : ∃ t, O[i]? = some t := ⟨_, List.getElem?_eq_getElem hiO⟩
    obtain ⟨o, h1, h2, h3, h4⟩ := looks_at ho ht
    have hw := waits_at hd hi (l := D.getD i []) (by rw [List.getD_eq_getElem?_getD, List.getElem?_eq_getElem (by omega)]; rfl)
    have hno : L.getD i false = false := not_yet (by rw [hG.ls]; exact hio) hw.1
    have htr : ∀ j ∈ Tr.getD i [], L.getD j false = true := fun j hj => by
      rcases k2 i hiO j hj with q | ⟨d, hd1, hd2⟩
      · exact hw.2 j q
      · exact hG.dn d (hw.2 d hd1) j hd2
    have hz' : i < L.size := by rw [hG.ls]; exact hio
    have got := hs i o h1 hiO h4 t ht h2 h3 p hp (fun q c hq hc => (hph q c hq).1 (htr c hc)) (fun q c hq hc => by
        rcases Nat.lt_or_ge q p with e | e
        · have := hG.dn c ((hph q c hq).2 e) i hc
          rw [hno] at this; cases this
        · exact e) (fun q hq => by
        have a1 : ¬ q < p := fun e => by have := (hph q i hq).2 e; rw [hno] at this; cases this
        rcases Nat.lt_or_ge p q with e | e
        · exfalso
          have hpq : p < ch.length := by have := (chAt q i hq).2; omega
          have hcp : ch[p]? = some ch[p] := List.getElem?_eq_getElem hpq
          have m := k3 q (chAt q i hq).2 p e
          rw [(chAt q i hq).1, (chAt p _ hcp).1] at m
          have := (hph p _ hcp).1 (htr _ m)
          omega
        · omega) (tA a0 (slotsOf O) y) (fun s h => tA_other a0 (slotsOf O) y h) (fun j s hj hsl => by
        rw [tA_slot a0 (slotsOf O) y (slot_mem hsl) (hz s (slot_mem hsl))]
        exact hG.sl j s hsl (hw.2 j hj))
    have hpn : ∃ p', p' ≤ ch.length ∧ (∀ q c, ch[q]? = some c → ((L.setIfInBounds i true).getD c false = true ↔ q < p')) ∧ Ws (if i ∈ ch then p + 1 else p) = Ws p' := by
      by_cases hm' : i ∈ ch
      · obtain ⟨q0, hq0, e0⟩ := List.getElem_of_mem hm'
        have hq0' : ch[q0]? = some i := by rw [List.getElem?_eq_getElem hq0, e0]
        have hq0p : q0 = p := by
          have a1 : ¬ q0 < p := fun e => by have := (hph q0 i hq0').2 e; rw [hno] at this; cases this
          rcases Nat.lt_or_ge p q0 with e | e
          · exfalso
            have hpq : p < ch.length := by omega
            have hcp : ch[p]? = some ch[p] := List.getElem?_eq_getElem hpq
            have m := k3 q0 hq0 p e
            rw [(chAt q0 i hq0').1, (chAt p _ hcp).1] at m
            have := (hph p _ hcp).1 (htr _ m)
            omega
          · omega
        subst hq0p
        refine ⟨q0 + 1, hq0, fun q c hq => ?_, by rw [if_pos hm']⟩
        rw [getD_set hz']
        by_cases e : c = i
        · subst e
          have : q = q0 := by
            have h5 := (List.getElem?_eq_some_iff.1 hq)
            obtain ⟨h5, h6⟩ := h5
            exact (List.getElem_inj k6).1 (h6.trans e0.symm)
          simp [this]
        · rw [if_neg e, hph q c hq]
          have : q ≠ q0 := fun e2 => e (by rw [e2, hq0'] at hq; injection hq with hq; exact hq.symm)
          omega
      · refine ⟨p, hp, fun q c hq => ?_, by rw [if_neg hm']⟩
        rw [getD_set hz', if_neg (fun e => hm' (by rw [← e]; exact List.mem_of_getElem? hq))]
        exact hph q c hq
    have hdn : ∀ j, (L.setIfInBounds i true).getD j false = true → ∀ j' ∈ Tr.getD j [], (L.setIfInBounds i true).getD j' false = true := fun j hj j' hj' => by
      rw [getD_set hz'] at hj ⊢
      by_cases e : j' = i
      · rw [if_pos e]
      · rw [if_neg e]
        by_cases e2 : j = i
        · subst e2; exact htr j' hj'
        · rw [if_neg e2] at hj; exact hG.dn j hj j' hj'
    rcases got with ⟨q1, q2⟩ | ⟨q1, q2⟩
    · obtain ⟨s, hsS⟩ := Option.isSome_iff_exists.1 q1
      have hsl : slotAt O i = some s := by unfold slotAt; rw [ht]; exact hsS
      refine wpOp_value h1 h4 q2 ?_
      rw [h3, hsS]
      refine ⟨_, tA_put a0 (slotsOf O) y (slot_mem hsl) _, by simp [hG.ls], fun j s' hj' hl => ?_, hdn, hpn⟩
      rw [getD_set hz'] at hl
      by_cases e : j = i
      · subst e
        rw [hsl] at hj'; injection hj' with hj'
        subst hj'
        exact up_at _ _ _
      · rw [if_neg e] at hl
        rw [up_ne _ _ _ (fun q => sdiff i j s hiO (inL hG.ls hl) (Ne.symm e) hsl (by rw [← q]; exact hj'))]
        exact hG.sl j s' hj' hl
    · refine wpOp_skip h1 h4 q2 ?_
      rw [h3, q1]
      refine ⟨y, rfl, by simp [hG.ls], fun j s' hj' hl => ?_, hdn, hpn⟩
      rw [getD_set hz'] at hl
      by_cases e : j = i
      · subst e
        unfold slotAt at hj'
        rw [ht] at hj'
        have : t.2 = some s' := hj'
        rw [q1] at this; cases this
      · rw [if_neg e] at hl; exact hG.sl j s' hj' hl
  · intro L y w' hG hr
    have al := all_up hG.ls hor hr
    obtain ⟨p, hp, hph, rfl⟩ := hG.ph
    have hpe : p = ch.length := by
      rcases Nat.lt_or_ge p ch.length with e | e
      · have hcp : ch[p]? = some ch[p] := List.getElem?_eq_getElem e
        have := (hph p _ hcp).1 (al _ (by rw [hN]; exact k4 _ (List.getElem_mem e)))
        omega
      · omega
    subst hpe
    refine hQ y fun i s hsl => hG.sl i s hsl (al i ?_)
    rw [hN]
    rcases Nat.lt_or_ge i O.length with q | q
    · exact q
    · unfold slotAt at hsl; rw [List.getElem?_eq_none q] at hsl; cases hsl
end
end Go.Proofs.YtjageagnclmnjaaGreatDoor.D
