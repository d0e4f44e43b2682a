/- PROVED: what holds in the document's own SOf behind whichever operations of the region in which four rows grow. CONDITIONS: none beyond each theorem's own. -/
import Derived.Test.YtjageagnclmnjaaGreatDoorB07Reg
namespace Go.Proofs.YtjageagnclmnjaaGreatDoor
open Go.RowKit
set_option linter.unusedVariables false

/-- slots that are written in whatever order -/
def sets (y : Nat → Value) : List Nat → Array Value → Array Value
  | [], ts => ts
  | s :: l, ts => sets y l (ts.setIfInBounds s (y s))
theorem sets_size (y : Nat → Value) : ∀ (l : List Nat) (ts : Array Value), (sets y l ts).size = ts.size
  | [], ts => rfl
  | s :: l, ts => by rw [sets, sets_size]; simp
theorem sets_get (y : Nat → Value) : ∀ (l : List Nat) (ts : Array Value) (j : Nat), (sets y l ts)[j]? = if j ∈ l ∧ j < ts.size then some (y j) else ts[j]?
  | [], ts, j => by simp [sets]
  | s :: l, ts, j => by
    rw [sets, sets_get y l, Array.size_setIfInBounds]
    by_cases h : j ∈ l ∧ j < ts.size
    · rw [if_pos h, if_pos ⟨by simp [h.1], h.2⟩]
    · rw [if_neg h, Array.getElem?_setIfInBounds]
      by_cases e : s = j
      · subst e
        by_cases hs : s < ts.size
        · simp [hs]
        · simp [hs]
      · rw [if_neg e]
        have : ¬ (j ∈ s :: l ∧ j < ts.size) := fun q => h ⟨by rcases List.mem_cons.1 q.1 with q1 | q1; (exact absurd q1.symm e); (exact q1), q.2⟩
        rw [if_neg this]
theorem sets_put (y : Nat → Value) (l : List Nat) (ts : Array Value) {s : Nat} (hs : s ∈ l) (x : Value) : (sets y l ts).setIfInBounds s x = sets (up y s x) l ts := by
  apply Array.ext_getElem?
  intro j
  rw [Array.getElem?_setIfInBounds, sets_size, sets_get, sets_get]
  by_cases e : s = j
  · subst e
    rw [if_pos rfl]
    by_cases h : s < ts.size
    · rw [if_pos h, if_pos ⟨hs, h⟩, up_at]
    · rw [if_neg h, if_neg (fun q => h q.2)]
      simp [Nat.le_of_not_lt h]
  · rw [if_neg e]
    by_cases h : j ∈ l ∧ j < ts.size
    · rw [if_pos h, if_pos h, up_ne _ _ _ (fun q => e q.symm)]
    · rw [if_neg h, if_neg h]
theorem sets_id (l : List Nat) (ts : Array Value) : sets (fun s => ts.getD s undef) l ts = ts := by
  apply Array.ext_getElem?
  intro j
  rw [sets_get]
  by_cases h : j ∈ l ∧ j < ts.size
  · rw [if_pos h]; simp [h.2]
  · rw [if_neg h]
/-- the acts of the region -/
def tA (a0 : Act) (l : List Nat) (y : Nat → Value) : Act := ⟨sets y l a0.tmps, a0.defers⟩
theorem tA_put (a0 : Act) (l : List Nat) (y : Nat → Value) {s : Nat} (hs : s ∈ l) (x : Value) : (tA a0 l y).put (some s) x = tA a0 l (up y s x) := by
  show (⟨(sets y l a0.tmps).setIfInBounds s x, a0.defers⟩ : Act) = _
  rw [sets_put y l a0.tmps hs x]
  rfl
theorem tA_slot (a0 : Act) (l : List Nat) (y : Nat → Value) {s : Nat} (hs : s ∈ l) (hz : s < a0.tmps.size) : (tA a0 l y).eval (.tmp s) = y s := by
  show (sets y l a0.tmps).getD s undef = y s
  rw [Array.getD_eq_getD_getElem?, sets_get, if_pos ⟨hs, hz⟩]; rfl
theorem tA_other (a0 : Act) (l : List Nat) (y : Nat → Value) {s : Nat} (hs : s ∉ l) : (tA a0 l y).eval (.tmp s) = a0.eval (.tmp s) := by
  show (sets y l a0.tmps).getD s undef = a0.tmps.getD s undef
  rw [Array.getD_eq_getD_getElem?, Array.getD_eq_getD_getElem?, sets_get, if_neg (fun q => hs q.1)]
theorem tA_id (a0 : Act) (l : List Nat) : a0 = tA a0 l (fun s => a0.tmps.getD s undef) := by
  unfold tA
  rw [sets_id]

/-- which have come up: the append, the literal, the store of row c -/
def lA (L : Array Bool) (c : Nat) : Bool := if 1 ≤ c ∧ c < 5 then L.getD (5 * (c - 1) + 4) false else false
def lB (L : Array Bool) (c : Nat) : Bool := if 1 ≤ c ∧ c < 5 then L.getD (5 * (c - 1) + 3) false else false
def lS (L : Array Bool) (c : Nat) : Bool := if 1 ≤ c ∧ c < 5 then L.getD (21 + 2 * (c - 1)) false else false
theorem getD_set {L : Array Bool} {i : Nat} (hi : i < L.size) (j : Nat) : (L.setIfInBounds i true).getD j false = if j = i then true else L.getD j false := by
  by_cases e : j = i
  · subst e; simp [hi]
  · rw [if_neg e, getD_set_ne false (Ne.symm e)]
theorem lA_set {L : Array Bool} {i : Nat} (hi : i < L.size) (h : ∀ d, d < 4 → i ≠ 5 * d + 4) : lA (L.setIfInBounds i true) = lA L := funext fun c => by
  unfold lA
  by_cases hc : 1 ≤ c ∧ c < 5
  · rw [if_pos hc, if_pos hc, getD_set hi, if_neg (Ne.symm (h (c - 1) (by omega)))]
  · rw [if_neg hc, if_neg hc]
theorem lB_set {L : Array Bool} {i : Nat} (hi : i < L.size) (h : ∀ d, d < 4 → i ≠ 5 * d + 3) : lB (L.setIfInBounds i true) = lB L := funext fun c => by
  unfold lB
  by_cases hc : 1 ≤ c ∧ c < 5
  · rw [if_pos hc, if_pos hc, getD_set hi, if_neg (Ne.symm (h (c - 1) (by omega)))]
  · rw [if_neg hc, if_neg hc]
theorem lS_set {L : Array Bool} {i : Nat} (hi : i < L.size) (h : ∀ d, d < 4 → i ≠ 21 + 2 * d) : lS (L.setIfInBounds i true) = lS L := funext fun c => by
  unfold lS
  by_cases hc : 1 ≤ c ∧ c < 5
  · rw [if_pos hc, if_pos hc, getD_set hi, if_neg (Ne.symm (h (c - 1) (by omega)))]
  · rw [if_neg hc, if_neg hc]

/-- where an operation leaves what it yields, and what that is -/
def slot (i : Nat) : Nat := if i < 20 then 97 + i else 117 + (i - 20) / 2
def vl (C : Nat) (v el : Nat → Value) (b : Nat → Nat) (v' : Nat → Value) (i : Nat) : Value :=
  if i < 20 then
    if i % 5 = 0 then .pointer (some ⟨C, i / 5 + 1, none⟩) else if i % 5 = 1 then v (i / 5 + 1) else if i % 5 = 2 then el (i / 5 + 1) else if i % 5 = 3 then .slice (some ⟨b (i / 5 + 1), 0, none⟩) 1 1 else v' (i / 5 + 1)
  else .pointer (some ⟨C, (i - 20) / 2 + 1, none⟩)
def yields (i : Nat) : Prop := i < 20 ∨ i % 2 = 0
theorem slot_ne {i j : Nat} (hi : i < 28) (hj : j < 28) (yi : yields i) (yj : yields j) (h : j ≠ i) : slot j ≠ slot i := by
  unfold slot yields at *
  split <;> split <;> omega

structure Rj (B0 : Nat) (K : Nat → Prop) (C : Nat) (v el : Nat → Value) (n : Nat → Nat) (xs new : Nat → List Value) (w1 : World) (B1 : Nat) (wB : World) (L : Array Bool) (y v' : Nat → Value) (b : Nat → Nat) (w : World) : Prop where
  ls : L.size = 28
  sl : ∀ i, i < 28 → yields i → L.getD i false = true → y (slot i) = vl C v el b v' i
  fam : Fam B0 (fun g => K g ∨ ∃ c, c < 5 ∧ lB L c = true ∧ g = b c) (fun c => if lA L c then v' c else v c) (fun c => if lA L c then n c + 1 else n c) (fun c => if lA L c then xs c ++ new c else xs c) w
  lit : ∀ c, c < 5 → lB L c = true → w.heap[b c]? = some (.cells (new c).toArray (fty c) (0, 0)) ∧ b c ≠ C
  cel : ∀ c, 1 ≤ c → c < 5 → w.cell? ⟨C, c, none⟩ = some (if lS L c then v' c else v c) ∧ w.frozen? ⟨C, c, none⟩ = false
  nul : w.cell? ⟨C, 0, none⟩ = some (v 0) ∧ w.frozen? ⟨C, 0, none⟩ = false
  vs : ∀ c, c < 5 → lA L c = true → ∃ g cp, v' c = .slice (some ⟨g, 0, none⟩) (n c + 1) cp
  oth : ∀ g, K g → g ≠ C → w.heap[g]? = w1.heap[g]?
  bel : Below B1 wB w
  clo : ∀ d, d < 4 → L.getD (21 + 2 * d) false = true → L.getD (5 * d + 1) false = true ∧ L.getD (5 * d + 4) false = true
  kC : K C
  b1 : B1 ≤ C ∧ B1 ≤ B0 ∧ B1 ≤ w.heap.size

section
variable {B0 : Nat} {K : Nat → Prop} {C : Nat} {v el : Nat → Value} {n : Nat → Nat} {xs new : Nat → List Value} {w1 : World} {B1 : Nat} {wB : World} {L : Array Bool} {y v' : Nat → Value} {b : Nat → Nat} {w : World}
theorem Rj.slots (h : Rj B0 K C v el n xs new w1 B1 wB L y v' b w) {i : Nat} (hi : i < 28) (yi : yields i) {b2 : Nat → Nat} {v2 : Nat → Value} {x : Value} (hx : x = vl C v el b2 v2 i) (hold : ∀ j, j < 28 → j ≠ i → yields j → L.getD j false = true → vl C v el b2 v2 j = vl C v el b v' j) :
    ∀ j, j < 28 → yields j → (L.setIfInBounds i true).getD j false = true → up y (slot i) x (slot j) = vl C v el b2 v2 j := fun j hj yj hl => by
  rw [getD_set (by rw [h.ls]; exact hi)] at hl
  by_cases e : j = i
  · subst e; rw [up_at]; exact hx
  · rw [if_neg e] at hl
    rw [up_ne _ _ _ (slot_ne hi hj yi yj e), h.sl j hj yj hl, hold j hj e yj hl]
theorem Rj.closed (h : Rj B0 K C v el n xs new w1 B1 wB L y v' b w) {i : Nat} (hi : i < 28) (hd : ∀ d, d < 4 → i = 21 + 2 * d → L.getD (5 * d + 1) false = true ∧ L.getD (5 * d + 4) false = true) :
    ∀ d, d < 4 → (L.setIfInBounds i true).getD (21 + 2 * d) false = true → (L.setIfInBounds i true).getD (5 * d + 1) false = true ∧ (L.setIfInBounds i true).getD (5 * d + 4) false = true := fun d hd4 hl => by
  have hz : i < L.size := by rw [h.ls]; exact hi
  rw [getD_set hz] at hl
  have key : L.getD (5 * d + 1) false = true ∧ L.getD (5 * d + 4) false = true := by
    by_cases e : 21 + 2 * d = i
    · exact hd d hd4 e.symm
    · rw [if_neg e] at hl; exact h.clo d hd4 hl
  refine ⟨getD_set_true key.1, getD_set_true key.2⟩
/-- what yields and leaves the world as it is -/
theorem Rj.pure (h : Rj B0 K C v el n xs new w1 B1 wB L y v' b w) {i : Nat} (hi : i < 28) (yi : yields i) (hn3 : ∀ d, d < 4 → i ≠ 5 * d + 3) (hn4 : ∀ d, d < 4 → i ≠ 5 * d + 4) {x : Value} (hx : x = vl C v el b v' i) :
    Rj B0 K C v el n xs new w1 B1 wB (L.setIfInBounds i true) (up y (slot i) x) v' b w := by
  have hz : i < L.size := by rw [h.ls]; exact hi
  have e1 := lA_set hz hn4
  have e2 := lB_set hz hn3
  have e3 : lS (L.setIfInBounds i true) = lS L := lS_set hz fun d hd e => by unfold yields at yi; omega
  refine ⟨by simp [h.ls], h.slots hi yi hx fun j _ _ _ _ => rfl, ?_, ?_, ?_, h.nul, ?_, h.oth, h.bel, h.closed hi fun d _ e => ?_, h.kC, h.b1⟩
  · rw [e1, e2]; exact h.fam
  · rw [e2]; exact h.lit
  · rw [e3]; exact h.cel
  · rw [e1]; exact h.vs
  · unfold yields at yi; omega
theorem lB_at {L : Array Bool} {c : Nat} (h1 : 1 ≤ c) (h5 : c < 5) : lB L c = L.getD (5 * (c - 1) + 3) false := by unfold lB; rw [if_pos ⟨h1, h5⟩]
theorem lA_at {L : Array Bool} {c : Nat} (h1 : 1 ≤ c) (h5 : c < 5) : lA L c = L.getD (5 * (c - 1) + 4) false := by unfold lA; rw [if_pos ⟨h1, h5⟩]
theorem lS_at {L : Array Bool} {c : Nat} (h1 : 1 ≤ c) (h5 : c < 5) : lS L c = L.getD (21 + 2 * (c - 1)) false := by unfold lS; rw [if_pos ⟨h1, h5⟩]
theorem lB_new {L : Array Bool} {c : Nat} (h1 : 1 ≤ c) (h5 : c < 5) (hz : 5 * (c - 1) + 3 < L.size) (d : Nat) : lB (L.setIfInBounds (5 * (c - 1) + 3) true) d = if d = c then true else lB L d := by
  by_cases e : d = c
  · subst e; rw [lB_at h1 h5, getD_set hz, if_pos rfl, if_pos rfl]
  · rw [if_neg e]
    unfold lB
    by_cases hd : 1 ≤ d ∧ d < 5
    · rw [if_pos hd, if_pos hd, getD_set hz, if_neg (by omega)]
    · rw [if_neg hd, if_neg hd]
theorem lA_new {L : Array Bool} {c : Nat} (h1 : 1 ≤ c) (h5 : c < 5) (hz : 5 * (c - 1) + 4 < L.size) (d : Nat) : lA (L.setIfInBounds (5 * (c - 1) + 4) true) d = if d = c then true else lA L d := by
  by_cases e : d = c
  · subst e; rw [lA_at h1 h5, getD_set hz, if_pos rfl, if_pos rfl]
  · rw [if_neg e]
    unfold lA
    by_cases hd : 1 ≤ d ∧ d < 5
    · rw [if_pos hd, if_pos hd, getD_set hz, if_neg (by omega)]
    · rw [if_neg hd, if_neg hd]
theorem lS_new {L : Array Bool} {c : Nat} (h1 : 1 ≤ c) (h5 : c < 5) (hz : 21 + 2 * (c - 1) < L.size) (d : Nat) : lS (L.setIfInBounds (21 + 2 * (c - 1)) true) d = if d = c then true else lS L d := by
  by_cases e : d = c
  · subst e; rw [lS_at h1 h5, getD_set hz, if_pos rfl, if_pos rfl]
  · rw [if_neg e]
    unfold lS
    by_cases hd : 1 ≤ d ∧ d < 5
    · rw [if_pos hd, if_pos hd, getD_set hz, if_neg (by omega)]
    · rw [if_neg hd, if_neg hd]
theorem vl_b {C : Nat} {v el : Nat → Value} {b b2 : Nat → Nat} {v' : Nat → Value} {j : Nat} (h : j % 5 = 3 → j < 20 → b2 (j / 5 + 1) = b (j / 5 + 1)) : vl C v el b2 v' j = vl C v el b v' j := by
  unfold vl
  split
  · rename_i h20
    split
    · rfl
    · split
      · rfl
      · split
        · rfl
        · split
          · rw [h (by assumption) h20]
          · rfl
  · rfl
theorem vl_v {C : Nat} {v el : Nat → Value} {b : Nat → Nat} {v' v2 : Nat → Value} {j : Nat} (h : j % 5 = 4 → j < 20 → v2 (j / 5 + 1) = v' (j / 5 + 1)) : vl C v el b v2 j = vl C v el b v' j := by
  unfold vl
  split
  · rename_i h20
    split
    · rfl
    · split
      · rfl
      · split
        · rfl
        · split
          · rfl
          · rw [h (by omega) h20]
  · rfl
theorem vl3 (C : Nat) (v el : Nat → Value) (b : Nat → Nat) (v' : Nat → Value) {c : Nat} (h1 : 1 ≤ c) (h5 : c < 5) : vl C v el b v' (5 * (c - 1) + 3) = .slice (some ⟨b c, 0, none⟩) 1 1 := by
  unfold vl
  rw [if_pos (by omega), if_neg (by omega), if_neg (by omega), if_neg (by omega), if_pos (by omega), show (5 * (c - 1) + 3) / 5 + 1 = c by omega]
theorem vl4 (C : Nat) (v el : Nat → Value) (b : Nat → Nat) (v' : Nat → Value) {c : Nat} (h1 : 1 ≤ c) (h5 : c < 5) : vl C v el b v' (5 * (c - 1) + 4) = v' c := by
  unfold vl
  rw [if_pos (by omega), if_neg (by omega), if_neg (by omega), if_neg (by omega), if_neg (by omega), show (5 * (c - 1) + 4) / 5 + 1 = c by omega]
/-- the literal of row c -/
theorem Rj.laid (h : Rj B0 K C v el n xs new w1 B1 wB L y v' b w) {c : Nat} (h1 : 1 ≤ c) (h5 : c < 5) (hno : L.getD (5 * (c - 1) + 3) true = false) :
    Rj B0 K C v el n xs new w1 B1 wB (L.setIfInBounds (5 * (c - 1) + 3) true) (up y (slot (5 * (c - 1) + 3)) (.slice (some ⟨w.heap.size, 0, none⟩) 1 1)) v' (up b c w.heap.size) (w.alloc (.cells (new c).toArray (fty c))) := by
  have hz : 5 * (c - 1) + 3 < L.size := by rw [h.ls]; omega
  have e1 : lA (L.setIfInBounds (5 * (c - 1) + 3) true) = lA L := lA_set hz fun d _ => by omega
  have e3 : lS (L.setIfInBounds (5 * (c - 1) + 3) true) = lS L := lS_set hz fun d _ => by omega
  have hB : Below w.heap.size w (w.alloc (.cells (new c).toArray (fty c))) := balloc (Below.refl _ _) _
  refine ⟨by simp [h.ls], h.slots (by omega) (.inl (by omega)) (by rw [vl3 C v el _ v' h1 h5, up_at]) fun j hj hne _ _ => vl_b fun q1 q2 => up_ne _ _ _ (by omega), ?_, ?_, ?_, ?_, ?_, ?_, ?_, h.closed (by omega) fun d _ e => by omega, h.kC, ?_⟩
  · rw [e1]
    refine (h.fam.alloc _).less fun g hg => ?_
    rcases hg with hg | ⟨d, hd, hl, rfl⟩
    · exact .inl (.inl hg)
    · rw [lB_new h1 h5 hz] at hl
      by_cases e : d = c
      · subst e; exact .inr (up_at _ _ _)
      · rw [if_neg e] at hl
        exact .inl (.inr ⟨d, hd, hl, up_ne _ _ _ e⟩)
  · intro d hd hl
    rw [lB_new h1 h5 hz] at hl
    by_cases e : d = c
    · subst e
      rw [up_at]
      refine ⟨by show (w.heap.push _)[w.heap.size]? = _; simp, fun q => ?_⟩
      have := (h.fam.kb C (.inl h.kC)).1
      omega
    · rw [if_neg e] at hl
      rw [up_ne _ _ _ e]
      obtain ⟨q1, q2⟩ := h.lit d hd hl
      exact ⟨(hB.block _ (lt_of_block q1)).trans q1, q2⟩
  · intro d hd1 hd
    rw [e3]
    obtain ⟨q1, q2⟩ := h.cel d hd1 hd
    exact ⟨(hB.cell (p := ⟨C, d, none⟩) (block_lt q1)).trans q1, (hB.frozen (p := ⟨C, d, none⟩) (block_lt q1)).trans q2⟩
  · obtain ⟨q1, q2⟩ := h.nul
    exact ⟨(hB.cell (p := ⟨C, 0, none⟩) (block_lt q1)).trans q1, (hB.frozen (p := ⟨C, 0, none⟩) (block_lt q1)).trans q2⟩
  · rw [e1]; exact h.vs
  · exact fun g hg hne => (hB.block g (h.fam.kb g (.inl hg)).1).trans (h.oth g hg hne)
  · exact h.bel.alloc h.b1.2.2 _
  · have := h.b1; simp; omega
/-- row c grows -/
theorem Rj.grown (h : Rj B0 K C v el n xs new w1 B1 wB L y v' b w) {c : Nat} (h1 : 1 ≤ c) (h5 : c < 5) (hno : L.getD (5 * (c - 1) + 4) true = false) (hb : L.getD (5 * (c - 1) + 3) false = true) (hn : n c + 1 ≤ 1048576) (hl : (new c).length = fsz c) (ho : ∀ u ∈ new c, u.oneCell' = true) (ty : Nat) :
    ∃ x w2, (Builtin.append_ #[fsl c, fsl c] ty #[v c, .slice (some ⟨b c, 0, none⟩) 1 1]).run Tryz.prog w = .ok x w2 ∧
      Rj B0 K C v el n xs new w1 B1 wB (L.setIfInBounds (5 * (c - 1) + 4) true) (up y (slot (5 * (c - 1) + 4)) x) (up v' c x) b w2 := by
  have hz : 5 * (c - 1) + 4 < L.size := by rw [h.ls]; omega
  have hno' : lA L c = false := by
    rw [lA_at h1 h5]
    rw [Array.getD_eq_getD_getElem?] at hno ⊢
    rw [Array.getElem?_eq_getElem hz] at hno ⊢
    exact hno
  have hbb : lB L c = true := by rw [lB_at h1 h5]; exact hb
  have e2 : lB (L.setIfInBounds (5 * (c - 1) + 4) true) = lB L := lB_set hz fun d _ => by omega
  have e3 : lS (L.setIfInBounds (5 * (c - 1) + 4) true) = lS L := lS_set hz fun d _ => by omega
  have hcur : (if lA L c = true then v' c else v c) = v c := by simp [hno']
  have hnn : (if lA L c = true then n c + 1 else n c) = n c := by simp [hno']
  have hxx : (if lA L c = true then xs c ++ new c else xs c) = xs c := by simp [hno']
  obtain ⟨g, cap, w2, hr, hF, hK, hg⟩ := h.fam.append h5 (by rw [hnn]; exact hn) (h.lit c h5 hbb).1 hl ho ty
  rw [hnn, hxx] at hF
  rw [hcur, hnn] at hr
  have hsz := hg.size
  refine ⟨_, w2, hr, by simp [h.ls], h.slots (by omega) (.inl (by omega)) (by rw [vl4 C v el b _ h1 h5, up_at]) fun j hj hne _ _ => vl_v fun q1 q2 => up_ne _ _ _ (by omega), ?_, ?_, ?_, ?_, ?_, ?_, ?_, h.closed (by omega) fun d _ e => by omega, h.kC, ?_⟩
  · rw [e2]
    have q1 : (fun d => if lA (L.setIfInBounds (5 * (c - 1) + 4) true) d = true then up v' c (.slice (some ⟨g, 0, none⟩) (n c + 1) cap) d else v d) = up (fun d => if lA L d = true then v' d else v d) c (.slice (some ⟨g, 0, none⟩) (n c + 1) cap) := funext fun d => by
      rw [lA_new h1 h5 hz]
      by_cases e : d = c
      · subst e; simp [up_at]
      · simp only [if_neg e, up_ne _ _ _ e]
    have q2 : (fun d => if lA (L.setIfInBounds (5 * (c - 1) + 4) true) d = true then n d + 1 else n d) = up (fun d => if lA L d = true then n d + 1 else n d) c (n c + 1) := funext fun d => by
      rw [lA_new h1 h5 hz]
      by_cases e : d = c
      · subst e; simp [up_at]
      · simp only [if_neg e, up_ne _ _ _ e]
    have q3 : (fun d => if lA (L.setIfInBounds (5 * (c - 1) + 4) true) d = true then xs d ++ new d else xs d) = up (fun d => if lA L d = true then xs d ++ new d else xs d) c (xs c ++ new c) := funext fun d => by
      rw [lA_new h1 h5 hz]
      by_cases e : d = c
      · subst e; simp [up_at]
      · simp only [if_neg e, up_ne _ _ _ e]
    rw [q1, q2, q3]; exact hF
  · intro d hd hl
    rw [e2] at hl
    obtain ⟨q1, q2⟩ := h.lit d hd hl
    exact ⟨(hK _ (.inr ⟨d, hd, hl, rfl⟩)).trans q1, q2⟩
  · intro d hd1 hd
    rw [e3]
    obtain ⟨q1, q2⟩ := h.cel d hd1 hd
    have hC := hK C (.inl h.kC)
    refine ⟨(World.cell?_of_block (a := ⟨C, d, none⟩) hC).trans ?_, (World.frozen?_of_block (a := ⟨C, d, none⟩) hC).trans q2⟩
    rw [q1]
    by_cases e : d = c
    · subst e
      have : lS L d = false := by
        cases hs : lS L d with
        | false => rfl
        | true =>
          rw [lS_at hd1 hd] at hs
          have := (h.clo (d - 1) (by omega) hs).2
          rw [← lA_at hd1 hd, hno'] at this
          cases this
      rw [this]; rfl
    · rw [up_ne _ _ _ e]
  · obtain ⟨q1, q2⟩ := h.nul
    have hC := hK C (.inl h.kC)
    exact ⟨(World.cell?_of_block (a := ⟨C, 0, none⟩) hC).trans q1, (World.frozen?_of_block (a := ⟨C, 0, none⟩) hC).trans q2⟩
  · intro d hd hl
    rw [lA_new h1 h5 hz] at hl
    by_cases e : d = c
    · subst e; rw [up_at]; exact ⟨g, cap, rfl⟩
    · rw [if_neg e] at hl
      rw [up_ne _ _ _ e]; exact h.vs d hd hl
  · exact fun g hg hne => (hK g (.inl hg)).trans (h.oth g hg hne)
  · exact h.bel.grown hg h.b1.2.2 (fun q hq => by have := ((h.fam.own c h5).lt q hq).1; have := h.b1.2.1; omega)
  · have := h.b1; omega
/-- row c's field is written -/
theorem Rj.stored (h : Rj B0 K C v el n xs new w1 B1 wB L y v' b w) {c : Nat} (h1 : 1 ≤ c) (h5 : c < 5) (hno : L.getD (21 + 2 * (c - 1)) true = false) (hld : L.getD (5 * (c - 1) + 1) false = true) (hap : L.getD (5 * (c - 1) + 4) false = true) :
    Rj B0 K C v el n xs new w1 B1 wB (L.setIfInBounds (21 + 2 * (c - 1)) true) y v' b (w.setCell ⟨C, c, none⟩ (v' c)) := by
  have hz : 21 + 2 * (c - 1) < L.size := by rw [h.ls]; omega
  have e1 : lA (L.setIfInBounds (21 + 2 * (c - 1)) true) = lA L := lA_set hz fun d _ => by omega
  have e2 : lB (L.setIfInBounds (21 + 2 * (c - 1)) true) = lB L := lB_set hz fun d _ => by omega
  refine ⟨by simp [h.ls], fun j hj yj hl => ?_, ?_, ?_, ?_, ?_, ?_, ?_, ?_, h.closed (by omega) fun d hd e => ?_, h.kC, ?_⟩
  · rw [getD_set hz, if_neg (by unfold yields at yj; omega)] at hl
    exact h.sl j hj yj hl
  · rw [e1, e2]; exact h.fam.put (p := ⟨C, c, none⟩) (.inl h.kC) _
  · intro d hd hl
    rw [e2] at hl
    obtain ⟨q1, q2⟩ := h.lit d hd hl
    exact ⟨by rw [Below.heap_setCell _ _ _ _ (by exact q2)]; exact q1, q2⟩
  · intro d hd1 hd
    obtain ⟨q1, q2⟩ := h.cel d hd1 hd
    refine ⟨?_, (World.frozen?_setCell _ _ _ _).trans q2⟩
    rw [lS_new h1 h5 hz]
    by_cases e : d = c
    · subst e
      simp only [if_true]
      exact World.cell?_setCell_same _ _ _ q1
    · rw [World.cell?_setCell_other _ _ _ _ (fun q => e (by injection q with _ q _; exact q.symm)), if_neg e]; exact q1
  · obtain ⟨q1, q2⟩ := h.nul
    exact ⟨by rw [World.cell?_setCell_other _ _ _ _ (fun q => by injection q with _ q _; omega)]; exact q1, (World.frozen?_setCell _ _ _ _).trans q2⟩
  · rw [e1]; exact h.vs
  · exact fun g hg hne => (Below.heap_setCell _ _ _ _ (by exact hne)).trans (h.oth g hg hne)
  · exact Below.setCell h.bel (p := ⟨C, c, none⟩) h.b1.1 _
  · obtain rfl : d = c - 1 := by omega
    exact ⟨hld, hap⟩
  · have := h.b1; simpa using this
end

end Go.Proofs.YtjageagnclmnjaaGreatDoor
