/- PROVED: numbers that may be written; packets in memory; what clock.beyond, outside, slices.IndexFunc and ContainsFunc over it, and clock.Right answer. CONDITIONS: none beyond each theorem's own. -/
import Derived.Test.YtngmjmehkehbeaaAns
import Derived.Test.YtngmjmehkehbeaaClock
namespace Go.Proofs.Ytngmjmehkehbeaa
open Go.RowKit

/-- n numbers that may be written, in block O -/
structure Cells (w : World) (O n : Nat) (V : Nat → Int) : Prop where
  c : ∀ j, j < n → w.cell? ⟨O, j, none⟩ = some (.int .i64 (V j))
  fz : ∀ j, j < n → w.frozen? ⟨O, j, none⟩ = false
theorem Cells.start (w : World) (n : Nat) (V : Nat → Int) (hV : ∀ j, j < n → V j = 0) : Cells (w.alloc (.cells (madeCells #[.int .i64 0] n) 3)) w.heap.size n V := by
  refine ⟨fun j hj => ?_, fun j hj => ?_⟩
  · rw [World.cell?_alloc_at _ _ _ _ rfl, hV j hj]
    simp [madeCells, hj, Nat.mod_one]
  · rw [World.frozen?_alloc_at _ _ _ _ rfl]
theorem Cells.put {w : World} {O n : Nat} {V V' : Nat → Int} (h : Cells w O n V) {k : Nat} (hk : k < n) {v : Int} (hv : V' k = v) (hj : ∀ j, j < n → j ≠ k → V' j = V j) : Cells (w.setCell ⟨O, k, none⟩ (.int .i64 v)) O n V' := by
  refine ⟨fun j hjn => ?_, fun j hjn => ?_⟩
  · by_cases e : j = k
    · subst e; subst hv
      exact World.cell?_setCell_same _ _ _ (h.c j hk)
    · rw [World.cell?_setCell_other _ _ _ _ (fun q => e (by injection q with _ q _; exact q.symm)), hj j hjn e]
      exact h.c j hjn
  · rw [World.frozen?_setCell]; exact h.fz j hjn
theorem Cells.drewN {w : World} {O n : Nat} {V : Nat → Int} (h : Cells w O n V) (q : Nat) : Cells (w.drewN q) O n V := ⟨h.c, h.fz⟩
theorem Cells.ext {w : World} {O n : Nat} {V V' : Nat → Int} (h : Cells w O n V) (e : ∀ j, j < n → V' j = V j) : Cells w O n V' := ⟨fun j hj => by rw [e j hj]; exact h.c j hj, h.fz⟩
theorem Cells.row {w : World} {O n : Nat} {f : Nat → Int} (h : Cells w O n f) : Row w (some ⟨O, 0, none⟩) (outs f n) := .inr ⟨O, 0, rfl, fun j hj => by
  rw [outs_len] at hj
  rw [Nat.zero_add, outs_getD _ _ _ hj]; exact h.c j hj⟩
/-- the first k are there -/
def fill (f : Nat → Int) (k j : Nat) : Int := if j < k then f j else 0
theorem fill_new (f : Nat → Int) (k : Nat) : fill f (k + 1) k = f k := by unfold fill; rw [if_pos (by omega)]
theorem fill_old (f : Nat → Int) (k j : Nat) (h : j ≠ k) : fill f (k + 1) j = fill f k j := by
  unfold fill
  by_cases e : j < k
  · rw [if_pos e, if_pos (by omega)]
  · rw [if_neg e, if_neg (by omega)]
theorem fill_all (f : Nat → Int) (n j : Nat) (h : j < n) : fill f n j = f j := by unfold fill; rw [if_pos h]

theorem Cells.done {w wr : World} {n : Nat} {f : Nat → Int} (h : Cells wr w.heap.size n f) (hb : Below w.heap.size w wr) : Ans w (outs f n) (.returned (.slice (some ⟨w.heap.size, 0, none⟩) n n)) wr :=
  ⟨_, n, by rw [outs_len], by rw [outs_len]; exact Nat.le_refl _, h.row, hb⟩
theorem cells_kept {w wr : World} {b o n : Nat} {F : Nat → Int} (h : ∀ j, j < n → w.cell? ⟨b, o + j, none⟩ = some (.int .i64 (F j))) (hb : Below w.heap.size w wr) (j : Nat) (hj : j < n) : wr.cell? ⟨b, o + j, none⟩ = some (.int .i64 (F j)) :=
  (hb.cell (p := ⟨b, o + j, none⟩) (block_lt (h j hj))).trans (h j hj)
theorem Cells.alloc {w : World} {O n : Nat} {V : Nat → Int} (h : Cells w O n V) (o : Obj) : Cells (w.alloc o) O n V := ⟨fun j hj => by
    rw [World.cell?_alloc_past _ _ _ (block_lt (h.c j hj))]; exact h.c j hj, fun j hj => by
    rw [World.frozen?_alloc_past _ _ _ (block_lt (h.c j hj))]; exact h.fz j hj⟩

/-- a slice of packets that holds ps -/
def PRow (w : World) (ao : Option Addr) (ps : Rs) : Prop :=
  ps = [] ∨ ∃ b off, ao = some ⟨b, off, none⟩ ∧ ∀ j, j < ps.length → w.cell? ⟨b, off + j * 2, none⟩ = some (.int .i64 (ps.getD j (0, 0)).1) ∧ w.cell? ⟨b, off + j * 2 + 1, none⟩ = some (.int .i64 (ps.getD j (0, 0)).2)
theorem PRow.kept {w w' : World} {ao : Option Addr} {ps : Rs} (h : PRow w ao ps) (b : Below w.heap.size w w') : PRow w' ao ps := by
  rcases h with h | ⟨g, off, rfl, h⟩
  · exact .inl h
  · exact .inr ⟨g, off, rfl, fun j hj => ⟨(b.cell (p := ⟨g, off + j * 2, none⟩) (block_lt (h j hj).1)).trans (h j hj).1, (b.cell (p := ⟨g, off + j * 2 + 1, none⟩) (block_lt (h j hj).2)).trans (h j hj).2⟩⟩
theorem PRow.at {w : World} {ao : Option Addr} {ps : Rs} (h : PRow w ao ps) (hp : 0 < ps.length) : ∃ b off, ao = some ⟨b, off, none⟩ ∧ ∀ j, j < ps.length → w.cell? ⟨b, off + j * 2, none⟩ = some (.int .i64 (ps.getD j (0, 0)).1) ∧ w.cell? ⟨b, off + j * 2 + 1, none⟩ = some (.int .i64 (ps.getD j (0, 0)).2) := by
  rcases h with e | e
  · subst e; simp at hp
  · exact e
theorem PRow.drewN {w : World} {ao : Option Addr} {ps : Rs} (h : PRow w ao ps) (n : Nat) : PRow (w.drewN n) ao ps := h

/-- a time may be -/
def inm (x : Int) : Prop := -1099511627776 ≤ x ∧ x ≤ 1099511627776
instance (x : Int) : Decidable (inm x) := inferInstanceAs (Decidable (_ ∧ _))
theorem beyond_any (x : Int) (w : World) :
    Calls Try.prog 21 #[.int .i64 x] w fun e w' => e = .returned (.bool (decide (¬ inm x))) ∧ w' = w := by
  by_cases h0 : x < -1099511627776
  · have e : decide (¬ inm x) = true := decide_eq_true (by unfold inm; omega)
    rw [e]
    go_enter Try.func21, Try.ntmps21
    go_wp2
    go_ret
    exact ⟨rfl, rfl⟩
  · by_cases h1 : 1099511627776 < x
    · have e : decide (¬ inm x) = true := decide_eq_true (by unfold inm; omega)
      rw [e]
      go_enter Try.func21, Try.ntmps21
      go_wp2
      go_ret
      exact ⟨rfl, rfl⟩
    · have e : decide (¬ inm x) = false := decide_eq_false (by unfold inm; omega)
      rw [e]
      go_enter Try.func21, Try.ntmps21
      go_wp2
      go_ret
      exact ⟨rfl, rfl⟩

theorem outside_any (x y : Int) (w : World) :
    Calls Try.prog 17 #[.agg #[.int .i64 x, .int .i64 y]] w fun e w' => e = .returned (.bool (decide (¬ okp (x, y)))) ∧ Below w.heap.size w w' := by
  have hB : Below w.heap.size w (w.alloc (.cells #[.int .i64 x, .int .i64 y] 31)) := balloc (Below.refl _ _) _
  have hx := beyond_any x
  have hy := beyond_any y
  by_cases h0 : inm x
  · have e : decide (¬ okp (x, y)) = decide (¬ inm y) := by
      rw [Bool.eq_iff_iff]; simp only [decide_eq_true_iff]; unfold okp; unfold inm at h0 ⊢; simp only; omega
    rw [e]
    rw [show decide (¬ inm x) = false from decide_eq_false fun k => k h0] at hx
    generalize decide (¬ inm y) = ans at hy ⊢
    replace hx : Hid _ := hx
    replace hy : Hid _ := hy
    clear h0 e
    go_enter Try.func17, Try.ntmps17
    go_wp2_with (first
      | (go_at_call 21; refine (hx.out _).mono ?_; rintro e w1 ⟨rfl, rfl⟩; clear hx)
      | (go_at_call 21; refine (hy.out _).mono ?_; rintro e w1 ⟨rfl, rfl⟩; clear hy))
    go_ret
    exact ⟨rfl, hB⟩
  · have e : decide (¬ okp (x, y)) = true := decide_eq_true (by unfold okp; unfold inm at h0; simp only; omega)
    rw [e]
    rw [show decide (¬ inm x) = true from decide_eq_true h0] at hx
    replace hx : Hid _ := hx
    clear h0 e hy
    go_enter Try.func17, Try.ntmps17
    go_wp2_with (go_at_call 21; refine (hx.out _).mono ?_; rintro e w1 ⟨rfl, rfl⟩; clear hx)
    go_ret
    exact ⟨rfl, hB⟩

set_option maxHeartbeats 1600000 in
theorem index_any (a : Option Addr) (cap : Nat) (z : Rs) (w : World) (hz : PRow w a z) (hl : z.length ≤ 35184372088832) :
    Calls Try.prog 20 #[.slice a z.length cap, .func (.func 17) #[] #[]] w fun e w' => ∃ k : Int, e = .returned (.int .i64 k) ∧ decide (0 ≤ k) = decide (¬ cright z) ∧ Below w.heap.size w w' := by
  obtain ⟨n, hn⟩ : ∃ n, z.length = n := ⟨_, rfl⟩
  have hyes : Hid ((∀ j, j < n → okp (z.getD j (0, 0))) → decide (¬ cright z) = false) := fun h => decide_eq_false fun k => k fun j hj => h j (by omega)
  have hno : Hid (∀ j, j < n → ¬ okp (z.getD j (0, 0)) → decide (¬ cright z) = true) := fun j hj h => decide_eq_true fun k => h (k j (by omega))
  generalize decide (¬ cright z) = ans at hyes hno ⊢
  rw [hn] at hl ⊢
  go_enter Try.func20, Try.ntmps20
  go_wp2
  go_loopw [8] (fun i wr => ∃ k : Nat, k ≤ n ∧ i = .int .i64 k ∧ (∀ j, j < k → okp (z.getD j (0, 0))) ∧ Below w.heap.size w wr) (fun i _ => n - (intOf i).toNat)
  case atStart => exact ⟨0, Nat.zero_le _, rfl, fun j h => by omega, Below.refl _ _⟩
  case round =>
    obtain ⟨k, hk, rfl, hA, hB⟩ := hrel
    by_cases hlt : k < n
    · obtain ⟨b, off, rfl, e1⟩ := (hz.kept hB).at (by omega)
      obtain ⟨cx, cy⟩ := e1 k (by omega)
      have hkI : (k : Int) < n := by omega
      have hA2 : Hid (okp (z.getD k (0, 0)) → ∀ j, j < k + 1 → okp (z.getD j (0, 0))) := fun h j hj => by
        by_cases e : j = k
        · subst e; exact h
        · exact hA j (by omega)
      have hno2 : Hid (¬ okp (z.getD k (0, 0)) → ans = true) := hno.out k hlt
      clear hA e1 hno hz
      obtain ⟨⟨x, y⟩, hxy⟩ : ∃ p, z.getD k (0, 0) = p := ⟨_, rfl⟩
      rw [hxy] at cx cy hA2 hno2
      clear hxy
      simp only at cx cy
      have ho := outside_any x y wr
      by_cases hx : okp (x, y)
      · rw [decide_eq_false (fun h => h hx)] at ho
        have hA3 := hA2.out hx
        replace hA3 : Hid _ := hA3
        clear hA2 hx
        go_wp2_with (go_at_call 17; refine ho.mono ?_; rintro e w'' ⟨rfl, b2⟩; clear ho)
        go_roundw
        case rel => exact ⟨k + 1, by omega, by go_num, hA3.out, bthen hB b2⟩
        case measure => simp [intOf]; omega
      · rw [decide_eq_true hx] at ho
        have ha := hno2.out hx
        replace ha : Hid (ans = true) := ha
        clear hx
        go_wp2_with (go_at_call 17; refine ho.mono ?_; rintro e w'' ⟨rfl, b2⟩; clear ho)
        go_ret
        exact ⟨k, rfl, by rw [ha.out]; exact decide_eq_true (by omega), bthen hB b2⟩
    · obtain rfl : n = k := by omega
      have ha : Hid (ans = false) := hyes.out hA
      go_wp2
      go_ret
      exact ⟨-1, rfl, by rw [ha.out]; rfl, hB⟩

theorem contains_any (a : Option Addr) (cap : Nat) (z : Rs) (w : World) (hz : PRow w a z) (hl : z.length ≤ 35184372088832) :
    Calls Try.prog 16 #[.slice a z.length cap, .func (.func 17) #[] #[]] w fun e w' => e = .returned (.bool (decide (¬ cright z))) ∧ Below w.heap.size w w' := by
  have hi := index_any a cap z w hz hl
  generalize decide (¬ cright z) = ans at hi ⊢
  go_enter Try.func16, Try.ntmps16
  go_wp2_with (go_at_call 20; refine hi.mono ?_; rintro e w'' ⟨k, rfl, hk, b2⟩; clear hi)
  go_ret
  exact ⟨by rw [← hk]; rfl, b2⟩

theorem right_any (a : Option Addr) (cap : Nat) (z : Rs) (w : World) (hz : PRow w a z) (hl : z.length ≤ 35184372088832) :
    Calls Try.prog 8 #[.slice a z.length cap] w fun e w' => e = .returned (.bool (decide (cright z))) ∧ Below w.heap.size w w' := by
  have hi := contains_any a cap z w hz hl
  have e : decide (cright z) = !decide (¬ cright z) := by
    rw [Bool.eq_iff_iff]; simp
  rw [e]
  generalize decide (¬ cright z) = ans at hi ⊢
  clear e
  go_enter Try.func8, Try.ntmps8
  go_wp2_with (go_at_call 16; refine hi.mono ?_; rintro e w'' ⟨rfl, b2⟩; clear hi)
  go_ret
  exact ⟨rfl, b2⟩

end Go.Proofs.Ytngmjmehkehbeaa
