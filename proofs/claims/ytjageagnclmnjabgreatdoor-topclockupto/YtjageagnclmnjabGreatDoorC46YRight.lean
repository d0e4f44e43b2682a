/- PROVED: packets on plain integers: when they are right, how long their ways are, the least of a stretch, who waits how long; what the promises say of one another. numbers that may be written; packets in memory; what clock.beyond, outside, slices.IndexFunc and ContainsFunc over it, and clock.Right answer. CONDITIONS: none beyond each theorem's own. -/
import Derived.Test.YtjageagnclmnjabGreatDoorC42YWSmall
import Derived.Test.YtjageagnclmnjabGreatDoorC45YSlide
section
namespace Go.Proofs.YtjageagnclmnjabGreatDoor.Y
set_option maxRecDepth 100000

/-- a packet's two times may be -/
def okp (p : Int × Int) : Prop := (-1099511627776 ≤ p.1 ∧ p.1 ≤ 1099511627776) ∧ -1099511627776 ≤ p.2 ∧ p.2 ≤ 1099511627776
instance (p : Int × Int) : Decidable (okp p) := inferInstanceAs (Decidable (_ ∧ _))
def cright (ps : Rs) : Prop := ∀ j, j < ps.length → okp (ps.getD j (0, 0))
instance (ps : Rs) : Decidable (cright ps) := inferInstanceAs (Decidable (∀ j, j < ps.length → okp (ps.getD j (0, 0))))
/-- how long the way is -/
def wy (ps : Rs) (k : Nat) : Int := (ps.getD k (0, 0)).2 - (ps.getD k (0, 0)).1
def ways (ps : Rs) : List Int := if cright ps then outs (wy ps) ps.length else []
theorem ways_yes {ps : Rs} (h : cright ps) : ways ps = outs (wy ps) ps.length := if_pos h
theorem ways_no {ps : Rs} (h : ¬ cright ps) : ways ps = [] := if_neg h
theorem ways_len {ps : Rs} (h : cright ps) : (ways ps).length = ps.length := by rw [ways_yes h, outs_len]
theorem ways_le (ps : Rs) : (ways ps).length ≤ ps.length := by
  by_cases h : cright ps
  · rw [ways_len h]; exact Nat.le_refl _
  · rw [ways_no h]; exact Nat.zero_le _
theorem wy_in {ps : Rs} (h : cright ps) (k : Nat) (hk : k < ps.length) : -2199023255552 ≤ wy ps k ∧ wy ps k ≤ 2199023255552 := by
  have := h k hk
  unfold okp at this
  unfold wy
  omega
theorem ways_in (ps : Rs) (k : Nat) (hk : k < (ways ps).length) : -2199023255552 ≤ (ways ps).getD k 0 ∧ (ways ps).getD k 0 ≤ 2199023255552 := by
  by_cases h : cright ps
  · rw [ways_len h] at hk
    rw [ways_yes h, outs_getD _ _ _ hk]
    exact wy_in h k hk
  · rw [ways_no h] at hk; simp at hk

/-- the least of n + 1 numbers from place a on -/
def lst (f : Nat → Int) (a : Nat) : Nat → Int
  | 0 => f a
  | n + 1 => min (lst f a n) (f (a + n + 1))
theorem lst_best (f : Nat → Int) (a n : Nat) : Best true f a (a + n + 1) (lst f a n) := by
  induction n with
  | zero =>
    refine ⟨⟨a, Nat.le_refl _, by omega, rfl⟩, fun j h1 h2 => ?_⟩
    obtain rfl : j = a := by omega
    exact bt_self _ _
  | succ n ih =>
    obtain ⟨⟨i, h1, h2, h3⟩, h4⟩ := ih
    have e : lst f a (n + 1) = min (lst f a n) (f (a + n + 1)) := rfl
    rw [e]
    by_cases c : lst f a n ≤ f (a + n + 1)
    · rw [Int.min_eq_left c]
      refine ⟨⟨i, h1, by omega, h3⟩, fun j k1 k2 => ?_⟩
      by_cases d : j = a + n + 1
      · subst d; simp [bt]; omega
      · exact h4 j k1 (by omega)
    · rw [Int.min_eq_right (by omega)]
      refine ⟨⟨a + n + 1, by omega, by omega, rfl⟩, fun j k1 k2 => ?_⟩
      by_cases d : j = a + n + 1
      · subst d; exact bt_self _ _
      · have := h4 j k1 (by omega)
        simp [bt] at this ⊢
        omega
/-- the least that counts at place k -/
def bs (f : Nat → Int) (u v : Int) (k : Nat) : Int := lst f (frB u v k) (k - frB u v k)
theorem bs_best (f : Nat → Int) (u v : Int) (hu : 1 ≤ u) (hv : 1 ≤ v) (k : Nat) : Best true f (frB u v k) (k + 1) (bs f u v k) := by
  have h := frB_le u v k hu hv
  have := lst_best f (frB u v k) (k - frB u v k)
  rwa [show frB u v k + (k - frB u v k) + 1 = k + 1 by omega] at this
def base (z : List Int) (u v : Int) : List Int := if 1 ≤ u ∧ 1 ≤ v then outs (bs (fun j => z.getD j 0) u v) z.length else []
theorem base_yes (z : List Int) {u v : Int} (hu : 1 ≤ u) (hv : 1 ≤ v) : base z u v = outs (bs (fun j => z.getD j 0) u v) z.length := if_pos ⟨hu, hv⟩
theorem base_no (z : List Int) {u v : Int} (h : u < 1 ∨ v < 1) : base z u v = [] := if_neg (by omega)
theorem base_le (z : List Int) (u v : Int) : (base z u v).length ≤ z.length := by
  by_cases h : 1 ≤ u ∧ 1 ≤ v
  · rw [base_yes z h.1 h.2, outs_len]; exact Nat.le_refl _
  · rw [base_no z (by omega)]; exact Nat.zero_le _
/-- who tells the best of each tells the base -/
theorem base_is {z R : List Int} {u v : Int} (hu : 1 ≤ u) (hv : 1 ≤ v) (hl : R.length = z.length) (h : ∀ k, k < z.length → Best true (fun j => z.getD j 0) (frB u v k) (k + 1) (R.getD k 0)) : R = base z u v := by
  rw [base_yes z hu hv]
  refine list_ext (by rw [outs_len]; exact hl) fun j hj => ?_
  rw [outs_getD _ _ _ (by omega)]
  exact (h j (by omega)).uniq (bs_best _ u v hu hv j)
/-- what lies between bounds has its least there -/
theorem bs_in {f : Nat → Int} {u v : Int} (hu : 1 ≤ u) (hv : 1 ≤ v) {k : Nat} {a b : Int} (h : ∀ j, j ≤ k → a ≤ f j ∧ f j ≤ b) : a ≤ bs f u v k ∧ bs f u v k ≤ b := by
  obtain ⟨⟨j, _, h2, h3⟩, _⟩ := bs_best f u v hu hv k
  rw [← h3]; exact h j (by omega)
theorem base_in {z : List Int} {u v a b : Int} (h : ∀ j, j < z.length → a ≤ z.getD j 0 ∧ z.getD j 0 ≤ b) (k : Nat) (hk : k < (base z u v).length) : a ≤ (base z u v).getD k 0 ∧ (base z u v).getD k 0 ≤ b := by
  by_cases c : 1 ≤ u ∧ 1 ≤ v
  · rw [base_yes z c.1 c.2, outs_len] at hk
    rw [base_yes z c.1 c.2, outs_getD _ _ _ hk]
    exact bs_in c.1 c.2 fun j hj => h j (by omega)
  · rw [base_no z (by omega)] at hk; simp at hk

/-- how long each waits -/
def waits (ps : Rs) (u v : Int) : List Int := outs (fun k => (ways ps).getD k 0 - (base (ways ps) u v).getD k 0) (base (ways ps) u v).length
theorem waits_len (ps : Rs) (u v : Int) : (waits ps u v).length = (base (ways ps) u v).length := outs_len _ _
theorem waits_full {ps : Rs} {u v : Int} (h : cright ps) (hu : 1 ≤ u) (hv : 1 ≤ v) : (waits ps u v).length = ps.length := by
  rw [waits_len, base_yes _ hu hv, outs_len, ways_len h]
theorem waits_at {ps : Rs} {u v : Int} (h : cright ps) (hu : 1 ≤ u) (hv : 1 ≤ v) (k : Nat) (hk : k < ps.length) : (waits ps u v).getD k 0 = wy ps k - bs (fun j => (ways ps).getD j 0) u v k := by
  have hl := ways_len h
  rw [waits, base_yes _ hu hv, outs_getD _ _ _ (by rw [outs_len]; omega), outs_getD _ _ _ (by omega), ways_yes h, outs_getD _ _ _ hk]
theorem waits_no {ps : Rs} {u v : Int} (h : ¬ cright ps ∨ u < 1 ∨ v < 1) : waits ps u v = [] := by
  apply List.eq_nil_of_length_eq_zero
  rw [waits_len]
  by_cases c : 1 ≤ u ∧ 1 ≤ v
  · have := base_le (ways ps) u v
    have hn : ¬ cright ps := by
      rcases h with q | q
      · exact q
      · omega
    rw [ways_no hn] at this ⊢
    simpa using this
  · rw [base_no _ (by omega)]; rfl

/-! NO MATTER HOW CLOCKS STAND. -/

theorem lst_add {f g : Nat → Int} {a n : Nat} {d : Int} (h : ∀ j, j ≤ a + n → g j = f j + d) : lst g a n = lst f a n + d := by
  induction n with
  | zero => exact h a (by omega)
  | succ n ih =>
    show min (lst g a n) (g (a + n + 1)) = min (lst f a n) (f (a + n + 1)) + d
    rw [ih (fun j hj => h j (by omega)), h (a + n + 1) (by omega)]
    omega
theorem bs_add {f g : Nat → Int} {u v : Int} (hu : 1 ≤ u) (hv : 1 ≤ v) {k : Nat} {d : Int} (h : ∀ j, j ≤ k → g j = f j + d) : bs g u v k = bs f u v k + d := by
  have := frB_le u v k hu hv
  exact lst_add fun j hj => h j (by omega)
/-! SOMEBODY DOES NOT WAIT. -/

/-! WHO WAITS LONGER IS SEEN SO. -/

end Go.Proofs.YtjageagnclmnjabGreatDoor.Y

end

section
namespace Go.Proofs.YtjageagnclmnjabGreatDoor.Y
set_option maxRecDepth 100000
open Go.RowKit

/-- n numbers that may be written, in block O -/
structure Cells (w : World) (O n : Nat) (V : Nat → Int) : Prop where
  c : ∀ j, j < n → w.cell? ⟨O, j, none⟩ = some (.int .i64 (V j))
  fz : ∀ j, j < n → w.frozen? ⟨O, j, none⟩ = false
theorem Cells.start (w : World) (n : Nat) (V : Nat → Int) (hV : ∀ j, j < n → V j = 0) : Cells (w.alloc (.cells (madeCells #[.int .i64 0] n) 3)) w.heap.size n V := by
  refine ⟨fun j hj => ?_, fun j hj => ?_⟩
  · rw [World.cell?_alloc_at _ _ _ _ rfl, hV j hj]
    simp [madeCells, hj, Nat.mod_one]
  · rw [World.frozen?_alloc_at _ _ _ _ rfl]
theorem Cells.put {w : World} {O n : Nat} {V V' : Nat → Int} (h : Cells w O n V) {k : Nat} (hk : k < n) {v : Int} (hv : V' k = v) (hj : ∀ j, j < n → j ≠ k → V' j = V j) : Cells (w.setCell ⟨O, k, none⟩ (.int .i64 v)) O n V' := by
  refine ⟨fun j hjn => ?_, fun j hjn => ?_⟩
  · by_cases e : j = k
    · subst e; subst hv
      exact World.cell?_setCell_same _ _ _ (h.c j hk)
    · rw [World.cell?_setCell_other _ _ _ _ (fun q => e (by injection q with _ q _; exact q.symm)), hj j hjn e]
      exact h.c j hjn
  · rw [World.frozen?_setCell]; exact h.fz j hjn
theorem Cells.drewN {w : World} {O n : Nat} {V : Nat → Int} (h : Cells w O n V) (q : Nat) : Cells (w.drewN q) O n V := ⟨h.c, h.fz⟩
theorem Cells.ext {w : World} {O n : Nat} {V V' : Nat → Int} (h : Cells w O n V) (e : ∀ j, j < n → V' j = V j) : Cells w O n V' := ⟨fun j hj => by rw [e j hj]; exact h.c j hj, h.fz⟩
theorem Cells.row {w : World} {O n : Nat} {f : Nat → Int} (h : Cells w O n f) : Row w (some ⟨O, 0, none⟩) (outs f n) := .inr ⟨O, 0, rfl, fun j hj => by
  rw [outs_len] at hj
  rw [Nat.zero_add, outs_getD _ _ _ hj]; exact h.c j hj⟩
/-- the first k are there -/
def fill (f : Nat → Int) (k j : Nat) : Int := if j < k then f j else 0
theorem fill_new (f : Nat → Int) (k : Nat) : fill f (k + 1) k = f k := by unfold fill; rw [if_pos (by omega)]
theorem fill_old (f : Nat → Int) (k j : Nat) (h : j ≠ k) : fill f (k + 1) j = fill f k j := by
  unfold fill
  by_cases e : j < k
  · rw [if_pos e, if_pos (by omega)]
  · rw [if_neg e, if_neg (by omega)]
theorem fill_all (f : Nat → Int) (n j : Nat) (h : j < n) : fill f n j = f j := by unfold fill; rw [if_pos h]

theorem Cells.done {w wr : World} {n : Nat} {f : Nat → Int} (h : Cells wr w.heap.size n f) (hb : Below w.heap.size w wr) : Ans w (outs f n) (.returned (.slice (some ⟨w.heap.size, 0, none⟩) n n)) wr :=
  ⟨_, n, by rw [outs_len], by rw [outs_len]; exact Nat.le_refl _, h.row, hb⟩
theorem Cells.alloc {w : World} {O n : Nat} {V : Nat → Int} (h : Cells w O n V) (o : Obj) : Cells (w.alloc o) O n V := ⟨fun j hj => by
    rw [World.cell?_alloc_past _ _ _ (block_lt (h.c j hj))]; exact h.c j hj, fun j hj => by
    rw [World.frozen?_alloc_past _ _ _ (block_lt (h.c j hj))]; exact h.fz j hj⟩

/-- a slice of packets that holds ps -/
def PRow (w : World) (ao : Option Addr) (ps : Rs) : Prop :=
  ps = [] ∨ ∃ b off, ao = some ⟨b, off, none⟩ ∧ ∀ j, j < ps.length → w.cell? ⟨b, off + j * 2, none⟩ = some (.int .i64 (ps.getD j (0, 0)).1) ∧ w.cell? ⟨b, off + j * 2 + 1, none⟩ = some (.int .i64 (ps.getD j (0, 0)).2)
theorem PRow.kept {w w' : World} {ao : Option Addr} {ps : Rs} (h : PRow w ao ps) (b : Below w.heap.size w w') : PRow w' ao ps := by
  rcases h with h | ⟨g, off, rfl, h⟩
  · exact .inl h
  · exact .inr ⟨g, off, rfl, fun j hj => ⟨(b.cell (p := ⟨g, off + j * 2, none⟩) (block_lt (h j hj).1)).trans (h j hj).1, (b.cell (p := ⟨g, off + j * 2 + 1, none⟩) (block_lt (h j hj).2)).trans (h j hj).2⟩⟩
theorem PRow.at {w : World} {ao : Option Addr} {ps : Rs} (h : PRow w ao ps) (hp : 0 < ps.length) : ∃ b off, ao = some ⟨b, off, none⟩ ∧ ∀ j, j < ps.length → w.cell? ⟨b, off + j * 2, none⟩ = some (.int .i64 (ps.getD j (0, 0)).1) ∧ w.cell? ⟨b, off + j * 2 + 1, none⟩ = some (.int .i64 (ps.getD j (0, 0)).2) := by
  rcases h with e | e
  · subst e; simp at hp
  · exact e
theorem PRow.drewN {w : World} {ao : Option Addr} {ps : Rs} (h : PRow w ao ps) (n : Nat) : PRow (w.drewN n) ao ps := h

/-- a time may be -/
def inm (x : Int) : Prop := -1099511627776 ≤ x ∧ x ≤ 1099511627776
instance (x : Int) : Decidable (inm x) := inferInstanceAs (Decidable (_ ∧ _))
theorem beyond_any (x : Int) (w : World) :
    Calls Tryz.prog 79 #[.int .i64 x] w fun e w' => e = .returned (.bool (decide (¬ inm x))) ∧ w' = w := by
  by_cases h0 : x < -1099511627776
  · have e : decide (¬ inm x) = true := decide_eq_true (by unfold inm; omega)
    rw [e]
    go_enter Tryz.func79, Tryz.ntmps79
    go_wp2
    go_ret
    exact ⟨rfl, rfl⟩
  · by_cases h1 : 1099511627776 < x
    · have e : decide (¬ inm x) = true := decide_eq_true (by unfold inm; omega)
      rw [e]
      go_enter Tryz.func79, Tryz.ntmps79
      go_wp2
      go_ret
      exact ⟨rfl, rfl⟩
    · have e : decide (¬ inm x) = false := decide_eq_false (by unfold inm; omega)
      rw [e]
      go_enter Tryz.func79, Tryz.ntmps79
      go_wp2
      go_ret
      exact ⟨rfl, rfl⟩

theorem outside_any (x y : Int) (w : World) :
    Calls Tryz.prog 67 #[.agg #[.int .i64 x, .int .i64 y]] w fun e w' => e = .returned (.bool (decide (¬ okp (x, y)))) ∧ Below w.heap.size w w' := by
  have hB : Below w.heap.size w (w.alloc (.cells #[.int .i64 x, .int .i64 y] 40)) := balloc (Below.refl _ _) _
  have hx := beyond_any x
  have hy := beyond_any y
  by_cases h0 : inm x
  · have e : decide (¬ okp (x, y)) = decide (¬ inm y) := by
      rw [Bool.eq_iff_iff]; simp only [decide_eq_true_iff]; unfold okp; unfold inm at h0 ⊢; simp only; omega
    rw [e]
    rw [show decide (¬ inm x) = false from decide_eq_false fun k => k h0] at hx
    generalize decide (¬ inm y) = ans at hy ⊢
    replace hx : Hid _ := hx
    replace hy : Hid _ := hy
    clear h0 e
    go_enter Tryz.func67, Tryz.ntmps67
    go_wp2_with (first
      | (go_at_call 79; refine (hx.out _).mono ?_; rintro e w1 ⟨rfl, rfl⟩; clear hx)
      | (go_at_call 79; refine (hy.out _).mono ?_; rintro e w1 ⟨rfl, rfl⟩; clear hy))
    go_ret
    exact ⟨rfl, hB⟩
  · have e : decide (¬ okp (x, y)) = true := decide_eq_true (by unfold okp; unfold inm at h0; simp only; omega)
    rw [e]
    rw [show decide (¬ inm x) = true from decide_eq_true h0] at hx
    replace hx : Hid _ := hx
    clear h0 e hy
    go_enter Tryz.func67, Tryz.ntmps67
    go_wp2_with (go_at_call 79; refine (hx.out _).mono ?_; rintro e w1 ⟨rfl, rfl⟩; clear hx)
    go_ret
    exact ⟨rfl, hB⟩

set_option maxHeartbeats 1600000 in
theorem index_any (a : Option Addr) (cap : Nat) (z : Rs) (w : World) (hz : PRow w a z) (hl : z.length ≤ 35184372088832) :
    Calls Tryz.prog 78 #[.slice a z.length cap, .func (.func 67) #[] #[]] w fun e w' => ∃ k : Int, e = .returned (.int .i64 k) ∧ decide (0 ≤ k) = decide (¬ cright z) ∧ Below w.heap.size w w' := by
  obtain ⟨n, hn⟩ : ∃ n, z.length = n := ⟨_, rfl⟩
  have hyes : Hid ((∀ j, j < n → okp (z.getD j (0, 0))) → decide (¬ cright z) = false) := fun h => decide_eq_false fun k => k fun j hj => h j (by omega)
  have hno : Hid (∀ j, j < n → ¬ okp (z.getD j (0, 0)) → decide (¬ cright z) = true) := fun j hj h => decide_eq_true fun k => h (k j (by omega))
  generalize decide (¬ cright z) = ans at hyes hno ⊢
  rw [hn] at hl ⊢
  go_enter Tryz.func78, Tryz.ntmps78
  go_wp2
  go_loopw [8] (fun i wr => ∃ k : Nat, k ≤ n ∧ i = .int .i64 k ∧ (∀ j, j < k → okp (z.getD j (0, 0))) ∧ Below w.heap.size w wr) (fun i _ => n - (intOf i).toNat)
  case atStart => exact ⟨0, Nat.zero_le _, rfl, fun j h => by omega, Below.refl _ _⟩
  case round =>
    obtain ⟨k, hk, rfl, hA, hB⟩ := hrel
    by_cases hlt : k < n
    · obtain ⟨b, off, rfl, e1⟩ := (hz.kept hB).at (by omega)
      obtain ⟨cx, cy⟩ := e1 k (by omega)
      have hkI : (k : Int) < n := by omega
      have hA2 : Hid (okp (z.getD k (0, 0)) → ∀ j, j < k + 1 → okp (z.getD j (0, 0))) := fun h j hj => by
        by_cases e : j = k
        · subst e; exact h
        · exact hA j (by omega)
      have hno2 : Hid (¬ okp (z.getD k (0, 0)) → ans = true) := hno.out k hlt
      clear hA e1 hno hz
      obtain ⟨⟨x, y⟩, hxy⟩ : ∃ p, z.getD k (0, 0) = p := ⟨_, rfl⟩
      rw [hxy] at cx cy hA2 hno2
      clear hxy
      simp only at cx cy
      have ho := outside_any x y wr
      by_cases hx : okp (x, y)
      · rw [decide_eq_false (fun h => h hx)] at ho
        have hA3 := hA2.out hx
        replace hA3 : Hid _ := hA3
        clear hA2 hx
        go_wp2_with (go_at_call 67; refine ho.mono ?_; rintro e w'' ⟨rfl, b2⟩; clear ho)
        go_roundw
        case rel => exact ⟨k + 1, by omega, by go_num, hA3.out, bthen hB b2⟩
        case measure => simp [intOf]; omega
      · rw [decide_eq_true hx] at ho
        have ha := hno2.out hx
        replace ha : Hid (ans = true) := ha
        clear hx
        go_wp2_with (go_at_call 67; refine ho.mono ?_; rintro e w'' ⟨rfl, b2⟩; clear ho)
        go_ret
        exact ⟨k, rfl, by rw [ha.out]; exact decide_eq_true (by omega), bthen hB b2⟩
    · obtain rfl : n = k := by omega
      have ha : Hid (ans = false) := hyes.out hA
      go_wp2
      go_ret
      exact ⟨-1, rfl, by rw [ha.out]; rfl, hB⟩

theorem contains_any (a : Option Addr) (cap : Nat) (z : Rs) (w : World) (hz : PRow w a z) (hl : z.length ≤ 35184372088832) :
    Calls Tryz.prog 66 #[.slice a z.length cap, .func (.func 67) #[] #[]] w fun e w' => e = .returned (.bool (decide (¬ cright z))) ∧ Below w.heap.size w w' := by
  have hi := index_any a cap z w hz hl
  generalize decide (¬ cright z) = ans at hi ⊢
  go_enter Tryz.func66, Tryz.ntmps66
  go_wp2_with (go_at_call 78; refine hi.mono ?_; rintro e w'' ⟨k, rfl, hk, b2⟩; clear hi)
  go_ret
  exact ⟨by rw [← hk]; rfl, b2⟩

theorem right_any (a : Option Addr) (cap : Nat) (z : Rs) (w : World) (hz : PRow w a z) (hl : z.length ≤ 35184372088832) :
    Calls Tryz.prog 50 #[.slice a z.length cap] w fun e w' => e = .returned (.bool (decide (cright z))) ∧ Below w.heap.size w w' := by
  have hi := contains_any a cap z w hz hl
  have e : decide (cright z) = !decide (¬ cright z) := by
    rw [Bool.eq_iff_iff]; simp
  rw [e]
  generalize decide (¬ cright z) = ans at hi ⊢
  clear e
  go_enter Tryz.func50, Tryz.ntmps50
  go_wp2_with (go_at_call 66; refine hi.mono ?_; rintro e w'' ⟨rfl, b2⟩; clear hi)
  go_ret
  exact ⟨rfl, b2⟩

end Go.Proofs.YtjageagnclmnjabGreatDoor.Y

end
