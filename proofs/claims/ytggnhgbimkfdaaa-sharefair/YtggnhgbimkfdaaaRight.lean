/- PROVED: numbers that may be written; what share.wrong, slices.IndexFunc and slices.ContainsFunc over it, and share.Right answer. CONDITIONS: none beyond each theorem's own. -/
import Derived.Test.YtggnhgbimkfdaaaAns
import Derived.Test.YtggnhgbimkfdaaaShr
namespace Go.Proofs.Ytggnhgbimkfdaaa
open Go.RowKit

/-- n numbers that may be written, in block O -/
structure Cells (w : World) (O n : Nat) (V : Nat → Int) : Prop where
  c : ∀ j, j < n → w.cell? ⟨O, j, none⟩ = some (.int .i64 (V j))
  fz : ∀ j, j < n → w.frozen? ⟨O, j, none⟩ = false
theorem Cells.start (w : World) (n : Nat) (V : Nat → Int) (hV : ∀ j, j < n → V j = 0) : Cells (w.alloc (.cells (madeCells #[.int .i64 0] n) 3)) w.heap.size n V := by
  refine ⟨fun j hj => ?_, fun j hj => ?_⟩
  · rw [World.cell?_alloc_at _ _ _ _ rfl, hV j hj]
    simp [madeCells, hj, Nat.mod_one]
  · rw [World.frozen?_alloc_at _ _ _ _ rfl]
theorem Cells.put {w : World} {O n : Nat} {V V' : Nat → Int} (h : Cells w O n V) {k : Nat} (hk : k < n) {v : Int} (hv : V' k = v) (hj : ∀ j, j < n → j ≠ k → V' j = V j) : Cells (w.setCell ⟨O, k, none⟩ (.int .i64 v)) O n V' := by
  refine ⟨fun j hjn => ?_, fun j hjn => ?_⟩
  · by_cases e : j = k
    · subst e; subst hv
      exact World.cell?_setCell_same _ _ _ (h.c j hk)
    · rw [World.cell?_setCell_other _ _ _ _ (fun q => e (by injection q with _ q _; exact q.symm)), hj j hjn e]
      exact h.c j hjn
  · rw [World.frozen?_setCell]; exact h.fz j hjn
theorem Cells.drewN {w : World} {O n : Nat} {V : Nat → Int} (h : Cells w O n V) (q : Nat) : Cells (w.drewN q) O n V := ⟨h.c, h.fz⟩
theorem Cells.ext {w : World} {O n : Nat} {V V' : Nat → Int} (h : Cells w O n V) (e : ∀ j, j < n → V' j = V j) : Cells w O n V' := ⟨fun j hj => by rw [e j hj]; exact h.c j hj, h.fz⟩
theorem Cells.row {w : World} {O n : Nat} {f : Nat → Int} (h : Cells w O n f) : Row w (some ⟨O, 0, none⟩) (outs f n) := .inr ⟨O, 0, rfl, fun j hj => by
  rw [outs_len] at hj
  rw [Nat.zero_add, outs_getD _ _ _ hj]; exact h.c j hj⟩
/-- the first k are there -/
def fill (f : Nat → Int) (k j : Nat) : Int := if j < k then f j else 0
theorem fill_new (f : Nat → Int) (k : Nat) : fill f (k + 1) k = f k := by unfold fill; rw [if_pos (by omega)]
theorem fill_old (f : Nat → Int) (k j : Nat) (h : j ≠ k) : fill f (k + 1) j = fill f k j := by
  unfold fill
  by_cases e : j < k
  · rw [if_pos e, if_pos (by omega)]
  · rw [if_neg e, if_neg (by omega)]
theorem fill_all (f : Nat → Int) (n j : Nat) (h : j < n) : fill f n j = f j := by unfold fill; rw [if_pos h]

theorem Cells.done {w wr : World} {n : Nat} {f : Nat → Int} (h : Cells wr w.heap.size n f) (hb : Below w.heap.size w wr) : Ans w (outs f n) (.returned (.slice (some ⟨w.heap.size, 0, none⟩) n n)) wr :=
  ⟨_, n, by rw [outs_len], by rw [outs_len]; exact Nat.le_refl _, h.row, hb⟩
theorem cells_kept {w wr : World} {b o n : Nat} {F : Nat → Int} (h : ∀ j, j < n → w.cell? ⟨b, o + j, none⟩ = some (.int .i64 (F j))) (hb : Below w.heap.size w wr) (j : Nat) (hj : j < n) : wr.cell? ⟨b, o + j, none⟩ = some (.int .i64 (F j)) :=
  (hb.cell (p := ⟨b, o + j, none⟩) (block_lt (h j hj))).trans (h j hj)

theorem wrapEq (x : Int) : IntKind.i64.wrap x = wrap64 x := by rw [IntKind.wrap_i64]; unfold wrap64; rfl
theorem wrap_in {x : Int} (h : -9223372036854775808 ≤ x ∧ x ≤ 9223372036854775807) : IntKind.i64.wrap x = x := by rw [wrapEq]; exact IntWalk.wrap64_in _ h

theorem wrong_any (x : Int) (w : World) :
    Calls Try.prog 24 #[.int .i64 x] w fun e w' => e = .returned (.bool (decide (¬ inr x))) ∧ w' = w := by
  by_cases h0 : x < 0
  · have e : decide (¬ inr x) = true := decide_eq_true (by unfold inr; omega)
    rw [e]
    go_enter Try.func24, Try.ntmps24
    go_wp2
    go_ret
    exact ⟨rfl, rfl⟩
  · by_cases h1 : 1048576 < x
    · have e : decide (¬ inr x) = true := decide_eq_true (by unfold inr; omega)
      rw [e]
      go_enter Try.func24, Try.ntmps24
      go_wp2
      go_ret
      exact ⟨rfl, rfl⟩
    · have e : decide (¬ inr x) = false := decide_eq_false (by unfold inr; omega)
      rw [e]
      go_enter Try.func24, Try.ntmps24
      go_wp2
      go_ret
      exact ⟨rfl, rfl⟩

set_option maxHeartbeats 1600000 in
theorem index_any (a : Option Addr) (cap : Nat) (z : List Int) (w : World) (hz : Row w a z) (hl : z.length ≤ 35184372088832) :
    Calls Try.prog 29 #[.slice a z.length cap, .func (.func 24) #[] #[]] w fun e w' => ∃ k : Int, e = .returned (.int .i64 k) ∧ decide (0 ≤ k) = decide (¬ allIn z) ∧ w' = w := by
  obtain ⟨n, hn⟩ : ∃ n, z.length = n := ⟨_, rfl⟩
  have hyes : Hid ((∀ j, j < n → inr (z.getD j 0)) → decide (¬ allIn z) = false) := fun h => decide_eq_false fun k => k fun j hj => h j (by omega)
  have hno : Hid (∀ j, j < n → ¬ inr (z.getD j 0) → decide (¬ allIn z) = true) := fun j hj h => decide_eq_true fun k => h (k j (by omega))
  generalize decide (¬ allIn z) = ans at hyes hno ⊢
  rw [hn] at hl ⊢
  go_enter Try.func29, Try.ntmps29
  go_wp2
  go_loopw [8] (fun i wr => ∃ k : Nat, k ≤ n ∧ i = .int .i64 k ∧ (∀ j, j < k → inr (z.getD j 0)) ∧ w = wr) (fun i _ => n - (intOf i).toNat)
  case atStart => exact ⟨0, Nat.zero_le _, rfl, fun j h => by omega, rfl⟩
  case round =>
    obtain ⟨k, hk, rfl, hA, rfl⟩ := hrel
    by_cases hlt : k < n
    · obtain ⟨b, off, rfl, e1⟩ := hz.at (by omega)
      have cx := e1 k (by omega)
      have hkI : (k : Int) < n := by omega
      have hA2 : Hid (inr (z.getD k 0) → ∀ j, j < k + 1 → inr (z.getD j 0)) := fun h j hj => by
        by_cases e : j = k
        · subst e; exact h
        · exact hA j (by omega)
      have hno2 : Hid (¬ inr (z.getD k 0) → ans = true) := hno.out k hlt
      clear hA e1 hno
      generalize z.getD k 0 = x at cx hA2 hno2
      have ho := wrong_any x w
      by_cases hx : inr x
      · rw [decide_eq_false (fun h => h hx)] at ho
        have hA3 := hA2.out hx
        replace hA3 : Hid _ := hA3
        clear hA2
        go_wp2_with (go_at_call 24; refine ho.mono ?_; rintro e w'' ⟨rfl, rfl⟩; clear ho)
        go_roundw
        case rel => exact ⟨k + 1, by omega, by go_num, hA3.out, by first | rfl | trivial⟩
        case measure => simp [intOf]; omega
      · rw [decide_eq_true hx] at ho
        have ha := hno2.out hx
        replace ha : Hid (ans = true) := ha
        go_wp2_with (go_at_call 24; refine ho.mono ?_; rintro e w'' ⟨rfl, rfl⟩; clear ho)
        go_ret
        exact ⟨k, rfl, by rw [ha.out]; exact decide_eq_true (by omega), rfl⟩
    · obtain rfl : k = n := by omega
      have ha : Hid (ans = false) := hyes.out hA
      go_wp2
      go_ret
      exact ⟨-1, rfl, by rw [ha.out]; rfl, rfl⟩

theorem contains_any (a : Option Addr) (cap : Nat) (z : List Int) (w : World) (hz : Row w a z) (hl : z.length ≤ 35184372088832) :
    Calls Try.prog 23 #[.slice a z.length cap, .func (.func 24) #[] #[]] w fun e w' => e = .returned (.bool (decide (¬ allIn z))) ∧ w' = w := by
  have hi := index_any a cap z w hz hl
  generalize decide (¬ allIn z) = ans at hi ⊢
  go_enter Try.func23, Try.ntmps23
  go_wp2_with (go_at_call 29; refine hi.mono ?_; rintro e w'' ⟨k, rfl, hk, rfl⟩; clear hi)
  go_ret
  exact ⟨by rw [← hk]; rfl, rfl⟩


theorem right_any (a : Option Addr) (cap : Nat) (z : List Int) (w : World) (hz : Row w a z) (hl : z.length ≤ 35184372088832) :
    Calls Try.prog 9 #[.slice a z.length cap] w fun e w' => e = .returned (.bool (decide (sright z))) ∧ w' = w := by
  have ho := contains_any a cap z w hz hl
  by_cases h : z.length ≤ 300
  · have e : decide (sright z) = !decide (¬ allIn z) := by
      rw [Bool.eq_iff_iff]; simp [sright, h]
    rw [e]
    clear e
    generalize decide (¬ allIn z) = ans at ho ⊢
    have d : decide ((z.length : Int) ≤ 300) = true := decide_eq_true (by omega)
    generalize z.length = n at *
    clear h
    go_enter Try.func9, Try.ntmps9
    go_wp2_with (go_at_call 23; refine ho.mono ?_; rintro e w'' ⟨rfl, rfl⟩; clear ho)
    go_ret
    exact ⟨rfl, rfl⟩
  · have e : decide (sright z) = false := decide_eq_false fun k => h k.1
    rw [e]
    clear e
    have d : decide ((z.length : Int) ≤ 300) = false := decide_eq_false (by omega)
    generalize z.length = n at *
    clear h ho
    go_enter Try.func9, Try.ntmps9
    go_wp2
    go_ret
    exact ⟨rfl, rfl⟩

end Go.Proofs.Ytggnhgbimkfdaaa
