/- PROVED: what leastSum and mostOver answer. what Conv and Over answer. a bucket on plain integers: its line, what keeps to it, what it lets through, and what the promises say of one another. what bucket.outside, slices.IndexFunc and slices.ContainsFunc over it, and bucket.Right answer. CONDITIONS: none beyond each theorem's own. -/
import Derived.Test.YtjageagnclmnjabGreatDoorC39BLeast
import Derived.Deep.RegionWith
section
namespace Go.Proofs.YtjageagnclmnjabGreatDoor.B
set_option maxRecDepth 100000
open Go.RowKit

end Go.Proofs.YtjageagnclmnjabGreatDoor.B

end

section
namespace Go.Proofs.YtjageagnclmnjabGreatDoor.B
set_option maxRecDepth 100000
open Go.RowKit

/-- n numbers that may be written, in block O -/
structure Cells (w : World) (O n : Nat) (V : Nat → Int) : Prop where
  c : ∀ j, j < n → w.cell? ⟨O, j, none⟩ = some (.int .i64 (V j))
  fz : ∀ j, j < n → w.frozen? ⟨O, j, none⟩ = false
theorem Cells.start (w : World) (n : Nat) (V : Nat → Int) (hV : ∀ j, j < n → V j = 0) : Cells (w.alloc (.cells (madeCells #[.int .i64 0] n) 3)) w.heap.size n V := by
  refine ⟨fun j hj => ?_, fun j hj => ?_⟩
  · rw [World.cell?_alloc_at _ _ _ _ rfl, hV j hj]
    simp [madeCells, hj, Nat.mod_one]
  · rw [World.frozen?_alloc_at _ _ _ _ rfl]
theorem Cells.put {w : World} {O n : Nat} {V V' : Nat → Int} (h : Cells w O n V) {k : Nat} (hk : k < n) {v : Int} (hv : V' k = v) (hj : ∀ j, j < n → j ≠ k → V' j = V j) : Cells (w.setCell ⟨O, k, none⟩ (.int .i64 v)) O n V' := by
  refine ⟨fun j hjn => ?_, fun j hjn => ?_⟩
  · by_cases e : j = k
    · subst e; subst hv
      exact World.cell?_setCell_same _ _ _ (h.c j hk)
    · rw [World.cell?_setCell_other _ _ _ _ (fun q => e (by injection q with _ q _; exact q.symm)), hj j hjn e]
      exact h.c j hjn
  · rw [World.frozen?_setCell]; exact h.fz j hjn
theorem Cells.drewN {w : World} {O n : Nat} {V : Nat → Int} (h : Cells w O n V) (q : Nat) : Cells (w.drewN q) O n V := ⟨h.c, h.fz⟩
theorem Cells.ext {w : World} {O n : Nat} {V V' : Nat → Int} (h : Cells w O n V) (e : ∀ j, j < n → V' j = V j) : Cells w O n V' := ⟨fun j hj => by rw [e j hj]; exact h.c j hj, h.fz⟩
theorem Cells.row {w : World} {O n : Nat} {f : Nat → Int} (h : Cells w O n f) : Row w (some ⟨O, 0, none⟩) (outs f n) := .inr ⟨O, 0, rfl, fun j hj => by
  rw [outs_len] at hj
  rw [Nat.zero_add, outs_getD _ _ _ hj]; exact h.c j hj⟩
/-- the first k are there -/
def fill (f : Nat → Int) (k j : Nat) : Int := if j < k then f j else 0
theorem fill_new (f : Nat → Int) (k : Nat) : fill f (k + 1) k = f k := by unfold fill; rw [if_pos (by omega)]
theorem fill_old (f : Nat → Int) (k j : Nat) (h : j ≠ k) : fill f (k + 1) j = fill f k j := by
  unfold fill
  by_cases e : j < k
  · rw [if_pos e, if_pos (by omega)]
  · rw [if_neg e, if_neg (by omega)]
theorem fill_all (f : Nat → Int) (n j : Nat) (h : j < n) : fill f n j = f j := by unfold fill; rw [if_pos h]

theorem Cells.done {w wr : World} {n : Nat} {f : Nat → Int} (h : Cells wr w.heap.size n f) (hb : Below w.heap.size w wr) : Ans w (outs f n) (.returned (.slice (some ⟨w.heap.size, 0, none⟩) n n)) wr :=
  ⟨_, n, by rw [outs_len], by rw [outs_len]; exact Nat.le_refl _, h.row, hb⟩
end Go.Proofs.YtjageagnclmnjabGreatDoor.B

end

section
namespace Go.Proofs.YtjageagnclmnjabGreatDoor.B
set_option maxRecDepth 100000
set_option linter.unusedVariables false
set_option linter.unusedSectionVars false

/-- a number from 0 to Most -/
def inr (x : Int) : Prop := 0 ≤ x ∧ x ≤ 1099511627776
instance (x : Int) : Decidable (inr x) := inferInstanceAs (Decidable (_ ∧ _))
def allIn (s : List Int) : Prop := ∀ j, j < s.length → inr (s.getD j 0)
instance (s : List Int) : Decidable (allIn s) := inferInstanceAs (Decidable (∀ j, j < s.length → inr (s.getD j 0)))
def bright (R B : Int) (s : List Int) : Prop := inr R ∧ inr B ∧ s.length < 300 ∧ allIn s
instance (R B : Int) (s : List Int) : Decidable (bright R B s) := inferInstanceAs (Decidable (_ ∧ _ ∧ _ ∧ _))

/-- the line at tick t -/
def lf (R B : Int) (t : Nat) : Int := if t = 0 then 0 else B + ((t : Int) - 1) * min R B
/-- plain sums -/
def acc (F : Nat → Int) : Nat → Int
  | 0 => 0
  | k + 1 => acc F k + F k
theorem acc_lo {F : Nat → Int} {n : Nat} (h : ∀ j, j < n → inr (F j)) (k : Nat) (hk : k ≤ n) : 0 ≤ acc F k ∧ acc F k ≤ k * 1099511627776 := by
  induction k with
  | zero => simp [acc]
  | succ k ih =>
    have := ih (by omega)
    have := h k (by omega)
    unfold inr at *
    simp only [acc]
    omega
/-- waits, and what the bucket holds, ahead of tick t -/
def st (R B : Int) (F : Nat → Int) : Nat → Int × Int
  | 0 => (0, B)
  | t + 1 => ((st R B F t).1 + F t - min ((st R B F t).1 + F t) (st R B F t).2, min ((st R B F t).2 - min ((st R B F t).1 + F t) (st R B F t).2 + R) B)
def wa (R B : Int) (F : Nat → Int) (t : Nat) : Int := (st R B F t).1
def ho (R B : Int) (F : Nat → Int) (t : Nat) : Int := (st R B F t).2
def go (R B : Int) (F : Nat → Int) (t : Nat) : Int := min (wa R B F t + F t) (ho R B F t)
theorem wa_zero (R B : Int) (F : Nat → Int) : wa R B F 0 = 0 := rfl
theorem ho_zero (R B : Int) (F : Nat → Int) : ho R B F 0 = B := rfl
theorem wa_succ (R B : Int) (F : Nat → Int) (t : Nat) : wa R B F (t + 1) = wa R B F t + F t - go R B F t := rfl
theorem ho_succ (R B : Int) (F : Nat → Int) (t : Nat) : ho R B F (t + 1) = min (ho R B F t - go R B F t + R) B := rfl
def pass (R B : Int) (s : List Int) : List Int := outs (go R B fun j => s.getD j 0) s.length
theorem pass_len (R B : Int) (s : List Int) : (pass R B s).length = s.length := outs_len _ _

section
variable {R B : Int} {F : Nat → Int} {n : Nat} (hR : inr R) (hB : inr B) (hF : ∀ j, j < n → inr (F j))
include hR hB hF
theorem st_in (t : Nat) (ht : t ≤ n) : 0 ≤ wa R B F t ∧ 0 ≤ ho R B F t ∧ ho R B F t ≤ B := by
  unfold inr at *
  induction t with
  | zero => rw [wa_zero, ho_zero]; omega
  | succ t ih =>
    have := ih (by omega)
    have := hF t (by omega)
    rw [wa_succ, ho_succ]
    unfold go
    omega
theorem go_in (t : Nat) (ht : t < n) : inr (go R B F t) := by
  have := st_in hR hB hF t (by omega)
  have := hF t ht
  unfold inr go at *
  omega
theorem wa_acc (t : Nat) (ht : t ≤ n) : wa R B F t = acc F t - acc (go R B F) t := by
  induction t with
  | zero => rfl
  | succ t ih => rw [wa_succ, ih (by omega)]; simp only [acc]; omega
theorem wa_top (t : Nat) (ht : t ≤ n) (hn : n ≤ 300) : wa R B F t ≤ 329853488332800 := by
  rw [wa_acc hR hB hF t ht]
  have := acc_lo hF t ht
  have := acc_lo (go_in hR hB hF) t ht
  omega
end

/-! Rows. -/
def line (R B : Int) (n : Nat) : List Int := if inr R ∧ inr B then outs (lf R B) n else []
def keeps (R B : Int) (s : List Int) : Prop := bright R B s ∧ below (of s) (conv (of s) (line R B (s.length + 1)))
instance (R B : Int) (s : List Int) : Decidable (keeps R B s) := inferInstanceAs (Decidable (_ ∧ _))
def let' (R B : Int) (s : List Int) : List Int := if bright R B s then pass R B s else []
/-! A line is never more than its parts. -/
/-! The document's own way. -/
end Go.Proofs.YtjageagnclmnjabGreatDoor.B

end

section
namespace Go.Proofs.YtjageagnclmnjabGreatDoor.B
set_option maxRecDepth 100000
open Go.RowKit

theorem outside_any (x : Int) (w : World) :
    Calls Tryz.prog 28 #[.int .i64 x] w fun e w' => e = .returned (.bool (decide (¬ inr x))) ∧ w' = w := by
  by_cases h0 : x < 0
  · have e : decide (¬ inr x) = true := decide_eq_true (by unfold inr; omega)
    rw [e]
    go_enter Tryz.func28, Tryz.ntmps28
    go_wp2
    go_ret
    exact ⟨rfl, rfl⟩
  · by_cases h1 : 1099511627776 < x
    · have e : decide (¬ inr x) = true := decide_eq_true (by unfold inr; omega)
      rw [e]
      go_enter Tryz.func28, Tryz.ntmps28
      go_wp2
      go_ret
      exact ⟨rfl, rfl⟩
    · have e : decide (¬ inr x) = false := decide_eq_false (by unfold inr; omega)
      rw [e]
      go_enter Tryz.func28, Tryz.ntmps28
      go_wp2
      go_ret
      exact ⟨rfl, rfl⟩

set_option maxHeartbeats 1600000 in
theorem index_any (a : Option Addr) (cap : Nat) (z : List Int) (w : World) (hz : Row w a z) (hl : z.length ≤ 35184372088832) :
    Calls Tryz.prog 46 #[.slice a z.length cap, .func (.func 28) #[] #[]] w fun e w' => ∃ k : Int, e = .returned (.int .i64 k) ∧ decide (0 ≤ k) = decide (¬ allIn z) ∧ w' = w := by
  obtain ⟨n, hn⟩ : ∃ n, z.length = n := ⟨_, rfl⟩
  have hyes : Hid ((∀ j, j < n → inr (z.getD j 0)) → decide (¬ allIn z) = false) := fun h => decide_eq_false fun k => k fun j hj => h j (by omega)
  have hno : Hid (∀ j, j < n → ¬ inr (z.getD j 0) → decide (¬ allIn z) = true) := fun j hj h => decide_eq_true fun k => h (k j (by omega))
  generalize decide (¬ allIn z) = ans at hyes hno ⊢
  rw [hn] at hl ⊢
  go_enter Tryz.func46, Tryz.ntmps46
  go_wp2
  go_loopw [8] (fun i wr => ∃ k : Nat, k ≤ n ∧ i = .int .i64 k ∧ (∀ j, j < k → inr (z.getD j 0)) ∧ w = wr) (fun i _ => n - (intOf i).toNat)
  case atStart => exact ⟨0, Nat.zero_le _, rfl, fun j h => by omega, rfl⟩
  case round =>
    obtain ⟨k, hk, rfl, hA, rfl⟩ := hrel
    by_cases hlt : k < n
    · obtain ⟨b, off, rfl, e1⟩ := hz.at (by omega)
      have cx := e1 k (by omega)
      have hkI : (k : Int) < n := by omega
      have hA2 : Hid (inr (z.getD k 0) → ∀ j, j < k + 1 → inr (z.getD j 0)) := fun h j hj => by
        by_cases e : j = k
        · subst e; exact h
        · exact hA j (by omega)
      have hno2 : Hid (¬ inr (z.getD k 0) → ans = true) := hno.out k hlt
      clear hA e1 hno
      generalize z.getD k 0 = x at cx hA2 hno2
      have ho := outside_any x w
      by_cases hx : inr x
      · rw [decide_eq_false (fun h => h hx)] at ho
        have hA3 := hA2.out hx
        replace hA3 : Hid _ := hA3
        clear hA2
        go_wp2_with (go_at_call 28; refine ho.mono ?_; rintro e w'' ⟨rfl, rfl⟩; clear ho)
        go_roundw
        case rel => exact ⟨k + 1, by omega, by go_num, hA3.out, by first | rfl | trivial⟩
        case measure => simp [intOf]; omega
      · rw [decide_eq_true hx] at ho
        have ha := hno2.out hx
        replace ha : Hid (ans = true) := ha
        go_wp2_with (go_at_call 28; refine ho.mono ?_; rintro e w'' ⟨rfl, rfl⟩; clear ho)
        go_ret
        exact ⟨k, rfl, by rw [ha.out]; exact decide_eq_true (by omega), rfl⟩
    · obtain rfl : k = n := by omega
      have ha : Hid (ans = false) := hyes.out hA
      go_wp2
      go_ret
      exact ⟨-1, rfl, by rw [ha.out]; rfl, rfl⟩

theorem contains_any (a : Option Addr) (cap : Nat) (z : List Int) (w : World) (hz : Row w a z) (hl : z.length ≤ 35184372088832) :
    Calls Tryz.prog 29 #[.slice a z.length cap, .func (.func 28) #[] #[]] w fun e w' => e = .returned (.bool (decide (¬ allIn z))) ∧ w' = w := by
  have hi := index_any a cap z w hz hl
  generalize decide (¬ allIn z) = ans at hi ⊢
  go_enter Tryz.func29, Tryz.ntmps29
  go_wp2_with (go_at_call 46; refine hi.mono ?_; rintro e w'' ⟨k, rfl, hk, rfl⟩; clear hi)
  go_ret
  exact ⟨by rw [← hk]; rfl, rfl⟩

set_option maxHeartbeats 1600000 in
theorem bright_any (R B : Int) (a : Option Addr) (cap : Nat) (z : List Int) (w : World) (hz : Row w a z) :
    Calls Tryz.prog 9 #[.agg #[.int .i64 R, .int .i64 B], .slice a z.length cap] w fun e w' => e = .returned (.bool (decide (bright R B z))) ∧ Below w.heap.size w w' := by
  have hB := balloc (Below.refl w.heap.size w) (.cells #[.int .i64 R, .int .i64 B] 23)
  have oR := outside_any R (w.alloc (.cells #[.int .i64 R, .int .i64 B] 23))
  have oB := outside_any B (w.alloc (.cells #[.int .i64 R, .int .i64 B] 23))
  by_cases hR : inr R
  · rw [decide_eq_false (fun h => h hR)] at oR
    by_cases hC : inr B
    · rw [decide_eq_false (fun h => h hC)] at oB
      by_cases hl : z.length < 300
      · have oz := contains_any a cap z (w.alloc (.cells #[.int .i64 R, .int .i64 B] 23)) (hz.alloc _) (by omega)
        have e : decide (bright R B z) = !decide (¬ allIn z) := by
          rw [Bool.eq_iff_iff]; simp [bright, hR, hC, hl]
        rw [e]
        generalize decide (¬ allIn z) = ans at oz ⊢
        clear e
        obtain ⟨n, hn⟩ : ∃ n, z.length = n := ⟨_, rfl⟩
        rw [hn] at hl oz ⊢
        have hlI : (n : Int) < 300 := by omega
        clear hn hR hC
        have T1 := True.intro
        go_enter Tryz.func9, Tryz.ntmps9
        go_wp2_with (first
          | (go_at_call 28; refine oR.mono ?_; rintro e w'' ⟨rfl, rfl⟩; clear oR)
          | (go_at_call 28; refine oB.mono ?_; rintro e w'' ⟨rfl, rfl⟩; clear oB)
          | (go_at_call 29; refine oz.mono ?_; rintro e w'' ⟨rfl, rfl⟩; clear oz))
        go_ret
        exact ⟨rfl, hB⟩
      · have e : decide (bright R B z) = false := decide_eq_false fun k => hl k.2.2.1
        rw [e]
        obtain ⟨n, hn⟩ : ∃ n, z.length = n := ⟨_, rfl⟩
        rw [hn] at hl ⊢
        have hlI : decide ((n : Int) < 300) = false := decide_eq_false (by omega)
        clear hn hR hC hl
        go_enter Tryz.func9, Tryz.ntmps9
        go_wp2_with (first
          | (go_at_call 28; refine oR.mono ?_; rintro e w'' ⟨rfl, rfl⟩; clear oR)
          | (go_at_call 28; refine oB.mono ?_; rintro e w'' ⟨rfl, rfl⟩; clear oB))
        go_ret
        exact ⟨rfl, hB⟩
    · have e : decide (bright R B z) = false := decide_eq_false fun k => hC k.2.1
      rw [e]
      rw [decide_eq_true hC] at oB
      clear hR hC
      go_enter Tryz.func9, Tryz.ntmps9
      go_wp2_with (first
        | (go_at_call 28; refine oR.mono ?_; rintro e w'' ⟨rfl, rfl⟩; clear oR)
        | (go_at_call 28; refine oB.mono ?_; rintro e w'' ⟨rfl, rfl⟩; clear oB))
      go_ret
      exact ⟨rfl, hB⟩
  · have e : decide (bright R B z) = false := decide_eq_false fun k => hR k.1
    rw [e]
    rw [decide_eq_true hR] at oR
    clear hR
    go_enter Tryz.func9, Tryz.ntmps9
    go_wp2_with (go_at_call 28; refine oR.mono ?_; rintro e w'' ⟨rfl, rfl⟩; clear oR)
    go_ret
    exact ⟨rfl, hB⟩

end Go.Proofs.YtjageagnclmnjabGreatDoor.B

end
