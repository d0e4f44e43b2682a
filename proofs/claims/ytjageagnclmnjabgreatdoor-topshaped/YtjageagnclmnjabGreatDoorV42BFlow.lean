/- PROVED: what leastSum and mostOver answer. what Conv and Over answer. a bucket on plain integers: its line, what keeps to it, what it lets through, and what the promises say of one another. CONDITIONS: none beyond each theorem's own. -/
import Derived.Test.YtjageagnclmnjabGreatDoorV40BAns
import Derived.Test.YtjageagnclmnjabGreatDoorV41BLeast
import Derived.Deep.RegionWith
section
namespace Go.Proofs.YtjageagnclmnjabGreatDoor.B
set_option maxRecDepth 100000
open Go.RowKit

end Go.Proofs.YtjageagnclmnjabGreatDoor.B

end

section
namespace Go.Proofs.YtjageagnclmnjabGreatDoor.B
set_option maxRecDepth 100000
open Go.RowKit

/-- n numbers that may be written, in block O -/
structure Cells (w : World) (O n : Nat) (V : Nat → Int) : Prop where
  c : ∀ j, j < n → w.cell? ⟨O, j, none⟩ = some (.int .i64 (V j))
  fz : ∀ j, j < n → w.frozen? ⟨O, j, none⟩ = false
theorem Cells.start (w : World) (n : Nat) (V : Nat → Int) (hV : ∀ j, j < n → V j = 0) : Cells (w.alloc (.cells (madeCells #[.int .i64 0] n) 3)) w.heap.size n V := by
  refine ⟨fun j hj => ?_, fun j hj => ?_⟩
  · rw [World.cell?_alloc_at _ _ _ _ rfl, hV j hj]
    simp [madeCells, hj, Nat.mod_one]
  · rw [World.frozen?_alloc_at _ _ _ _ rfl]
theorem Cells.put {w : World} {O n : Nat} {V V' : Nat → Int} (h : Cells w O n V) {k : Nat} (hk : k < n) {v : Int} (hv : V' k = v) (hj : ∀ j, j < n → j ≠ k → V' j = V j) : Cells (w.setCell ⟨O, k, none⟩ (.int .i64 v)) O n V' := by
  refine ⟨fun j hjn => ?_, fun j hjn => ?_⟩
  · by_cases e : j = k
    · subst e; subst hv
      exact World.cell?_setCell_same _ _ _ (h.c j hk)
    · rw [World.cell?_setCell_other _ _ _ _ (fun q => e (by injection q with _ q _; exact q.symm)), hj j hjn e]
      exact h.c j hjn
  · rw [World.frozen?_setCell]; exact h.fz j hjn
theorem Cells.drewN {w : World} {O n : Nat} {V : Nat → Int} (h : Cells w O n V) (q : Nat) : Cells (w.drewN q) O n V := ⟨h.c, h.fz⟩
theorem Cells.ext {w : World} {O n : Nat} {V V' : Nat → Int} (h : Cells w O n V) (e : ∀ j, j < n → V' j = V j) : Cells w O n V' := ⟨fun j hj => by rw [e j hj]; exact h.c j hj, h.fz⟩
theorem Cells.row {w : World} {O n : Nat} {f : Nat → Int} (h : Cells w O n f) : Row w (some ⟨O, 0, none⟩) (outs f n) := .inr ⟨O, 0, rfl, fun j hj => by
  rw [outs_len] at hj
  rw [Nat.zero_add, outs_getD _ _ _ hj]; exact h.c j hj⟩
/-- the first k are there -/
def fill (f : Nat → Int) (k j : Nat) : Int := if j < k then f j else 0
theorem fill_new (f : Nat → Int) (k : Nat) : fill f (k + 1) k = f k := by unfold fill; rw [if_pos (by omega)]
theorem fill_old (f : Nat → Int) (k j : Nat) (h : j ≠ k) : fill f (k + 1) j = fill f k j := by
  unfold fill
  by_cases e : j < k
  · rw [if_pos e, if_pos (by omega)]
  · rw [if_neg e, if_neg (by omega)]
theorem fill_all (f : Nat → Int) (n j : Nat) (h : j < n) : fill f n j = f j := by unfold fill; rw [if_pos h]

theorem Cells.done {w wr : World} {n : Nat} {f : Nat → Int} (h : Cells wr w.heap.size n f) (hb : Below w.heap.size w wr) : Ans w (outs f n) (.returned (.slice (some ⟨w.heap.size, 0, none⟩) n n)) wr :=
  ⟨_, n, by rw [outs_len], by rw [outs_len]; exact Nat.le_refl _, h.row, hb⟩
end Go.Proofs.YtjageagnclmnjabGreatDoor.B

end

section
namespace Go.Proofs.YtjageagnclmnjabGreatDoor.B
set_option maxRecDepth 100000
set_option linter.unusedVariables false
set_option linter.unusedSectionVars false

/-- a number from 0 to Most -/
def inr (x : Int) : Prop := 0 ≤ x ∧ x ≤ 1099511627776
instance (x : Int) : Decidable (inr x) := inferInstanceAs (Decidable (_ ∧ _))
def allIn (s : List Int) : Prop := ∀ j, j < s.length → inr (s.getD j 0)
instance (s : List Int) : Decidable (allIn s) := inferInstanceAs (Decidable (∀ j, j < s.length → inr (s.getD j 0)))
def bright (R B : Int) (s : List Int) : Prop := inr R ∧ inr B ∧ s.length < 300 ∧ allIn s
instance (R B : Int) (s : List Int) : Decidable (bright R B s) := inferInstanceAs (Decidable (_ ∧ _ ∧ _ ∧ _))

/-- the line at tick t -/
def lf (R B : Int) (t : Nat) : Int := if t = 0 then 0 else B + ((t : Int) - 1) * min R B
theorem lf_zero (R B : Int) : lf R B 0 = 0 := rfl
theorem lf_succ (R B : Int) (t : Nat) : lf R B (t + 1) = B + (t : Int) * min R B := by
  unfold lf
  rw [if_neg (by omega)]
  congr 2
  omega
theorem lf_next (R B : Int) (t : Nat) : lf R B (t + 1 + 1) = lf R B (t + 1) + min R B := by
  rw [lf_succ, lf_succ]
  have : ((t + 1 : Nat) : Int) * min R B = (t : Int) * min R B + min R B := by
    rw [show ((t + 1 : Nat) : Int) = (t : Int) + 1 by omega, Int.add_mul, Int.one_mul]
  omega
/-- plain sums -/
def acc (F : Nat → Int) : Nat → Int
  | 0 => 0
  | k + 1 => acc F k + F k
theorem acc_ext {F G : Nat → Int} (k : Nat) (h : ∀ j, j < k → F j = G j) : acc F k = acc G k := by
  induction k with
  | zero => rfl
  | succ k ih => simp only [acc]; rw [ih fun j hj => h j (by omega), h k (by omega)]
theorem acc_lo {F : Nat → Int} {n : Nat} (h : ∀ j, j < n → inr (F j)) (k : Nat) (hk : k ≤ n) : 0 ≤ acc F k ∧ acc F k ≤ k * 1099511627776 := by
  induction k with
  | zero => simp [acc]
  | succ k ih =>
    have := ih (by omega)
    have := h k (by omega)
    unfold inr at *
    simp only [acc]
    omega
theorem plus_small {a b : Int} (h0 : 0 ≤ a) (h1 : 0 ≤ b) (h2 : a + b ≤ 1152921504606846976) : plus a b = a + b := by
  unfold plus; rw [fit_of a h0 (by omega), fit_of b h1 (by omega), fit_of _ (by omega) h2]
theorem psum_acc {F : Nat → Int} {n : Nat} (hn : n ≤ 300) (h : ∀ j, j < n → inr (F j)) (k : Nat) (hk : k ≤ n) : psum F k = acc F k := by
  induction k with
  | zero => rfl
  | succ k ih =>
    simp only [psum, acc]
    rw [ih (by omega)]
    have := acc_lo h k (by omega)
    have := h k (by omega)
    unfold inr at *
    exact plus_small (by omega) (by omega) (by omega)

/-- waits, and what the bucket holds, ahead of tick t -/
def st (R B : Int) (F : Nat → Int) : Nat → Int × Int
  | 0 => (0, B)
  | t + 1 => ((st R B F t).1 + F t - min ((st R B F t).1 + F t) (st R B F t).2, min ((st R B F t).2 - min ((st R B F t).1 + F t) (st R B F t).2 + R) B)
def wa (R B : Int) (F : Nat → Int) (t : Nat) : Int := (st R B F t).1
def ho (R B : Int) (F : Nat → Int) (t : Nat) : Int := (st R B F t).2
def go (R B : Int) (F : Nat → Int) (t : Nat) : Int := min (wa R B F t + F t) (ho R B F t)
theorem wa_zero (R B : Int) (F : Nat → Int) : wa R B F 0 = 0 := rfl
theorem ho_zero (R B : Int) (F : Nat → Int) : ho R B F 0 = B := rfl
theorem wa_succ (R B : Int) (F : Nat → Int) (t : Nat) : wa R B F (t + 1) = wa R B F t + F t - go R B F t := rfl
theorem ho_succ (R B : Int) (F : Nat → Int) (t : Nat) : ho R B F (t + 1) = min (ho R B F t - go R B F t + R) B := rfl
def pass (R B : Int) (s : List Int) : List Int := outs (go R B fun j => s.getD j 0) s.length
theorem pass_len (R B : Int) (s : List Int) : (pass R B s).length = s.length := outs_len _ _

section
variable {R B : Int} {F : Nat → Int} {n : Nat} (hR : inr R) (hB : inr B) (hF : ∀ j, j < n → inr (F j))
include hR hB hF
theorem st_in (t : Nat) (ht : t ≤ n) : 0 ≤ wa R B F t ∧ 0 ≤ ho R B F t ∧ ho R B F t ≤ B := by
  unfold inr at *
  induction t with
  | zero => rw [wa_zero, ho_zero]; omega
  | succ t ih =>
    have := ih (by omega)
    have := hF t (by omega)
    rw [wa_succ, ho_succ]
    unfold go
    omega
theorem go_in (t : Nat) (ht : t < n) : inr (go R B F t) := by
  have := st_in hR hB hF t (by omega)
  have := hF t ht
  unfold inr go at *
  omega
theorem wa_acc (t : Nat) (ht : t ≤ n) : wa R B F t = acc F t - acc (go R B F) t := by
  induction t with
  | zero => rfl
  | succ t ih => rw [wa_succ, ih (by omega)]; simp only [acc]; omega
theorem wa_top (t : Nat) (ht : t ≤ n) (hn : n ≤ 300) : wa R B F t ≤ 329853488332800 := by
  rw [wa_acc hR hB hF t ht]
  have := acc_lo hF t ht
  have := acc_lo (go_in hR hB hF) t ht
  omega
theorem ho_le (t : Nat) (ht : t ≤ n) (u : Nat) (hu : u ≤ t) : ho R B F t + acc (go R B F) t ≤ acc (go R B F) u + lf R B (t - u + 1) := by
  induction t with
  | zero =>
    obtain rfl : u = 0 := by omega
    rw [ho_zero, lf_succ]; simp; omega
  | succ t ih =>
    have s := st_in hR hB hF t (by omega)
    have := hF t (by omega)
    rw [ho_succ]
    by_cases e : u = t + 1
    · subst e
      rw [Nat.sub_self, lf_succ]; simp; omega
    · have k := ih (by omega) (by omega)
      rw [show t + 1 - u + 1 = t - u + 1 + 1 by omega, lf_next]
      have : go R B F t ≤ ho R B F t := by unfold go; omega
      unfold inr at *
      simp only [acc]
      omega
theorem sum_keeps (t : Nat) (ht : t ≤ n) (u : Nat) (hu : u ≤ t) : acc (go R B F) t ≤ acc (go R B F) u + lf R B (t - u) := by
  by_cases e : u = t
  · subst e; rw [Nat.sub_self, lf_zero]; omega
  · obtain ⟨v, rfl⟩ : ∃ v, t = v + 1 := ⟨t - 1, by omega⟩
    have := ho_le hR hB hF v (by omega) u (by omega)
    rw [show v + 1 - u = v - u + 1 by omega]
    have g : go R B F v ≤ ho R B F v := by unfold go; omega
    simp only [acc]
    omega
end

/-- its sums keep to the line -/
def keepsTo (R B : Int) (F : Nat → Int) (n : Nat) : Prop := ∀ t, t ≤ n → ∀ u, u ≤ t → acc F t ≤ acc F u + lf R B (t - u)

theorem go_keeps {R B : Int} {F : Nat → Int} {n : Nat} (hR : inr R) (hB : inr B) (hF : ∀ j, j < n → inr (F j)) : keepsTo R B (go R B F) n := fun t ht u hu => sum_keeps hR hB hF t ht u hu
/-! Rows. -/
def line (R B : Int) (n : Nat) : List Int := if inr R ∧ inr B then outs (lf R B) n else []
def keeps (R B : Int) (s : List Int) : Prop := bright R B s ∧ below (of s) (conv (of s) (line R B (s.length + 1)))
instance (R B : Int) (s : List Int) : Decidable (keeps R B s) := inferInstanceAs (Decidable (_ ∧ _))
def let' (R B : Int) (s : List Int) : List Int := if bright R B s then pass R B s else []
theorem of_getD {R B : Int} {s : List Int} (h : bright R B s) (t : Nat) (ht : t ≤ s.length) : (of s).getD t 0 = acc (fun j => s.getD j 0) t := by
  rw [of, outs_getD _ _ _ (by omega)]
  exact psum_acc (n := s.length) (Nat.le_of_lt h.2.2.1) h.2.2.2 t ht
theorem pass_getD (R B : Int) (s : List Int) (j : Nat) (h : j < s.length) : (pass R B s).getD j 0 = go R B (fun j => s.getD j 0) j := outs_getD _ _ _ h
theorem pass_bright {R B Q C : Int} {s : List Int} (h : bright R B s) (hQ : inr Q) (hC : inr C) : bright Q C (pass R B s) := by
  refine ⟨hQ, hC, by rw [pass_len]; exact h.2.2.1, fun j hj => ?_⟩
  rw [pass_len] at hj
  rw [pass_getD _ _ _ _ hj]
  exact go_in h.1 h.2.1 h.2.2.2 j hj
/-! A line is never more than its parts. -/
/-! The document's own way. -/
end Go.Proofs.YtjageagnclmnjabGreatDoor.B

end
