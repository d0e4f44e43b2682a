/- PROVED: least sums, what is over, closed rows, on plain integers, and what the promises say of one another. what leastSum and mostOver answer. what Conv and Over answer. a bucket on plain integers: its line, what keeps to it, what it lets through, and what the promises say of one another. CONDITIONS: none beyond each theorem's own. -/
import Derived.Test.YtjageagnclmnjabGreatDoorB38BAns
import Derived.Deep.RegionWith
namespace Go.Proofs.YtjageagnclmnjabGreatDoor.B
set_option maxRecDepth 100000

theorem plus_comm (a b : Int) : plus a b = plus b a := by unfold plus; rw [Int.add_comm]
theorem plus_mono {a b c d : Int} (h1 : fit a ≤ fit c) (h2 : fit b ≤ fit d) : plus a b ≤ plus c d := by
  unfold plus; exact fit_mono (by omega)
theorem plus_zero (a : Int) : plus a 0 = fit a := by
  unfold plus
  rw [fit_of 0 (by omega) (by omega), Int.add_zero, fit_fit]
theorem zero_plus (a : Int) : plus 0 a = fit a := by rw [plus_comm, plus_zero]
/-- the least sum of F at s and G at t - s, of the first k of s -/
def lsum (F G : Nat → Int) (t : Nat) : Nat → Int
  | 0 => 1152921504606846976
  | k + 1 => min (lsum F G t k) (plus (F k) (G (t - k)))
theorem lsum_lo (F G : Nat → Int) (t k : Nat) : 0 ≤ lsum F G t k := by
  induction k with
  | zero => simp [lsum]
  | succ k ih => have := plus_lo (F k) (G (t - k)); simp only [lsum]; omega
theorem lsum_hi (F G : Nat → Int) (t k : Nat) : lsum F G t k ≤ 1152921504606846976 := by
  induction k with
  | zero => simp [lsum]
  | succ k ih => simp only [lsum]; omega
theorem lsum_le (F G : Nat → Int) (t k s : Nat) (h : s < k) : lsum F G t k ≤ plus (F s) (G (t - s)) := by
  induction k with
  | zero => omega
  | succ k ih =>
    simp only [lsum]
    by_cases e : s = k
    · subst e; omega
    · have := ih (by omega); omega
theorem le_lsum (F G : Nat → Int) (t k : Nat) (x : Int) (hx : x ≤ 1152921504606846976) (h : ∀ s, s < k → x ≤ plus (F s) (G (t - s))) : x ≤ lsum F G t k := by
  induction k with
  | zero => exact hx
  | succ k ih =>
    have := ih fun s hs => h s (by omega)
    have := h k (by omega)
    simp only [lsum]; omega
theorem lsum_ext {F G F' G' : Nat → Int} {t : Nat} (k : Nat) (hk : k ≤ t + 1) (hF : ∀ j, j ≤ t → F j = F' j) (hG : ∀ j, j ≤ t → G j = G' j) : lsum F G t k = lsum F' G' t k := by
  induction k with
  | zero => rfl
  | succ k ih => simp only [lsum]; rw [ih (by omega), hF k (by omega), hG (t - k) (by omega)]

/-- at tick t -/
def cv (F G : Nat → Int) (t : Nat) : Int := lsum F G t (t + 1)
theorem cv_lo (F G : Nat → Int) (t : Nat) : 0 ≤ cv F G t := lsum_lo _ _ _ _
theorem cv_hi (F G : Nat → Int) (t : Nat) : cv F G t ≤ 1152921504606846976 := lsum_hi _ _ _ _
theorem cv_fit (F G : Nat → Int) (t : Nat) : fit (cv F G t) = cv F G t := fit_of _ (cv_lo _ _ _) (cv_hi _ _ _)
theorem cv_le (F G : Nat → Int) (t s : Nat) (h : s ≤ t) : cv F G t ≤ plus (F s) (G (t - s)) := lsum_le _ _ _ _ _ (by omega)
theorem le_cv (F G : Nat → Int) (t : Nat) (x : Int) (hx : x ≤ 1152921504606846976) (h : ∀ s, s ≤ t → x ≤ plus (F s) (G (t - s))) : x ≤ cv F G t := le_lsum _ _ _ _ _ hx fun s hs => h s (by omega)
theorem cv_ext {F G F' G' : Nat → Int} {t : Nat} (hF : ∀ j, j ≤ t → F j = F' j) (hG : ∀ j, j ≤ t → G j = G' j) : cv F G t = cv F' G' t := lsum_ext _ (Nat.le_refl _) hF hG
/-! Rows. -/
def conv (f g : List Int) : List Int := outs (cv (fun j => f.getD j 0) fun j => g.getD j 0) (min f.length g.length)
theorem conv_len (f g : List Int) : (conv f g).length = min f.length g.length := outs_len _ _
theorem conv_getD (f g : List Int) (t : Nat) (h : t < min f.length g.length) : (conv f g).getD t 0 = cv (fun j => f.getD j 0) (fun j => g.getD j 0) t := outs_getD _ _ _ h
/-- the most by which F has more than G, of the first k -/
def mo (F G : Nat → Int) : Nat → Int
  | 0 => 0
  | k + 1 => max (mo F G k) (less (F k) (G k))
def ov (F G : Nat → Int) (n m t : Nat) : Int := mo (fun u => F (t + u)) G (min (n - t) m)
def over (f g : List Int) : List Int := outs (ov (fun j => f.getD j 0) (fun j => g.getD j 0) f.length g.length) f.length
/-- never more than its parts -/
def parts (f : List Int) : Prop := (f.length = 0 ∨ fit (f.getD 0 0) = 0) ∧ ∀ t, t < f.length → ∀ s, s ≤ t → fit (f.getD t 0) ≤ plus (f.getD s 0) (f.getD (t - s) 0)

/-- the first k numbers of what is closed -/
def clo (F : Nat → Int) : Nat → List Int
  | 0 => []
  | k + 1 => clo F k ++ [if k = 0 then 0 else cv (fun j => if j < k then (clo F k).getD j 0 else F k) (fun j => if j < k then (clo F k).getD j 0 else F k) k]
theorem clo_len (F : Nat → Int) (k : Nat) : (clo F k).length = k := by
  induction k with
  | zero => rfl
  | succ k ih => simp [clo, ih]
def clf (F : Nat → Int) (t : Nat) : Int := (clo F (t + 1)).getD t 0
theorem snoc_old (R : List Int) (v : Int) (j : Nat) (h : j < R.length) : (R ++ [v]).getD j 0 = R.getD j 0 := by
  rw [List.getD_eq_getElem?_getD, List.getD_eq_getElem?_getD, List.getElem?_append_left h]
theorem snoc_new (R : List Int) (v : Int) (j : Nat) (h : j = R.length) : (R ++ [v]).getD j 0 = v := by
  subst h; simp [List.getD_eq_getElem?_getD]
theorem clo_getD (F : Nat → Int) (k j : Nat) (h : j < k) : (clo F k).getD j 0 = clf F j := by
  induction k with
  | zero => omega
  | succ k ih =>
    by_cases e : j = k
    · subst e; rfl
    · simp only [clo]
      rw [snoc_old _ _ _ (by rw [clo_len]; omega)]
      exact ih (by omega)
theorem clf_zero (F : Nat → Int) : clf F 0 = 0 := rfl
theorem clf_eq (F : Nat → Int) (t : Nat) (h : 0 < t) : clf F t = cv (fun j => if j < t then clf F j else F t) (fun j => if j < t then clf F j else F t) t := by
  unfold clf
  simp only [clo]
  rw [snoc_new _ _ _ (by rw [clo_len]), if_neg (by omega)]
  have e : ∀ j, j ≤ t → (if j < t then (clo F t).getD j 0 else F t) = if j < t then clf F j else F t := fun j hj => by
    by_cases k : j < t
    · rw [if_pos k, if_pos k]; exact clo_getD F t j k
    · rw [if_neg k, if_neg k]
  exact cv_ext e e
theorem clf_lo (F : Nat → Int) (t : Nat) : 0 ≤ clf F t := by
  by_cases h : 0 < t
  · rw [clf_eq F t h]; exact cv_lo _ _ _
  · obtain rfl : t = 0 := by omega
    exact Int.le_refl _
theorem clf_hi (F : Nat → Int) (t : Nat) : clf F t ≤ 1152921504606846976 := by
  by_cases h : 0 < t
  · rw [clf_eq F t h]; exact cv_hi _ _ _
  · obtain rfl : t = 0 := by omega
    rw [clf_zero]; omega
theorem clf_fit (F : Nat → Int) (t : Nat) : fit (clf F t) = clf F t := fit_of _ (clf_lo _ _) (clf_hi _ _)
theorem clf_parts (F : Nat → Int) (t s : Nat) (hs : s ≤ t) : clf F t ≤ plus (clf F s) (clf F (t - s)) := by
  by_cases h0 : s = 0
  · subst h0; rw [clf_zero, Nat.sub_zero, zero_plus, clf_fit]; omega
  · by_cases h1 : s = t
    · subst h1; rw [Nat.sub_self, clf_zero, plus_zero, clf_fit]; omega
    · have k := cv_le (fun j => if j < t then clf F j else F t) (fun j => if j < t then clf F j else F t) t s hs
      rw [← clf_eq F t (by omega)] at k
      simp only [if_pos (show s < t by omega), if_pos (show t - s < t by omega)] at k
      exact k
/-- numbers from 0 to Inf -/
def fits2 (f : List Int) : Prop := ∀ t, t < f.length → fit (f.getD t 0) = f.getD t 0
/-! Least sums rise. -/
/-! The document's own way: by all pairs. -/
def eo (F G : Nat → Int) (m s u t : Nat) : Int := if t ≤ s ∧ s < t + u then mo (fun u => F (t + u)) G (s - t + 1) else mo (fun u => F (t + u)) G (min (s - t) m)
/-! With itself, again and again. -/
structure Mid (f g : List Int) : Prop where
  len : g.length = f.length
  zero : g.getD 0 0 = 0
  fits : fits2 g
  lo : ∀ t, t < f.length → clf (fun j => f.getD j 0) t ≤ g.getD t 0
  hi : ∀ t, 0 < t → t < f.length → g.getD t 0 ≤ fit (f.getD t 0)
theorem Mid.conv {f g : List Int} (h : Mid f g) (h0 : 0 < f.length) : Mid f (conv g g) ∧ ∀ t, t < f.length → (conv g g).getD t 0 ≤ g.getD t 0 := by
  have hl := h.len
  have hle : ∀ t, t < f.length → (YtjageagnclmnjabGreatDoor.B.conv g g).getD t 0 ≤ g.getD t 0 := fun t ht => by
    rw [conv_getD _ _ _ (by omega)]
    have := cv_le (fun j => g.getD j 0) (fun j => g.getD j 0) t t (Nat.le_refl _)
    simp only [Nat.sub_self, h.zero, plus_zero, h.fits t (by omega)] at this
    exact this
  have hfit : fits2 (YtjageagnclmnjabGreatDoor.B.conv g g) := fun t ht => by
    rw [conv_len] at ht; rw [conv_getD _ _ _ ht, cv_fit]
  refine ⟨⟨by rw [conv_len]; omega, ?_, hfit, fun t ht => ?_, fun t h0 ht => Int.le_trans (hle t ht) (h.hi t h0 ht)⟩, hle⟩
  · have h1 := hle 0 h0
    have h2 := hfit 0 (by rw [conv_len]; omega)
    have := fit_lo ((YtjageagnclmnjabGreatDoor.B.conv g g).getD 0 0)
    rw [h.zero] at h1
    omega
  · rw [conv_getD _ _ _ (by omega)]
    refine le_cv _ _ _ _ (clf_hi _ _) fun s hs => Int.le_trans (clf_parts _ t s hs) (plus_mono ?_ ?_)
    · rw [clf_fit, h.fits s (by omega)]; exact h.lo s (by omega)
    · rw [clf_fit, h.fits (t - s) (by omega)]; exact h.lo (t - s) (by omega)
/-- how much there is in all -/
def weight (g : List Int) : Nat := (g.map Int.toNat).sum
end Go.Proofs.YtjageagnclmnjabGreatDoor.B

namespace Go.Proofs.YtjageagnclmnjabGreatDoor.B
set_option maxRecDepth 100000
open Go.RowKit

theorem wrapIs (x : Int) : IntKind.i64.wrap x = wrap64 x := by rw [IntKind.wrap_i64]; unfold wrap64; rfl
theorem wrapIn {x : Int} (h : -9223372036854775808 ≤ x ∧ x ≤ 9223372036854775807) : IntKind.i64.wrap x = x := by rw [wrapIs]; exact IntWalk.wrap64_in _ h

end Go.Proofs.YtjageagnclmnjabGreatDoor.B

namespace Go.Proofs.YtjageagnclmnjabGreatDoor.B
set_option maxRecDepth 100000
open Go.RowKit

/-- n numbers that may be written, in block O -/
structure Cells (w : World) (O n : Nat) (V : Nat → Int) : Prop where
  c : ∀ j, j < n → w.cell? ⟨O, j, none⟩ = some (.int .i64 (V j))
  fz : ∀ j, j < n → w.frozen? ⟨O, j, none⟩ = false
theorem Cells.start (w : World) (n : Nat) (V : Nat → Int) (hV : ∀ j, j < n → V j = 0) : Cells (w.alloc (.cells (madeCells #[.int .i64 0] n) 3)) w.heap.size n V := by
  refine ⟨fun j hj => ?_, fun j hj => ?_⟩
  · rw [World.cell?_alloc_at _ _ _ _ rfl, hV j hj]
    simp [madeCells, hj, Nat.mod_one]
  · rw [World.frozen?_alloc_at _ _ _ _ rfl]
theorem Cells.put {w : World} {O n : Nat} {V V' : Nat → Int} (h : Cells w O n V) {k : Nat} (hk : k < n) {v : Int} (hv : V' k = v) (hj : ∀ j, j < n → j ≠ k → V' j = V j) : Cells (w.setCell ⟨O, k, none⟩ (.int .i64 v)) O n V' := by
  refine ⟨fun j hjn => ?_, fun j hjn => ?_⟩
  · by_cases e : j = k
    · subst e; subst hv
      exact World.cell?_setCell_same _ _ _ (h.c j hk)
    · rw [World.cell?_setCell_other _ _ _ _ (fun q => e (by injection q with _ q _; exact q.symm)), hj j hjn e]
      exact h.c j hjn
  · rw [World.frozen?_setCell]; exact h.fz j hjn
theorem Cells.drewN {w : World} {O n : Nat} {V : Nat → Int} (h : Cells w O n V) (q : Nat) : Cells (w.drewN q) O n V := ⟨h.c, h.fz⟩
theorem Cells.ext {w : World} {O n : Nat} {V V' : Nat → Int} (h : Cells w O n V) (e : ∀ j, j < n → V' j = V j) : Cells w O n V' := ⟨fun j hj => by rw [e j hj]; exact h.c j hj, h.fz⟩
theorem Cells.row {w : World} {O n : Nat} {f : Nat → Int} (h : Cells w O n f) : Row w (some ⟨O, 0, none⟩) (outs f n) := .inr ⟨O, 0, rfl, fun j hj => by
  rw [outs_len] at hj
  rw [Nat.zero_add, outs_getD _ _ _ hj]; exact h.c j hj⟩
/-- the first k are there -/
def fill (f : Nat → Int) (k j : Nat) : Int := if j < k then f j else 0
theorem fill_new (f : Nat → Int) (k : Nat) : fill f (k + 1) k = f k := by unfold fill; rw [if_pos (by omega)]
theorem fill_old (f : Nat → Int) (k j : Nat) (h : j ≠ k) : fill f (k + 1) j = fill f k j := by
  unfold fill
  by_cases e : j < k
  · rw [if_pos e, if_pos (by omega)]
  · rw [if_neg e, if_neg (by omega)]
theorem fill_all (f : Nat → Int) (n j : Nat) (h : j < n) : fill f n j = f j := by unfold fill; rw [if_pos h]

theorem Cells.done {w wr : World} {n : Nat} {f : Nat → Int} (h : Cells wr w.heap.size n f) (hb : Below w.heap.size w wr) : Ans w (outs f n) (.returned (.slice (some ⟨w.heap.size, 0, none⟩) n n)) wr :=
  ⟨_, n, by rw [outs_len], by rw [outs_len]; exact Nat.le_refl _, h.row, hb⟩
end Go.Proofs.YtjageagnclmnjabGreatDoor.B

namespace Go.Proofs.YtjageagnclmnjabGreatDoor.B
set_option maxRecDepth 100000
set_option linter.unusedVariables false
set_option linter.unusedSectionVars false

/-- a number from 0 to Most -/
def inr (x : Int) : Prop := 0 ≤ x ∧ x ≤ 1099511627776
instance (x : Int) : Decidable (inr x) := inferInstanceAs (Decidable (_ ∧ _))
def allIn (s : List Int) : Prop := ∀ j, j < s.length → inr (s.getD j 0)
instance (s : List Int) : Decidable (allIn s) := inferInstanceAs (Decidable (∀ j, j < s.length → inr (s.getD j 0)))
def bright (R B : Int) (s : List Int) : Prop := inr R ∧ inr B ∧ s.length < 300 ∧ allIn s
instance (R B : Int) (s : List Int) : Decidable (bright R B s) := inferInstanceAs (Decidable (_ ∧ _ ∧ _ ∧ _))

/-- the line at tick t -/
def lf (R B : Int) (t : Nat) : Int := if t = 0 then 0 else B + ((t : Int) - 1) * min R B
theorem lf_zero (R B : Int) : lf R B 0 = 0 := rfl
theorem lf_succ (R B : Int) (t : Nat) : lf R B (t + 1) = B + (t : Int) * min R B := by
  unfold lf
  rw [if_neg (by omega)]
  congr 2
  omega
theorem lf_next (R B : Int) (t : Nat) : lf R B (t + 1 + 1) = lf R B (t + 1) + min R B := by
  rw [lf_succ, lf_succ]
  have : ((t + 1 : Nat) : Int) * min R B = (t : Int) * min R B + min R B := by
    rw [show ((t + 1 : Nat) : Int) = (t : Int) + 1 by omega, Int.add_mul, Int.one_mul]
  omega
/-- plain sums -/
def acc (F : Nat → Int) : Nat → Int
  | 0 => 0
  | k + 1 => acc F k + F k
theorem acc_inj {F G : Nat → Int} {n : Nat} (h : ∀ t, t ≤ n → acc F t = acc G t) (j : Nat) (hj : j < n) : F j = G j := by
  have h1 := h j (by omega)
  have h2 := h (j + 1) (by omega)
  simp only [acc] at h2
  omega
theorem acc_ext {F G : Nat → Int} (k : Nat) (h : ∀ j, j < k → F j = G j) : acc F k = acc G k := by
  induction k with
  | zero => rfl
  | succ k ih => simp only [acc]; rw [ih fun j hj => h j (by omega), h k (by omega)]
theorem acc_lo {F : Nat → Int} {n : Nat} (h : ∀ j, j < n → inr (F j)) (k : Nat) (hk : k ≤ n) : 0 ≤ acc F k ∧ acc F k ≤ k * 1099511627776 := by
  induction k with
  | zero => simp [acc]
  | succ k ih =>
    have := ih (by omega)
    have := h k (by omega)
    unfold inr at *
    simp only [acc]
    omega
theorem plus_small {a b : Int} (h0 : 0 ≤ a) (h1 : 0 ≤ b) (h2 : a + b ≤ 1152921504606846976) : plus a b = a + b := by
  unfold plus; rw [fit_of a h0 (by omega), fit_of b h1 (by omega), fit_of _ (by omega) h2]
theorem psum_acc {F : Nat → Int} {n : Nat} (hn : n ≤ 300) (h : ∀ j, j < n → inr (F j)) (k : Nat) (hk : k ≤ n) : psum F k = acc F k := by
  induction k with
  | zero => rfl
  | succ k ih =>
    simp only [psum, acc]
    rw [ih (by omega)]
    have := acc_lo h k (by omega)
    have := h k (by omega)
    unfold inr at *
    exact plus_small (by omega) (by omega) (by omega)

/-- waits, and what the bucket holds, ahead of tick t -/
def st (R B : Int) (F : Nat → Int) : Nat → Int × Int
  | 0 => (0, B)
  | t + 1 => ((st R B F t).1 + F t - min ((st R B F t).1 + F t) (st R B F t).2, min ((st R B F t).2 - min ((st R B F t).1 + F t) (st R B F t).2 + R) B)
def wa (R B : Int) (F : Nat → Int) (t : Nat) : Int := (st R B F t).1
def ho (R B : Int) (F : Nat → Int) (t : Nat) : Int := (st R B F t).2
def go (R B : Int) (F : Nat → Int) (t : Nat) : Int := min (wa R B F t + F t) (ho R B F t)
theorem wa_zero (R B : Int) (F : Nat → Int) : wa R B F 0 = 0 := rfl
theorem ho_zero (R B : Int) (F : Nat → Int) : ho R B F 0 = B := rfl
theorem wa_succ (R B : Int) (F : Nat → Int) (t : Nat) : wa R B F (t + 1) = wa R B F t + F t - go R B F t := rfl
theorem ho_succ (R B : Int) (F : Nat → Int) (t : Nat) : ho R B F (t + 1) = min (ho R B F t - go R B F t + R) B := rfl
def pass (R B : Int) (s : List Int) : List Int := outs (go R B fun j => s.getD j 0) s.length
theorem pass_len (R B : Int) (s : List Int) : (pass R B s).length = s.length := outs_len _ _

section
variable {R B : Int} {F : Nat → Int} {n : Nat} (hR : inr R) (hB : inr B) (hF : ∀ j, j < n → inr (F j))
include hR hB hF
theorem st_in (t : Nat) (ht : t ≤ n) : 0 ≤ wa R B F t ∧ 0 ≤ ho R B F t ∧ ho R B F t ≤ B := by
  unfold inr at *
  induction t with
  | zero => rw [wa_zero, ho_zero]; omega
  | succ t ih =>
    have := ih (by omega)
    have := hF t (by omega)
    rw [wa_succ, ho_succ]
    unfold go
    omega
theorem go_in (t : Nat) (ht : t < n) : inr (go R B F t) := by
  have := st_in hR hB hF t (by omega)
  have := hF t ht
  unfold inr go at *
  omega
theorem wa_acc (t : Nat) (ht : t ≤ n) : wa R B F t = acc F t - acc (go R B F) t := by
  induction t with
  | zero => rfl
  | succ t ih => rw [wa_succ, ih (by omega)]; simp only [acc]; omega
theorem wa_top (t : Nat) (ht : t ≤ n) (hn : n ≤ 300) : wa R B F t ≤ 329853488332800 := by
  rw [wa_acc hR hB hF t ht]
  have := acc_lo hF t ht
  have := acc_lo (go_in hR hB hF) t ht
  omega
theorem ho_le (t : Nat) (ht : t ≤ n) (u : Nat) (hu : u ≤ t) : ho R B F t + acc (go R B F) t ≤ acc (go R B F) u + lf R B (t - u + 1) := by
  induction t with
  | zero =>
    obtain rfl : u = 0 := by omega
    rw [ho_zero, lf_succ]; simp; omega
  | succ t ih =>
    have s := st_in hR hB hF t (by omega)
    have := hF t (by omega)
    rw [ho_succ]
    by_cases e : u = t + 1
    · subst e
      rw [Nat.sub_self, lf_succ]; simp; omega
    · have k := ih (by omega) (by omega)
      rw [show t + 1 - u + 1 = t - u + 1 + 1 by omega, lf_next]
      have : go R B F t ≤ ho R B F t := by unfold go; omega
      unfold inr at *
      simp only [acc]
      omega
theorem sum_keeps (t : Nat) (ht : t ≤ n) (u : Nat) (hu : u ≤ t) : acc (go R B F) t ≤ acc (go R B F) u + lf R B (t - u) := by
  by_cases e : u = t
  · subst e; rw [Nat.sub_self, lf_zero]; omega
  · obtain ⟨v, rfl⟩ : ∃ v, t = v + 1 := ⟨t - 1, by omega⟩
    have := ho_le hR hB hF v (by omega) u (by omega)
    rw [show v + 1 - u = v - u + 1 by omega]
    have g : go R B F v ≤ ho R B F v := by unfold go; omega
    simp only [acc]
    omega
end

/-- its sums keep to the line -/
def keepsTo (R B : Int) (F : Nat → Int) (n : Nat) : Prop := ∀ t, t ≤ n → ∀ u, u ≤ t → acc F t ≤ acc F u + lf R B (t - u)

theorem go_keeps {R B : Int} {F : Nat → Int} {n : Nat} (hR : inr R) (hB : inr B) (hF : ∀ j, j < n → inr (F j)) : keepsTo R B (go R B F) n := fun t ht u hu => sum_keeps hR hB hF t ht u hu
/-! Rows. -/
def line (R B : Int) (n : Nat) : List Int := if inr R ∧ inr B then outs (lf R B) n else []
def keeps (R B : Int) (s : List Int) : Prop := bright R B s ∧ below (of s) (conv (of s) (line R B (s.length + 1)))
instance (R B : Int) (s : List Int) : Decidable (keeps R B s) := inferInstanceAs (Decidable (_ ∧ _))
def let' (R B : Int) (s : List Int) : List Int := if bright R B s then pass R B s else []
theorem of_getD {R B : Int} {s : List Int} (h : bright R B s) (t : Nat) (ht : t ≤ s.length) : (of s).getD t 0 = acc (fun j => s.getD j 0) t := by
  rw [of, outs_getD _ _ _ (by omega)]
  exact psum_acc (n := s.length) (Nat.le_of_lt h.2.2.1) h.2.2.2 t ht
theorem pass_getD (R B : Int) (s : List Int) (j : Nat) (h : j < s.length) : (pass R B s).getD j 0 = go R B (fun j => s.getD j 0) j := outs_getD _ _ _ h
theorem pass_bright {R B Q C : Int} {s : List Int} (h : bright R B s) (hQ : inr Q) (hC : inr C) : bright Q C (pass R B s) := by
  refine ⟨hQ, hC, by rw [pass_len]; exact h.2.2.1, fun j hj => ?_⟩
  rw [pass_len] at hj
  rw [pass_getD _ _ _ _ hj]
  exact go_in h.1 h.2.1 h.2.2.2 j hj
/-! A line is never more than its parts. -/
/-! The document's own way. -/
/-- the most that may go at tick t: by what went ahead -/
def may (R B : Int) (D : Nat → Int) (w : Int) (t : Nat) : Nat → Int
  | 0 => w
  | k + 1 => min (may R B D w t k) (B + (k : Int) * min R B - (D t - D (t - k)))
end Go.Proofs.YtjageagnclmnjabGreatDoor.B
