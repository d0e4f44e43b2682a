/- PROVED: a queue on plain integers: what goes, is lost and waits, and what the promises say of one another. CONDITIONS: none beyond each theorem's own. -/
import Derived.Test.YtjageagnclmnjabGreatDoorV42BFlow
namespace Go.Proofs.YtjageagnclmnjabGreatDoor.B
set_option maxRecDepth 100000
set_option linter.unusedVariables false
set_option linter.unusedSectionVars false

/-- what waits ahead of tick t -/
def qu (R M : Int) (F : Nat → Int) : Nat → Int
  | 0 => 0
  | t + 1 => qu R M F t + F t - min (qu R M F t + F t) R - max (qu R M F t + F t - min (qu R M F t + F t) R - M) 0
/-- what goes, and is lost, at tick t -/
def qg (R M : Int) (F : Nat → Int) (t : Nat) : Int := min (qu R M F t + F t) R
def ql (R M : Int) (F : Nat → Int) (t : Nat) : Int := max (qu R M F t + F t - qg R M F t - M) 0
/-- what waits behind tick t -/
def qw (R M : Int) (F : Nat → Int) (t : Nat) : Int := qu R M F (t + 1)
theorem qu_zero (R M : Int) (F : Nat → Int) : qu R M F 0 = 0 := rfl
theorem qu_succ (R M : Int) (F : Nat → Int) (t : Nat) : qu R M F (t + 1) = qu R M F t + F t - qg R M F t - ql R M F t := rfl

section
variable {R M : Int} {F : Nat → Int} {n : Nat} (hR : inr R) (hM : inr M) (hF : ∀ j, j < n → inr (F j))
include hR hM hF
theorem qu_in (t : Nat) (ht : t ≤ n) : 0 ≤ qu R M F t ∧ qu R M F t ≤ M := by
  unfold inr at *
  induction t with
  | zero => rw [qu_zero]; omega
  | succ t ih =>
    have := ih (by omega)
    have := hF t (by omega)
    rw [qu_succ]; unfold ql qg; omega
theorem qg_in (t : Nat) (ht : t < n) : inr (qg R M F t) := by
  have := qu_in hR hM hF t (by omega)
  have := hF t ht
  unfold inr qg at *; omega
theorem qw_in (t : Nat) (ht : t < n) : inr (qw R M F t) := by
  have := qu_in hR hM hF (t + 1) (by omega)
  unfold inr qw at *; omega
theorem qu_sum (t : Nat) (ht : t ≤ n) : acc F t = acc (qg R M F) t + acc (ql R M F) t + qu R M F t := by
  induction t with
  | zero => rfl
  | succ t ih => rw [qu_succ]; simp only [acc]; have := ih (by omega); omega
theorem lindley (t : Nat) (h : ql R M F t = 0) : qu R M F (t + 1) = max 0 (qu R M F t + F t - R) := by
  rw [qu_succ, h]; unfold qg; omega
end

/-- where nothing is lost, what waits is the most by which what came in some last ticks is more than what goes in so many -/
def most (A : Nat → Int) (R : Int) (t : Nat) : Nat → Int
  | 0 => 0
  | k + 1 => max (most A R t k) (A (t + 1) - A (t - k) - ((k : Int) + 1) * R)
theorem reich_is {R M : Int} {F : Nat → Int} {n : Nat} (hR : inr R) (hM : inr M) (hF : ∀ j, j < n → inr (F j)) (h0 : ∀ j, j < n → ql R M F j = 0) (t : Nat) (ht : t ≤ n) :
    ∃ k, k ≤ t ∧ qu R M F t = acc F t - acc F (t - k) - (k : Int) * R := by
  induction t with
  | zero => exact ⟨0, Nat.le_refl _, by simp [acc, qu_zero]⟩
  | succ t ih =>
    obtain ⟨k, hk, e⟩ := ih (by omega)
    rw [lindley hR hM hF t (h0 t (by omega))]
    by_cases c : qu R M F t + F t - R ≤ 0
    · exact ⟨0, by omega, by simp; omega⟩
    · refine ⟨k + 1, by omega, ?_⟩
      rw [show t + 1 - (k + 1) = t - k by omega, show ((k + 1 : Nat) : Int) * R = (k : Int) * R + R by rw [show ((k + 1 : Nat) : Int) = (k : Int) + 1 by omega, Int.add_mul, Int.one_mul]]
      simp only [acc]
      omega
/-- the first tick from t on at which G behind it is as much as x: how many later, of m that are left -/
def later (x : Int) (G : Nat → Int) (t : Nat) : Nat → Nat
  | 0 => 0
  | m + 1 => if x ≤ G (t + 1) then 0 else later x G (t + 1) m + 1
theorem later_le (x : Int) (G : Nat → Int) (t m : Nat) : later x G t m ≤ m := by
  induction m generalizing t with
  | zero => exact Nat.le_refl _
  | succ m ih => simp only [later]; have := ih (t + 1); split <;> omega
theorem later_lt (x : Int) (G : Nat → Int) (t m i : Nat) (h : i < later x G t m) : G (t + i + 1) < x := by
  induction m generalizing t i with
  | zero => simp [later] at h
  | succ m ih =>
    simp only [later] at h
    split at h
    · omega
    · rename_i c
      cases i with
      | zero => simpa using c
      | succ i =>
        have := ih (t + 1) i (by omega)
        rw [show t + (i + 1) + 1 = t + 1 + i + 1 by omega]; exact this
theorem later_at (x : Int) (G : Nat → Int) (t m : Nat) (h : later x G t m < m) : x ≤ G (t + later x G t m + 1) := by
  induction m generalizing t with
  | zero => omega
  | succ m ih =>
    simp only [later] at h ⊢
    split
    · assumption
    · rename_i c
      rw [if_neg c] at h
      have := ih (t + 1) (by omega)
      rw [show t + (later x G (t + 1) m + 1) + 1 = t + 1 + later x G (t + 1) m + 1 by omega]; exact this
theorem later_is (x : Int) (G : Nat → Int) (t m d : Nat) (h1 : d ≤ m) (h2 : ∀ i, i < d → G (t + i + 1) < x) (h3 : d < m → x ≤ G (t + d + 1)) : later x G t m = d := by
  have l := later_le x G t m
  rcases Nat.lt_trichotomy (later x G t m) d with c | c | c
  · have := later_at x G t m (by omega)
    have := h2 _ c
    omega
  · exact c
  · have := later_lt x G t m d c
    have := h3 (by omega)
    omega
/-- how many ticks later; -1 where it is never -/
def delay (A G : Nat → Int) (n t : Nat) : Int := if t + later (A (t + 1)) G t (n - t) = n then -1 else (later (A (t + 1)) G t (n - t) : Int)
theorem delay_is (A G : Nat → Int) (n t d : Nat) (h0 : t ≤ n) (h1 : t + d ≤ n) (h2 : ∀ i, i < d → G (t + i + 1) < A (t + 1)) (h3 : t + d < n → A (t + 1) ≤ G (t + d + 1)) :
    delay A G n t = if t + d = n then -1 else (d : Int) := by
  unfold delay
  rw [later_is (A (t + 1)) G t (n - t) d (by omega) h2 (fun h => h3 (by omega))]

section
variable {R M : Int} {F : Nat → Int} {n : Nat} (hR : inr R) (hM : inr M) (hF : ∀ j, j < n → inr (F j)) (h0 : ∀ j, j < n → ql R M F j = 0)
include hR hM hF h0
theorem acc_zero (t : Nat) (ht : t ≤ n) : acc (ql R M F) t = 0 := by
  induction t with
  | zero => rfl
  | succ t ih => simp only [acc]; rw [ih (by omega), h0 t (by omega)]; rfl
theorem acc_up (G : Nat → Int) (h : ∀ j, j < n → inr (G j)) (t d : Nat) (ht : t + d ≤ n) : acc G t ≤ acc G (t + d) := by
  induction d with
  | zero => exact Int.le_refl _
  | succ d ih =>
    have := ih (by omega)
    have := h (t + d) (by omega)
    unfold inr at this
    rw [show t + (d + 1) = t + d + 1 by omega]
    simp only [acc]; omega
/-- of what waits behind a tick the rate goes at each later one -/
theorem gone (t : Nat) (ht : t < n) (d : Nat) (hd : t + d < n) :
    min (acc F (t + 1)) (acc (qg R M F) (t + d + 1)) = min (acc F (t + 1)) (acc F (t + 1) - qw R M F t + (d : Int) * R) := by
  have hs := fun t ht => qu_sum hR hM hF t ht
  have hz := acc_zero hR hM hF h0
  induction d with
  | zero =>
    have a := hs (t + 1) (by omega)
    rw [hz (t + 1) (by omega)] at a
    unfold qw
    simp
    omega
  | succ d ih =>
    have i := ih (by omega)
    have a := hs (t + d + 1) (by omega)
    rw [hz _ (by omega)] at a
    have u := acc_up hR hM hF h0 F hF (t + 1) d (by omega)
    rw [show t + 1 + d = t + d + 1 by omega] at u
    have f := hF (t + d + 1) (by omega)
    have q := qu_in hR hM hF (t + 1) (by omega)
    rw [show t + (d + 1) + 1 = t + d + 1 + 1 by omega, show ((d + 1 : Nat) : Int) * R = (d : Int) * R + R by rw [show ((d + 1 : Nat) : Int) = (d : Int) + 1 by omega, Int.add_mul, Int.one_mul]]
    have g : acc (qg R M F) (t + d + 1 + 1) = acc (qg R M F) (t + d + 1) + min (qu R M F (t + d + 1) + F (t + d + 1)) R := rfl
    rw [g]
    unfold inr at *
    generalize (d : Int) * R = P at *
    omega
theorem delay_none (t : Nat) (ht : t < n) (hw : qw R M F t = 0) : delay (acc F) (acc (qg R M F)) n t = 0 := by
  rw [delay_is _ _ n t 0 (by omega) (by omega) (fun i hi => by omega) fun _ => ?_]
  · rw [if_neg (by omega)]; rfl
  · have := gone hR hM hF h0 t ht 0 (by omega)
    simp at this
    simp
    omega
theorem delay_ceil (t : Nat) (ht : t < n) (hw : 0 < qw R M F t) (h : 0 < R) (c : Nat) (h1 : qw R M F t ≤ (c : Int) * R) (h2 : ((c : Int) - 1) * R < qw R M F t) :
    delay (acc F) (acc (qg R M F)) n t = if n ≤ t + c then -1 else (c : Int) := by
  have hlt : ∀ i, i < c → t + i < n → acc (qg R M F) (t + i + 1) < acc F (t + 1) := fun i hi hn => by
    have := gone hR hM hF h0 t ht i (by omega)
    have m : (i : Int) * R ≤ ((c : Int) - 1) * R := Int.mul_le_mul_of_nonneg_right (by omega) (by omega)
    omega
  by_cases e : n ≤ t + c
  · rw [if_pos e, delay_is _ _ n t (n - t) (by omega) (by omega) (fun i hi => hlt i (by omega) (by omega)) fun _ => by omega, if_pos (by omega)]
  · rw [if_neg e, delay_is _ _ n t c (by omega) (by omega) (fun i hi => hlt i hi (by omega)) fun _ => ?_, if_neg (by omega)]
    have := gone hR hM hF h0 t ht c (by omega)
    omega
end
theorem ceil_is (w R : Int) (hw : 0 < w) (hR : 0 < R) : ∃ c : Nat, (w + R - 1) / R = (c : Int) ∧ w ≤ (c : Int) * R ∧ ((c : Int) - 1) * R < w ∧ (c : Int) ≤ w := by
  have a := Int.emod_add_mul_ediv (w + R - 1) R
  have b := Int.emod_nonneg (w + R - 1) (Int.ne_of_gt hR)
  have c := Int.emod_lt_of_pos (w + R - 1) hR
  have d : 0 ≤ (w + R - 1) / R := Int.ediv_nonneg (by omega) (by omega)
  refine ⟨((w + R - 1) / R).toNat, by omega, ?_⟩
  rw [Int.toNat_of_nonneg d]
  generalize (w + R - 1) / R = q at *
  rw [Int.mul_comm] at a
  rw [Int.sub_mul, Int.one_mul]
  refine ⟨by omega, by omega, ?_⟩
  have e : q ≤ q * R := by
    have := Int.mul_le_mul_of_nonneg_left (show (1 : Int) ≤ R by omega) d
    omega
  by_cases k : w < q
  · exfalso
    have : (w + 1) * 1 ≤ q * R := Int.mul_le_mul (by omega) (by omega) (by omega) (by omega)
    have h3 : (w + 1) * R ≤ q * R := Int.mul_le_mul_of_nonneg_right (by omega) (by omega)
    rw [Int.add_mul, Int.one_mul] at h3
    have h4 : w * 1 ≤ w * R := Int.mul_le_mul_of_nonneg_left (by omega) (by omega)
    omega
  · omega

/-! Rows. -/
def dels (R : Int) (s : List Int) : List Int := if bright R 1099511627776 s then outs (delay (acc fun j => s.getD j 0) (acc (qg R 1099511627776 fun j => s.getD j 0)) s.length) s.length else []

end Go.Proofs.YtjageagnclmnjabGreatDoor.B
