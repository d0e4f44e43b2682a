/- PROVED: whole rounds at once, on plain integers. CONDITIONS: none beyond each theorem's own. -/
import Derived.Test.YtggnhgbimkfdaaaShr
namespace Go.Proofs.Ytggnhgbimkfdaaa

/-- of the first k the least that one still wants behind r rounds -/
def lst (f : Nat → Int) (r : Int) : Nat → Int
  | 0 => 1073741824
  | k + 1 => if r < f k then min (lst f r k) (f k - r) else lst f r k
theorem lst_in (f : Nat → Int) (r : Int) (k : Nat) : 1 ≤ lst f r k ∧ lst f r k ≤ 1073741824 := by
  induction k with
  | zero => exact ⟨by show (1 : Int) ≤ 1073741824; omega, Int.le_refl _⟩
  | succ k ih => unfold lst; split <;> omega
theorem lst_le (f : Nat → Int) (r : Int) (k j : Nat) (hj : j < k) (h : r < f j) : lst f r k ≤ f j - r := by
  induction k with
  | zero => omega
  | succ k ih =>
    unfold lst
    by_cases e : j = k
    · subst e; rw [if_pos h]; omega
    · have := ih (by omega)
      split <;> omega

/-- the first k have d rounds more -/
def wv (f : Nat → Int) (r d : Int) (k j : Nat) : Int := if j < k then min (f j) (r + d) else min (f j) r
theorem wv_zero (f : Nat → Int) (r d : Int) (j : Nat) : wv f r d 0 j = min (f j) r := if_neg (by omega)
theorem wv_at (f : Nat → Int) (r d : Int) (k : Nat) : wv f r d k k = min (f k) r := if_neg (by omega)
theorem wv_new (f : Nat → Int) (r d : Int) (k : Nat) (h : r < f k) (hd : d ≤ f k - r) : wv f r d (k + 1) k = min (f k) r + d := by
  unfold wv; rw [if_pos (by omega)]; omega
theorem wv_old (f : Nat → Int) (r d : Int) (k j : Nat) (h : j ≠ k) : wv f r d (k + 1) j = wv f r d k j := by
  unfold wv
  by_cases e : j < k
  · rw [if_pos e, if_pos (by omega)]
  · rw [if_neg e, if_neg (by omega)]
theorem wv_same (f : Nat → Int) (r d : Int) (k j : Nat) (hd : 0 ≤ d) (h : ¬ r < f k) : wv f r d (k + 1) j = wv f r d k j := by
  by_cases e : j = k
  · subst e; rw [wv_at]; unfold wv; rw [if_pos (by omega)]; omega
  · exact wv_old f r d k j e
theorem wv_all (f : Nat → Int) (r d : Int) (n j : Nat) (h : j < n) : wv f r d n j = min (f j) (r + d) := if_pos h
/-- the first k have one more, as far as a goes -/
def pv (f : Nat → Int) (r a : Int) (k j : Nat) : Int := if j < k then sh f r a j else min (f j) r
theorem pv_zero (f : Nat → Int) (r a : Int) (j : Nat) : pv f r a 0 j = min (f j) r := if_neg (by omega)
theorem pv_at (f : Nat → Int) (r a : Int) (k : Nat) : pv f r a k k = min (f k) r := if_neg (by omega)
theorem pv_new (f : Nat → Int) (r a : Int) (k : Nat) (h : r < f k) (hd : hn f r k < a) : pv f r a (k + 1) k = min (f k) r + 1 := by
  unfold pv; rw [if_pos (by omega)]; unfold sh; rw [if_pos ⟨h, hd⟩]
theorem pv_old (f : Nat → Int) (r a : Int) (k j : Nat) (h : j ≠ k) : pv f r a (k + 1) j = pv f r a k j := by
  unfold pv
  by_cases e : j < k
  · rw [if_pos e, if_pos (by omega)]
  · rw [if_neg e, if_neg (by omega)]
theorem pv_same (f : Nat → Int) (r a : Int) (k j : Nat) (h : ¬ (r < f k ∧ hn f r k < a)) : pv f r a (k + 1) j = pv f r a k j := by
  by_cases e : j = k
  · subst e; rw [pv_at]; unfold pv; rw [if_pos (by omega)]; unfold sh; rw [if_neg h]; omega
  · exact pv_old f r a k j e
theorem pv_all (f : Nat → Int) (r a : Int) (n j : Nat) (h : j < n) : pv f r a n j = sh f r a j := if_pos h

/-- nothing is left: whole rounds are all -/
theorem whole_is {f S : Nat → Int} {n : Nat} {A r : Int} (hS : Shares f n A S) (hf : ∀ j, j < n → 0 ≤ f j) (hr : 0 ≤ r) (h1 : gv f r n ≤ A) (h2 : A - gv f r n = 0 ∨ hn f r n = 0) (j : Nat) (hj : j < n) : S j = min (f j) r := by
  have g := hn_lo f r n
  have u := (hS.unique (shares_sh hf hr h1 (by omega))) j hj
  rw [u]
  unfold sh
  rw [if_neg ?_]
  · omega
  · rintro ⟨q1, q2⟩
    have a := hn_up f r (j + 1) n (by omega)
    rw [hn_succ, show hg (f j) r = 1 from if_pos q1] at a
    have b := hn_lo f r j
    omega
theorem part_is {f S : Nat → Int} {n : Nat} {A r : Int} (hS : Shares f n A S) (hf : ∀ j, j < n → 0 ≤ f j) (hr : 0 ≤ r) (h1 : gv f r n ≤ A) (h2 : A - gv f r n ≤ hn f r n) (j : Nat) (hj : j < n) : S j = sh f r (A - gv f r n) j :=
  (hS.unique (shares_sh hf hr h1 (.inl h2))) j hj

end Go.Proofs.Ytggnhgbimkfdaaa
