/- PROVED: rows of numbers from 0 to Inf, on plain integers: sums, steps, curves, what two rows have together. CONDITIONS: none beyond each theorem's own. -/
namespace Go.Proofs.Ytggnhgbimkfdaaa

/-- a number from 0 to Inf -/
def fit (x : Int) : Int := min (max x 0) 1152921504606846976
def plus (a b : Int) : Int := fit (fit a + fit b)
def less (a b : Int) : Int :=
  if fit b = 1152921504606846976 ∨ fit a < fit b then 0 else if fit a = 1152921504606846976 then 1152921504606846976 else fit a - fit b
theorem fit_lo (x : Int) : 0 ≤ fit x := by unfold fit; omega
theorem fit_hi (x : Int) : fit x ≤ 1152921504606846976 := by unfold fit; omega
theorem fit_of (a : Int) (h0 : 0 ≤ a) (h1 : a ≤ 1152921504606846976) : fit a = a := by unfold fit; omega
theorem fit_fit (a : Int) : fit (fit a) = fit a := fit_of _ (fit_lo a) (fit_hi a)
theorem fit_mono {a b : Int} (h : a ≤ b) : fit a ≤ fit b := by unfold fit; omega
theorem fit_min (a b : Int) : fit (min a b) = min (fit a) (fit b) := by unfold fit; omega
theorem plus_lo (a b : Int) : 0 ≤ plus a b := fit_lo _
theorem plus_hi (a b : Int) : plus a b ≤ 1152921504606846976 := fit_hi _
theorem plus_fit (a b : Int) : plus (fit a) (fit b) = plus a b := by unfold plus; rw [fit_fit, fit_fit]
theorem less_fit (a b : Int) : less (fit a) (fit b) = less a b := by unfold less; rw [fit_fit, fit_fit]
theorem less_lo (a b : Int) : 0 ≤ less a b := by
  unfold less; have := fit_lo a; have := fit_lo b; split
  · omega
  · split <;> omega
theorem less_hi (a b : Int) : less a b ≤ 1152921504606846976 := by
  unfold less; have := fit_hi a; have := fit_lo b; split
  · omega
  · split <;> omega
theorem plus_ge {a : Int} (b : Int) (h0 : 0 ≤ a) (h1 : a ≤ 1152921504606846976) : a ≤ plus a b := by
  unfold plus; have := fit_lo b; rw [fit_of a h0 h1]; unfold fit at *; omega

/-- the first k of what f tells -/
def outs (f : Nat → Int) (k : Nat) : List Int := (List.range k).map f
theorem outs_len (f : Nat → Int) (k : Nat) : (outs f k).length = k := by simp [outs]
theorem outs_succ (f : Nat → Int) (k : Nat) : outs f (k + 1) = outs f k ++ [f k] := by simp [outs, List.range_succ]
theorem outs_getD (f : Nat → Int) (k j : Nat) (h : j < k) : (outs f k).getD j 0 = f j := by
  simp [outs, List.getD_eq_getElem?_getD, h]
theorem outs_ext {f g : Nat → Int} {k : Nat} (h : ∀ j, j < k → f j = g j) : outs f k = outs g k := by
  unfold outs; apply List.map_congr_left; intro a ha; exact h a (List.mem_range.1 ha)
theorem list_ext {xs ys : List Int} (hl : xs.length = ys.length) (h : ∀ j, j < xs.length → xs.getD j 0 = ys.getD j 0) : xs = ys := by
  apply List.ext_getElem hl
  intro j h1 h2
  have := h j h1
  rw [List.getD_eq_getElem?_getD, List.getD_eq_getElem?_getD, List.getElem?_eq_getElem h1, List.getElem?_eq_getElem h2] at this
  exact this
theorem outs_self (xs : List Int) : outs (fun j => xs.getD j 0) xs.length = xs :=
  list_ext (outs_len _ _) fun j hj => by rw [outs_len] at hj; exact outs_getD _ _ _ hj

/-- what has come in all when k numbers have come -/
def psum (f : Nat → Int) : Nat → Int
  | 0 => 0
  | k + 1 => plus (psum f k) (f k)
theorem psum_lo (f : Nat → Int) (k : Nat) : 0 ≤ psum f k := by cases k; exact Int.le_refl _; exact plus_lo _ _
theorem psum_hi (f : Nat → Int) (k : Nat) : psum f k ≤ 1152921504606846976 := by cases k; simp [psum]; exact plus_hi _ _
theorem psum_up (f : Nat → Int) (k : Nat) : psum f k ≤ psum f (k + 1) := plus_ge _ (psum_lo _ _) (psum_hi _ _)
theorem psum_mono (f : Nat → Int) (k d : Nat) : psum f k ≤ psum f (k + d) := by
  induction d with
  | zero => exact Int.le_refl _
  | succ d ih => exact Int.le_trans ih (psum_up f (k + d))
theorem psum_ext {f g : Nat → Int} (k : Nat) (h : ∀ j, j < k → f j = g j) : psum f k = psum g k := by
  induction k with
  | zero => rfl
  | succ k ih => show plus _ _ = plus _ _; rw [ih (fun j hj => h j (by omega)), h k (by omega)]

def of (z : List Int) : List Int := outs (psum fun j => z.getD j 0) (z.length + 1)
theorem of_len (z : List Int) : (of z).length = z.length + 1 := outs_len _ _

/-- what h says of both, as far as both go -/
def both (h : Int → Int → Int) (f g : List Int) : List Int := outs (fun t => h (f.getD t 0) (g.getD t 0)) (min f.length g.length)
theorem both_len (h : Int → Int → Int) (f g : List Int) : (both h f g).length = min f.length g.length := outs_len _ _
theorem both_getD (h : Int → Int → Int) (f g : List Int) (j : Nat) (hj : j < min f.length g.length) : (both h f g).getD j 0 = h (f.getD j 0) (g.getD j 0) := outs_getD _ _ _ hj

def stepsOf (f : List Int) : List Int := both less (f.drop 1) f
theorem drop_getD (f : List Int) (d j : Nat) : (f.drop d).getD j 0 = f.getD (d + j) 0 := by
  rw [List.getD_eq_getElem?_getD, List.getD_eq_getElem?_getD, List.getElem?_drop]
theorem stepsOf_len (f : List Int) : (stepsOf f).length = f.length - 1 := by rw [stepsOf, both_len, List.length_drop]; omega
theorem stepsOf_getD (f : List Int) (j : Nat) (h : j + 1 < f.length) : (stepsOf f).getD j 0 = less (f.getD (j + 1) 0) (f.getD j 0) := by
  rw [stepsOf, both_getD _ _ _ _ (by rw [List.length_drop]; omega), drop_getD, Nat.add_comm]

def lowr (a b : Int) : Int := fit (min a b)

/-- never falls -/
def up (f : List Int) : Prop := ∀ j, j < f.length - 1 → f.getD j 0 ≤ f.getD (j + 1) 0
instance (f : List Int) : Decidable (up f) := inferInstanceAs (Decidable (∀ j, j < f.length - 1 → f.getD j 0 ≤ f.getD (j + 1) 0))
def right (f : List Int) : Prop := 0 < f.length ∧ f.getD 0 0 = 0 ∧ up f ∧ f.getD (f.length - 1) 0 ≤ 1152921504606846976
instance (f : List Int) : Decidable (right f) := inferInstanceAs (Decidable (_ ∧ _ ∧ _ ∧ _))

theorem up_mono {f : List Int} (h : up f) (j d : Nat) (hj : j + d < f.length) : f.getD j 0 ≤ f.getD (j + d) 0 := by
  induction d with
  | zero => exact Int.le_refl _
  | succ d ih => exact Int.le_trans (ih (by omega)) (h (j + d) (by omega))
theorem right_lo {f : List Int} (h : right f) (j : Nat) (hj : j < f.length) : 0 ≤ f.getD j 0 := by
  have := up_mono h.2.2.1 0 j (by omega); rw [h.2.1, Nat.zero_add] at this; exact this
theorem right_hi {f : List Int} (h : right f) (j : Nat) (hj : j < f.length) : f.getD j 0 ≤ 1152921504606846976 := by
  have := up_mono h.2.2.1 j (f.length - 1 - j) (by omega)
  rw [show j + (f.length - 1 - j) = f.length - 1 by omega] at this
  exact Int.le_trans this h.2.2.2

/-- nowhere above -/
def below (f g : List Int) : Prop := ∀ t, t < min f.length g.length → fit (f.getD t 0) ≤ fit (g.getD t 0)
instance (f g : List Int) : Decidable (below f g) := inferInstanceAs (Decidable (∀ t, t < min f.length g.length → fit (f.getD t 0) ≤ fit (g.getD t 0)))

def att (f : List Int) (t : Int) : Int := if f.length = 0 ∨ t < 0 then 0 else fit (f.getD (min t (f.length - 1)).toNat 0)

/-! What the promises say of one another. -/

theorem right_of (z : List Int) : right (of z) := by
  refine ⟨by rw [of_len]; omega, ?_, fun j hj => ?_, ?_⟩
  · rw [of, outs_getD _ _ _ (by omega)]; rfl
  · rw [of_len] at hj
    rw [of, outs_getD _ _ _ (by omega), outs_getD _ _ _ (by omega)]
    exact psum_up _ _
  · rw [of_len, of, outs_getD _ _ _ (by omega)]; exact psum_hi _ _

theorem less_plus {a b : Int} (h0 : 0 ≤ a) (h : plus a b < 1152921504606846976) : less (plus a b) a = fit b := by
  have := fit_lo b
  have := fit_lo a
  have e : plus a b = fit a + fit b := by unfold plus at *; unfold fit at *; omega
  have ea : fit a = a := by unfold plus fit at *; omega
  unfold less
  rw [e]
  rw [e] at h
  rw [fit_of (fit a + fit b) (by omega) (by omega), ea]
  rw [if_neg (by omega), if_neg (by omega)]
  omega

theorem back_steps (z : List Int) (h : (of z).getD z.length 0 < 1152921504606846976) (k : Nat) (hk : k < z.length) : (stepsOf (of z)).getD k 0 = fit (z.getD k 0) := by
  rw [of, outs_getD _ _ _ (by omega)] at h
  rw [stepsOf_getD _ _ (by rw [of_len]; omega), of, outs_getD _ _ _ (by omega), outs_getD _ _ _ (by omega)]
  have m := psum_mono (fun j => z.getD j 0) (k + 1) (z.length - (k + 1))
  rw [show k + 1 + (z.length - (k + 1)) = z.length by omega] at m
  exact less_plus (psum_lo _ _) (Int.lt_of_le_of_lt m h)

theorem plus_less {a b : Int} (h0 : 0 ≤ a) (h1 : a ≤ b) (h2 : b ≤ 1152921504606846976) : plus a (less b a) = b := by
  unfold less plus
  rw [fit_of a h0 (by omega), fit_of b (by omega) h2]
  split
  · unfold fit; omega
  · split
    · unfold fit; omega
    · unfold fit; omega

theorem of_steps (f : List Int) (h : right f) : of (stepsOf f) = f := by
  have h1 := h.1
  refine list_ext (by rw [of_len, stepsOf_len]; omega) fun j hj => ?_
  rw [of_len, stepsOf_len] at hj
  rw [of, outs_getD _ _ _ (by rw [stepsOf_len]; omega)]
  induction j with
  | zero => rw [h.2.1]; rfl
  | succ j ih =>
    show plus (psum _ j) ((stepsOf f).getD j 0) = _
    rw [ih (by omega), stepsOf_getD _ _ (by omega)]
    exact plus_less (right_lo h j (by omega)) (h.2.2.1 j (by omega)) (right_hi h (j + 1) (by omega))

theorem plus4 (a b c d : Int) : plus (plus a b) (plus c d) = plus (plus a c) (plus b d) := by
  have := fit_lo a; have := fit_lo b; have := fit_lo c; have := fit_lo d
  unfold plus
  rw [fit_fit, fit_fit, fit_fit, fit_fit]
  generalize fit a = x at *
  generalize fit b = y at *
  generalize fit c = z at *
  generalize fit d = u at *
  unfold fit
  omega
theorem psum_plus (f g : Nat → Int) (k : Nat) : plus (psum f k) (psum g k) = psum (fun j => plus (f j) (g j)) k := by
  induction k with
  | zero => rfl
  | succ k ih =>
    show plus (plus _ _) (plus _ _) = plus (psum _ k) _
    rw [plus4, ih]
theorem sum_of (a b : List Int) : both plus (of a) (of b) = of (both plus a b) := by
  refine list_ext (by rw [both_len, of_len, of_len, of_len, both_len]; omega) fun j hj => ?_
  rw [both_len, of_len, of_len] at hj
  rw [both_getD _ _ _ _ (by rw [of_len, of_len]; omega), of, of, of, outs_getD _ _ _ (by omega), outs_getD _ _ _ (by omega), outs_getD _ _ _ (by rw [both_len]; omega), psum_plus]
  exact psum_ext _ fun i hi => (both_getD _ _ _ _ (by omega)).symm
theorem right_sum (a b : List Int) : right (both plus (of a) (of b)) := by rw [sum_of]; exact right_of _

theorem right_lower {f g : List Int} (hf : right f) (hg : right g) : right (both lowr f g) := by
  have h1 := hf.1; have h2 := hg.1
  refine ⟨by rw [both_len]; omega, ?_, fun j hj => ?_, ?_⟩
  · rw [both_getD _ _ _ _ (by omega), hf.2.1, hg.2.1]; rfl
  · rw [both_len] at hj
    rw [both_getD _ _ _ _ (by omega), both_getD _ _ _ _ (by omega)]
    have := hf.2.2.1 j (by omega); have := hg.2.2.1 j (by omega)
    exact fit_mono (by omega)
  · rw [both_len, both_getD _ _ _ _ (by omega)]; exact fit_hi _

theorem lower_left (f g : List Int) : below (both lowr f g) f := by
  intro t ht
  rw [both_len] at ht
  rw [both_getD _ _ _ _ (by omega), lowr, fit_fit, fit_min]
  omega
theorem lower_right (f g : List Int) : below (both lowr f g) g := by
  intro t ht
  rw [both_len] at ht
  rw [both_getD _ _ _ _ (by omega), lowr, fit_fit, fit_min]
  omega
theorem lower_best (f g h : List Int) (hl : h.length = (both lowr f g).length) : below h (both lowr f g) ↔ (below h f ∧ below h g) := by
  rw [both_len] at hl
  constructor
  · intro k
    refine ⟨fun t ht => ?_, fun t ht => ?_⟩
    · have := k t (by rw [both_len]; omega)
      rw [both_getD _ _ _ _ (by omega), lowr, fit_fit, fit_min] at this
      omega
    · have := k t (by rw [both_len]; omega)
      rw [both_getD _ _ _ _ (by omega), lowr, fit_fit, fit_min] at this
      omega
  · rintro ⟨k1, k2⟩ t ht
    rw [both_len] at ht
    have := k1 t (by omega); have := k2 t (by omega)
    rw [both_getD _ _ _ _ (by omega), lowr, fit_fit, fit_min]
    omega

end Go.Proofs.Ytggnhgbimkfdaaa
