/- PROVED: least sums, what is over, closed rows, on plain integers, and what the promises say of one another. CONDITIONS: none beyond each theorem's own. -/
import Derived.Test.YtjageagnclmnjabGreatDoorV40BAns
namespace Go.Proofs.YtjageagnclmnjabGreatDoor.B
set_option maxRecDepth 100000

theorem plus_comm (a b : Int) : plus a b = plus b a := by unfold plus; rw [Int.add_comm]
theorem plus_mono {a b c d : Int} (h1 : fit a ≤ fit c) (h2 : fit b ≤ fit d) : plus a b ≤ plus c d := by
  unfold plus; exact fit_mono (by omega)
theorem plus_zero (a : Int) : plus a 0 = fit a := by
  unfold plus
  rw [fit_of 0 (by omega) (by omega), Int.add_zero, fit_fit]
theorem zero_plus (a : Int) : plus 0 a = fit a := by rw [plus_comm, plus_zero]
/-- the least sum of F at s and G at t - s, of the first k of s -/
def lsum (F G : Nat → Int) (t : Nat) : Nat → Int
  | 0 => 1152921504606846976
  | k + 1 => min (lsum F G t k) (plus (F k) (G (t - k)))
theorem lsum_lo (F G : Nat → Int) (t k : Nat) : 0 ≤ lsum F G t k := by
  induction k with
  | zero => simp [lsum]
  | succ k ih => have := plus_lo (F k) (G (t - k)); simp only [lsum]; omega
theorem lsum_hi (F G : Nat → Int) (t k : Nat) : lsum F G t k ≤ 1152921504606846976 := by
  induction k with
  | zero => simp [lsum]
  | succ k ih => simp only [lsum]; omega
theorem lsum_le (F G : Nat → Int) (t k s : Nat) (h : s < k) : lsum F G t k ≤ plus (F s) (G (t - s)) := by
  induction k with
  | zero => omega
  | succ k ih =>
    simp only [lsum]
    by_cases e : s = k
    · subst e; omega
    · have := ih (by omega); omega
theorem le_lsum (F G : Nat → Int) (t k : Nat) (x : Int) (hx : x ≤ 1152921504606846976) (h : ∀ s, s < k → x ≤ plus (F s) (G (t - s))) : x ≤ lsum F G t k := by
  induction k with
  | zero => exact hx
  | succ k ih =>
    have := ih fun s hs => h s (by omega)
    have := h k (by omega)
    simp only [lsum]; omega
theorem lsum_ext {F G F' G' : Nat → Int} {t : Nat} (k : Nat) (hk : k ≤ t + 1) (hF : ∀ j, j ≤ t → F j = F' j) (hG : ∀ j, j ≤ t → G j = G' j) : lsum F G t k = lsum F' G' t k := by
  induction k with
  | zero => rfl
  | succ k ih => simp only [lsum]; rw [ih (by omega), hF k (by omega), hG (t - k) (by omega)]

/-- at tick t -/
def cv (F G : Nat → Int) (t : Nat) : Int := lsum F G t (t + 1)
theorem cv_lo (F G : Nat → Int) (t : Nat) : 0 ≤ cv F G t := lsum_lo _ _ _ _
theorem cv_hi (F G : Nat → Int) (t : Nat) : cv F G t ≤ 1152921504606846976 := lsum_hi _ _ _ _
theorem cv_fit (F G : Nat → Int) (t : Nat) : fit (cv F G t) = cv F G t := fit_of _ (cv_lo _ _ _) (cv_hi _ _ _)
theorem cv_le (F G : Nat → Int) (t s : Nat) (h : s ≤ t) : cv F G t ≤ plus (F s) (G (t - s)) := lsum_le _ _ _ _ _ (by omega)
theorem le_cv (F G : Nat → Int) (t : Nat) (x : Int) (hx : x ≤ 1152921504606846976) (h : ∀ s, s ≤ t → x ≤ plus (F s) (G (t - s))) : x ≤ cv F G t := le_lsum _ _ _ _ _ hx fun s hs => h s (by omega)
theorem cv_ext {F G F' G' : Nat → Int} {t : Nat} (hF : ∀ j, j ≤ t → F j = F' j) (hG : ∀ j, j ≤ t → G j = G' j) : cv F G t = cv F' G' t := lsum_ext _ (Nat.le_refl _) hF hG
/-! Rows. -/
def conv (f g : List Int) : List Int := outs (cv (fun j => f.getD j 0) fun j => g.getD j 0) (min f.length g.length)
theorem conv_len (f g : List Int) : (conv f g).length = min f.length g.length := outs_len _ _
theorem conv_getD (f g : List Int) (t : Nat) (h : t < min f.length g.length) : (conv f g).getD t 0 = cv (fun j => f.getD j 0) (fun j => g.getD j 0) t := outs_getD _ _ _ h
/-- the most by which F has more than G, of the first k -/
def mo (F G : Nat → Int) : Nat → Int
  | 0 => 0
  | k + 1 => max (mo F G k) (less (F k) (G k))
def ov (F G : Nat → Int) (n m t : Nat) : Int := mo (fun u => F (t + u)) G (min (n - t) m)
/-- no number but Inf is above Most -/
def tame (x : Int) : Prop := ¬ (1099511627776 < fit x ∧ fit x < 1152921504606846976)
instance (x : Int) : Decidable (tame x) := inferInstanceAs (Decidable (¬ _))
/-- never more than its parts -/
def parts (f : List Int) : Prop := (f.length = 0 ∨ fit (f.getD 0 0) = 0) ∧ ∀ t, t < f.length → ∀ s, s ≤ t → fit (f.getD t 0) ≤ plus (f.getD s 0) (f.getD (t - s) 0)
theorem parts_conv (f : List Int) : parts f ↔ (att f 0 = 0 ∧ below f (conv f f)) := by
  have ea : att f 0 = 0 ↔ (f.length = 0 ∨ fit (f.getD 0 0) = 0) := by
    unfold att
    by_cases h : f.length = 0
    · rw [if_pos (.inl h)]; exact ⟨fun _ => .inl h, fun _ => rfl⟩
    · rw [if_neg (by omega), show (min (0 : Int) ((f.length : Int) - 1)).toNat = 0 by omega]
      exact ⟨.inr, fun k => k.resolve_left h⟩
  unfold parts
  rw [ea]
  refine and_congr_right fun _ => ⟨fun k t ht => ?_, fun k t ht s hs => ?_⟩
  · rw [conv_len] at ht
    rw [conv_getD _ _ _ (by omega), cv_fit]
    exact le_cv _ _ _ _ (fit_hi _) fun s hs => k t (by omega) s hs
  · have := k t (by rw [conv_len]; omega)
    rw [conv_getD _ _ _ (by omega), cv_fit] at this
    exact Int.le_trans this (cv_le _ _ t s hs)

instance (f : List Int) : Decidable (parts f) := decidable_of_iff _ (parts_conv f).symm

/-- the first k numbers of what is closed -/
def clo (F : Nat → Int) : Nat → List Int
  | 0 => []
  | k + 1 => clo F k ++ [if k = 0 then 0 else cv (fun j => if j < k then (clo F k).getD j 0 else F k) (fun j => if j < k then (clo F k).getD j 0 else F k) k]
theorem clo_len (F : Nat → Int) (k : Nat) : (clo F k).length = k := by
  induction k with
  | zero => rfl
  | succ k ih => simp [clo, ih]
def clf (F : Nat → Int) (t : Nat) : Int := (clo F (t + 1)).getD t 0
theorem snoc_old (R : List Int) (v : Int) (j : Nat) (h : j < R.length) : (R ++ [v]).getD j 0 = R.getD j 0 := by
  rw [List.getD_eq_getElem?_getD, List.getD_eq_getElem?_getD, List.getElem?_append_left h]
theorem snoc_new (R : List Int) (v : Int) (j : Nat) (h : j = R.length) : (R ++ [v]).getD j 0 = v := by
  subst h; simp [List.getD_eq_getElem?_getD]
theorem clo_getD (F : Nat → Int) (k j : Nat) (h : j < k) : (clo F k).getD j 0 = clf F j := by
  induction k with
  | zero => omega
  | succ k ih =>
    by_cases e : j = k
    · subst e; rfl
    · simp only [clo]
      rw [snoc_old _ _ _ (by rw [clo_len]; omega)]
      exact ih (by omega)
theorem clf_zero (F : Nat → Int) : clf F 0 = 0 := rfl
theorem clf_eq (F : Nat → Int) (t : Nat) (h : 0 < t) : clf F t = cv (fun j => if j < t then clf F j else F t) (fun j => if j < t then clf F j else F t) t := by
  unfold clf
  simp only [clo]
  rw [snoc_new _ _ _ (by rw [clo_len]), if_neg (by omega)]
  have e : ∀ j, j ≤ t → (if j < t then (clo F t).getD j 0 else F t) = if j < t then clf F j else F t := fun j hj => by
    by_cases k : j < t
    · rw [if_pos k, if_pos k]; exact clo_getD F t j k
    · rw [if_neg k, if_neg k]
  exact cv_ext e e
theorem clf_lo (F : Nat → Int) (t : Nat) : 0 ≤ clf F t := by
  by_cases h : 0 < t
  · rw [clf_eq F t h]; exact cv_lo _ _ _
  · obtain rfl : t = 0 := by omega
    exact Int.le_refl _
theorem clf_hi (F : Nat → Int) (t : Nat) : clf F t ≤ 1152921504606846976 := by
  by_cases h : 0 < t
  · rw [clf_eq F t h]; exact cv_hi _ _ _
  · obtain rfl : t = 0 := by omega
    rw [clf_zero]; omega
theorem clf_fit (F : Nat → Int) (t : Nat) : fit (clf F t) = clf F t := fit_of _ (clf_lo _ _) (clf_hi _ _)
theorem clf_best (F G : Nat → Int) (n : Nat) (h0 : fit (G 0) = 0) (hp : ∀ t, t < n → ∀ s, s ≤ t → fit (G t) ≤ plus (G s) (G (t - s))) (hb : ∀ t, 0 < t → t < n → fit (G t) ≤ fit (F t)) (t : Nat) (ht : t < n) : fit (G t) ≤ clf F t := by
  induction t using Nat.strongRecOn with
  | ind t ih =>
    by_cases h : 0 < t
    · rw [clf_eq F t h]
      refine le_cv _ _ _ _ (fit_hi _) fun s hs => ?_
      by_cases c0 : s = 0
      · subst c0
        simp only [if_pos h, Nat.sub_zero, Nat.lt_irrefl, if_false, clf_zero, zero_plus]
        exact hb t h ht
      · by_cases c1 : s = t
        · subst c1
          simp only [Nat.sub_self, Nat.lt_irrefl, if_false, if_pos h, clf_zero, plus_zero]
          exact hb s h ht
        · simp only [if_pos (show s < t by omega), if_pos (show t - s < t by omega)]
          refine Int.le_trans (hp t ht s hs) (plus_mono ?_ ?_)
          · rw [clf_fit]; exact ih s (by omega) (by omega)
          · rw [clf_fit]; exact ih (t - s) (by omega) (by omega)
    · obtain rfl : t = 0 := by omega
      rw [h0, clf_zero]; exact Int.le_refl _
def close (f : List Int) : List Int := outs (clf fun j => f.getD j 0) f.length
theorem close_len (f : List Int) : (close f).length = f.length := outs_len _ _
theorem close_getD (f : List Int) (t : Nat) (h : t < f.length) : (close f).getD t 0 = clf (fun j => f.getD j 0) t := outs_getD _ _ _ h
theorem close_best (f g : List Int) (hl : g.length = f.length) (hp : parts g) (hb : below (g.drop 1) (f.drop 1)) : below g (close f) := by
  intro t ht
  rw [close_len] at ht
  rw [close_getD _ _ (by omega), clf_fit]
  refine clf_best (fun j => f.getD j 0) (fun j => g.getD j 0) g.length ?_ hp.2 (fun v h0 hv => ?_) t (by omega)
  · exact hp.1.resolve_left (by omega)
  · have := hb (v - 1) (by rw [List.length_drop, List.length_drop]; omega)
    rw [drop_getD, drop_getD, show 1 + (v - 1) = v by omega] at this
    exact this
/-- numbers from 0 to Inf -/
def fits2 (f : List Int) : Prop := ∀ t, t < f.length → fit (f.getD t 0) = f.getD t 0
theorem close_fits (f : List Int) : fits2 (close f) := fun t ht => by
  rw [close_len] at ht
  rw [close_getD _ _ ht]; exact clf_fit _ _
/-! Least sums rise. -/
/-! The document's own way: by all pairs. -/
/-! With itself, again and again. -/
structure Mid (f g : List Int) : Prop where
  len : g.length = f.length
  zero : g.getD 0 0 = 0
  fits : fits2 g
  lo : ∀ t, t < f.length → clf (fun j => f.getD j 0) t ≤ g.getD t 0
  hi : ∀ t, 0 < t → t < f.length → g.getD t 0 ≤ fit (f.getD t 0)
theorem Mid.done {f g : List Int} (h : Mid f g) (h0 : 0 < f.length) (e : YtjageagnclmnjabGreatDoor.B.conv g g = g) : g = close f := by
  have hl := h.len
  refine list_ext (by rw [hl, close_len]) fun t ht => ?_
  apply Int.le_antisymm
  · have hp : parts g := ⟨.inr (by rw [h.zero]; rfl), fun v hv s hs => by
      rw [h.fits v hv]
      have := cv_le (fun j => g.getD j 0) (fun j => g.getD j 0) v s hs
      rw [← conv_getD _ _ _ (by omega), e] at this
      exact this⟩
    have := close_best f g hl hp (fun v hv => by
      rw [List.length_drop, List.length_drop] at hv
      rw [drop_getD, drop_getD, h.fits _ (by omega)]
      exact h.hi _ (by omega) (by omega)) t (by rw [close_len]; omega)
    rw [h.fits t ht, close_fits f t (by rw [close_len]; omega)] at this
    exact this
  · rw [close_getD _ _ (by omega)]; exact h.lo t (by omega)
end Go.Proofs.YtjageagnclmnjabGreatDoor.B
