/- PROVED: least sums, what is over, closed rows, on plain integers, and what the promises say of one another. CONDITIONS: none beyond each theorem's own. -/
import Derived.Test.YtmijlmidlddcpaaPure
namespace Go.Proofs.Ytmijlmidlddcpaa

theorem plus_comm (a b : Int) : plus a b = plus b a := by unfold plus; rw [Int.add_comm]
theorem plus_mono {a b c d : Int} (h1 : fit a ≤ fit c) (h2 : fit b ≤ fit d) : plus a b ≤ plus c d := by
  unfold plus; exact fit_mono (by omega)
theorem plus_inf (a : Int) : plus a 1152921504606846976 = 1152921504606846976 := by
  have := fit_lo a
  unfold plus
  rw [fit_of 1152921504606846976 (by omega) (by omega)]
  generalize fit a = x at *
  unfold fit; omega
theorem plus_zero (a : Int) : plus a 0 = fit a := by
  unfold plus
  rw [fit_of 0 (by omega) (by omega), Int.add_zero, fit_fit]
theorem zero_plus (a : Int) : plus 0 a = fit a := by rw [plus_comm, plus_zero]
theorem plus_assoc (a b c : Int) : plus (plus a b) c = plus a (plus b c) := by
  have := fit_lo a; have := fit_lo b; have := fit_lo c
  unfold plus
  rw [fit_fit, fit_fit]
  generalize fit a = x at *
  generalize fit b = y at *
  generalize fit c = z at *
  unfold fit
  omega
theorem fit_plus (a b : Int) : fit (plus a b) = plus a b := fit_fit _
theorem fit_zero : fit 0 = 0 := rfl
theorem fit_inf : fit 1152921504606846976 = 1152921504606846976 := rfl

/-- the least sum of F at s and G at t - s, of the first k of s -/
def lsum (F G : Nat → Int) (t : Nat) : Nat → Int
  | 0 => 1152921504606846976
  | k + 1 => min (lsum F G t k) (plus (F k) (G (t - k)))
theorem lsum_lo (F G : Nat → Int) (t k : Nat) : 0 ≤ lsum F G t k := by
  induction k with
  | zero => simp [lsum]
  | succ k ih => have := plus_lo (F k) (G (t - k)); simp only [lsum]; omega
theorem lsum_hi (F G : Nat → Int) (t k : Nat) : lsum F G t k ≤ 1152921504606846976 := by
  induction k with
  | zero => simp [lsum]
  | succ k ih => simp only [lsum]; omega
theorem lsum_le (F G : Nat → Int) (t k s : Nat) (h : s < k) : lsum F G t k ≤ plus (F s) (G (t - s)) := by
  induction k with
  | zero => omega
  | succ k ih =>
    simp only [lsum]
    by_cases e : s = k
    · subst e; omega
    · have := ih (by omega); omega
theorem le_lsum (F G : Nat → Int) (t k : Nat) (x : Int) (hx : x ≤ 1152921504606846976) (h : ∀ s, s < k → x ≤ plus (F s) (G (t - s))) : x ≤ lsum F G t k := by
  induction k with
  | zero => exact hx
  | succ k ih =>
    have := ih fun s hs => h s (by omega)
    have := h k (by omega)
    simp only [lsum]; omega
theorem lsum_at (F G : Nat → Int) (t k : Nat) : lsum F G t k = 1152921504606846976 ∨ ∃ s, s < k ∧ lsum F G t k = plus (F s) (G (t - s)) := by
  induction k with
  | zero => exact .inl rfl
  | succ k ih =>
    simp only [lsum]
    rcases Int.le_total (lsum F G t k) (plus (F k) (G (t - k))) with h | h
    · rw [Int.min_eq_left h]
      rcases ih with e | ⟨s, hs, e⟩
      · exact .inl e
      · exact .inr ⟨s, by omega, e⟩
    · exact .inr ⟨k, by omega, Int.min_eq_right h⟩
theorem lsum_ext {F G F' G' : Nat → Int} {t : Nat} (k : Nat) (hk : k ≤ t + 1) (hF : ∀ j, j ≤ t → F j = F' j) (hG : ∀ j, j ≤ t → G j = G' j) : lsum F G t k = lsum F' G' t k := by
  induction k with
  | zero => rfl
  | succ k ih => simp only [lsum]; rw [ih (by omega), hF k (by omega), hG (t - k) (by omega)]

/-- at tick t -/
def cv (F G : Nat → Int) (t : Nat) : Int := lsum F G t (t + 1)
theorem cv_lo (F G : Nat → Int) (t : Nat) : 0 ≤ cv F G t := lsum_lo _ _ _ _
theorem cv_hi (F G : Nat → Int) (t : Nat) : cv F G t ≤ 1152921504606846976 := lsum_hi _ _ _ _
theorem cv_fit (F G : Nat → Int) (t : Nat) : fit (cv F G t) = cv F G t := fit_of _ (cv_lo _ _ _) (cv_hi _ _ _)
theorem cv_le (F G : Nat → Int) (t s : Nat) (h : s ≤ t) : cv F G t ≤ plus (F s) (G (t - s)) := lsum_le _ _ _ _ _ (by omega)
theorem le_cv (F G : Nat → Int) (t : Nat) (x : Int) (hx : x ≤ 1152921504606846976) (h : ∀ s, s ≤ t → x ≤ plus (F s) (G (t - s))) : x ≤ cv F G t := le_lsum _ _ _ _ _ hx fun s hs => h s (by omega)
theorem cv_at (F G : Nat → Int) (t : Nat) : cv F G t = 1152921504606846976 ∨ ∃ s, s ≤ t ∧ cv F G t = plus (F s) (G (t - s)) := by
  rcases lsum_at F G t (t + 1) with e | ⟨s, hs, e⟩
  · exact .inl e
  · exact .inr ⟨s, by omega, e⟩
theorem cv_ext {F G F' G' : Nat → Int} {t : Nat} (hF : ∀ j, j ≤ t → F j = F' j) (hG : ∀ j, j ≤ t → G j = G' j) : cv F G t = cv F' G' t := lsum_ext _ (Nat.le_refl _) hF hG
theorem cv_mono {F G F' G' : Nat → Int} {t : Nat} (hF : ∀ j, j ≤ t → fit (F j) ≤ fit (F' j)) (hG : ∀ j, j ≤ t → fit (G j) ≤ fit (G' j)) : cv F G t ≤ cv F' G' t :=
  le_cv _ _ _ _ (cv_hi _ _ _) fun s hs => Int.le_trans (cv_le F G t s hs) (plus_mono (hF s hs) (hG (t - s) (by omega)))

theorem cv_comm_le (F G : Nat → Int) (t : Nat) : cv F G t ≤ cv G F t := le_cv _ _ _ _ (cv_hi _ _ _) fun s hs => by
  have := cv_le F G t (t - s) (by omega)
  rw [show t - (t - s) = s by omega, plus_comm] at this
  exact this
theorem cv_comm (F G : Nat → Int) (t : Nat) : cv F G t = cv G F t := Int.le_antisymm (cv_comm_le F G t) (cv_comm_le G F t)
theorem cv_assoc_le (F G H : Nat → Int) (t : Nat) : cv F (cv G H) t ≤ cv (cv F G) H t := le_cv _ _ _ _ (cv_hi _ _ _) fun s hs => by
  rcases cv_at F G s with e | ⟨r, hr, e⟩
  · rw [e, plus_comm, plus_inf]; exact cv_hi _ _ _
  · rw [e, plus_assoc]
    refine Int.le_trans (cv_le F (cv G H) t r (by omega)) (plus_mono (Int.le_refl _) ?_)
    rw [cv_fit, fit_plus]
    have := cv_le G H (t - r) (s - r) (by omega)
    rw [show t - r - (s - r) = t - s by omega] at this
    exact this
theorem cv_assoc (F G H : Nat → Int) (t : Nat) : cv F (cv G H) t = cv (cv F G) H t := by
  refine Int.le_antisymm (cv_assoc_le F G H t) ?_
  have h1 : cv (cv F G) H t = cv H (cv G F) t := by rw [cv_comm]; exact cv_ext (fun _ _ => rfl) fun j _ => cv_comm F G j
  have h2 : cv F (cv G H) t = cv (cv H G) F t := by rw [cv_comm]; exact cv_ext (fun j _ => cv_comm G H j) fun _ _ => rfl
  rw [h1, h2]
  exact cv_assoc_le H G F t
theorem plus_lowr (a b c : Int) : plus a (lowr b c) = min (plus a b) (plus a c) := by
  unfold lowr plus
  rw [fit_fit, fit_min]
  generalize fit b = y
  generalize fit c = z
  generalize fit a = x
  unfold fit; omega
theorem cv_lower (F G H : Nat → Int) (t : Nat) : cv F (fun j => lowr (G j) (H j)) t = lowr (cv F G t) (cv F H t) := by
  unfold lowr
  rw [fit_min, cv_fit, cv_fit]
  apply Int.le_antisymm
  · have h1 : cv F (fun j => fit (min (G j) (H j))) t ≤ cv F G t := cv_mono (fun _ _ => Int.le_refl _) fun j _ => by rw [fit_fit]; exact fit_mono (by omega)
    have h2 : cv F (fun j => fit (min (G j) (H j))) t ≤ cv F H t := cv_mono (fun _ _ => Int.le_refl _) fun j _ => by rw [fit_fit]; exact fit_mono (by omega)
    omega
  · refine le_cv _ _ _ _ (by have := cv_hi F G t; omega) fun s hs => ?_
    have h1 := cv_le F G t s hs
    have h2 := cv_le F H t s hs
    have h3 := plus_lowr (F s) (G (t - s)) (H (t - s))
    unfold lowr at h3
    rw [h3]
    omega

/-- nothing, then all -/
def un (j : Nat) : Int := if j = 0 then 0 else 1152921504606846976
theorem cv_un (F : Nat → Int) (t : Nat) : cv F un t = fit (F t) := by
  apply Int.le_antisymm
  · have := cv_le F un t t (Nat.le_refl _)
    rw [Nat.sub_self, show un 0 = 0 from rfl, plus_zero] at this
    exact this
  · refine le_cv _ _ _ _ (fit_hi _) fun s hs => ?_
    by_cases e : s = t
    · subst e; rw [Nat.sub_self, show un 0 = 0 from rfl, plus_zero]; omega
    · rw [show un (t - s) = 1152921504606846976 by unfold un; rw [if_neg (by omega)], plus_inf]; exact fit_hi _

/-! Rows. -/
def conv (f g : List Int) : List Int := outs (cv (fun j => f.getD j 0) fun j => g.getD j 0) (min f.length g.length)
theorem conv_len (f g : List Int) : (conv f g).length = min f.length g.length := outs_len _ _
theorem conv_getD (f g : List Int) (t : Nat) (h : t < min f.length g.length) : (conv f g).getD t 0 = cv (fun j => f.getD j 0) (fun j => g.getD j 0) t := outs_getD _ _ _ h
def unit (n : Nat) : List Int := outs un n
theorem unit_len (n : Nat) : (unit n).length = n := outs_len _ _
theorem unit_getD (n t : Nat) (h : t < n) : (unit n).getD t 0 = un t := outs_getD _ _ _ h

theorem conv_comm (f g : List Int) : conv f g = conv g f := by
  unfold conv; rw [Nat.min_comm]; exact outs_ext fun j _ => cv_comm _ _ _
theorem conv_assoc (f g h : List Int) (n : Nat) (hf : f.length = n) (hg : g.length = n) (hh : h.length = n) : conv f (conv g h) = conv (conv f g) h := by
  refine list_ext (by rw [conv_len, conv_len, conv_len, conv_len]; omega) fun t ht => ?_
  rw [conv_len, conv_len] at ht
  rw [conv_getD _ _ _ (by rw [conv_len]; omega), conv_getD _ _ _ (by rw [conv_len]; omega)]
  have e1 : ∀ j, j ≤ t → (conv g h).getD j 0 = cv (fun j => g.getD j 0) (fun j => h.getD j 0) j := fun j hj => conv_getD _ _ _ (by omega)
  have e2 : ∀ j, j ≤ t → (conv f g).getD j 0 = cv (fun j => f.getD j 0) (fun j => g.getD j 0) j := fun j hj => conv_getD _ _ _ (by omega)
  rw [cv_ext (fun _ _ => rfl) e1, cv_ext e2 (fun _ _ => rfl)]
  exact cv_assoc _ _ _ t
theorem conv_lower (f g h : List Int) (n : Nat) (hf : f.length = n) (hg : g.length = n) (hh : h.length = n) : conv f (both lowr g h) = both lowr (conv f g) (conv f h) := by
  refine list_ext (by rw [conv_len, both_len, both_len, conv_len, conv_len]; omega) fun t ht => ?_
  rw [conv_len, both_len] at ht
  rw [conv_getD _ _ _ (by rw [both_len]; omega), both_getD _ _ _ _ (by rw [conv_len, conv_len]; omega), conv_getD _ _ _ (by omega), conv_getD _ _ _ (by omega)]
  rw [cv_ext (fun _ _ => rfl) fun j hj => both_getD lowr g h j (by omega)]
  exact cv_lower _ _ _ t
theorem conv_unit (f : List Int) (n : Nat) (hf : f.length = n) : conv f (unit n) = both lowr f f := by
  refine list_ext (by rw [conv_len, both_len, unit_len]; omega) fun t ht => ?_
  rw [conv_len, unit_len] at ht
  rw [conv_getD _ _ _ (by rw [unit_len]; omega), both_getD _ _ _ _ (by omega), cv_ext (fun _ _ => rfl) fun j hj => unit_getD n j (by omega), cv_un]
  unfold lowr; rw [Int.min_self]

/-- the most by which F has more than G, of the first k -/
def mo (F G : Nat → Int) : Nat → Int
  | 0 => 0
  | k + 1 => max (mo F G k) (less (F k) (G k))
theorem mo_lo (F G : Nat → Int) (k : Nat) : 0 ≤ mo F G k := by
  induction k with
  | zero => simp [mo]
  | succ k ih => simp only [mo]; omega
theorem mo_hi (F G : Nat → Int) (k : Nat) : mo F G k ≤ 1152921504606846976 := by
  induction k with
  | zero => simp [mo]
  | succ k ih => have := less_hi (F k) (G k); simp only [mo]; omega
theorem le_mo (F G : Nat → Int) (k u : Nat) (h : u < k) : less (F u) (G u) ≤ mo F G k := by
  induction k with
  | zero => omega
  | succ k ih =>
    simp only [mo]
    by_cases e : u = k
    · subst e; omega
    · have := ih (by omega); omega
theorem mo_le (F G : Nat → Int) (k : Nat) (x : Int) (hx : 0 ≤ x) (h : ∀ u, u < k → less (F u) (G u) ≤ x) : mo F G k ≤ x := by
  induction k with
  | zero => exact hx
  | succ k ih =>
    have := ih fun u hu => h u (by omega)
    have := h k (by omega)
    simp only [mo]; omega
theorem mo_ext {F G F' G' : Nat → Int} (k : Nat) (hF : ∀ j, j < k → F j = F' j) (hG : ∀ j, j < k → G j = G' j) : mo F G k = mo F' G' k := by
  induction k with
  | zero => rfl
  | succ k ih => simp only [mo]; rw [ih (fun j hj => hF j (by omega)) (fun j hj => hG j (by omega)), hF k (by omega), hG k (by omega)]
def ov (F G : Nat → Int) (n m t : Nat) : Int := mo (fun u => F (t + u)) G (min (n - t) m)
def over (f g : List Int) : List Int := outs (ov (fun j => f.getD j 0) (fun j => g.getD j 0) f.length g.length) f.length
theorem over_len (f g : List Int) : (over f g).length = f.length := outs_len _ _
theorem over_getD (f g : List Int) (t : Nat) (h : t < f.length) : (over f g).getD t 0 = ov (fun j => f.getD j 0) (fun j => g.getD j 0) f.length g.length t := outs_getD _ _ _ h

/-- no number but Inf is above Most -/
def tame (x : Int) : Prop := ¬ (1099511627776 < fit x ∧ fit x < 1152921504606846976)
instance (x : Int) : Decidable (tame x) := inferInstanceAs (Decidable (¬ _))
theorem lacks {a b c : Int} (_ : tame a) (hb : tame b) (hc : tame c) : less a b ≤ fit c ↔ fit a ≤ plus b c := by
  unfold tame at *
  have := fit_lo a; have := fit_lo b; have := fit_lo c
  have := fit_hi a; have := fit_hi b; have := fit_hi c
  unfold less plus
  generalize fit a = x at *
  generalize fit b = y at *
  generalize fit c = z at *
  unfold fit
  split
  · omega
  · split <;> omega
theorem over_lacks (f g h : List Int) (n : Nat) (hf : f.length = n) (hg : g.length = n) (hh : h.length = n) (tf : ∀ j, j < n → tame (f.getD j 0)) (tg : ∀ j, j < n → tame (g.getD j 0)) (th : ∀ j, j < n → tame (h.getD j 0)) :
    below (over f g) h ↔ below f (conv g h) := by
  constructor
  · intro k v hv
    rw [conv_len] at hv
    rw [conv_getD _ _ _ (by omega), cv_fit]
    refine le_cv _ _ _ _ (fit_hi _) fun s hs => (lacks (tf v (by omega)) (tg s (by omega)) (th (v - s) (by omega))).1 ?_
    have h1 := k (v - s) (by rw [over_len]; omega)
    rw [over_getD _ _ _ (by omega)] at h1
    unfold ov at h1
    rw [fit_of _ (mo_lo _ _ _) (mo_hi _ _ _)] at h1
    have h2 := le_mo (fun u => f.getD (v - s + u) 0) (fun j => g.getD j 0) (min (f.length - (v - s)) g.length) s (by omega)
    simp only [show v - s + s = v by omega] at h2
    exact Int.le_trans h2 h1
  · intro k t ht
    rw [over_len] at ht
    rw [over_getD _ _ _ (by omega)]
    unfold ov
    rw [fit_of _ (mo_lo _ _ _) (mo_hi _ _ _)]
    refine mo_le _ _ _ _ (fit_lo _) fun u hu => (lacks (tf (t + u) (by omega)) (tg u (by omega)) (th t (by omega))).2 ?_
    have h1 := k (t + u) (by rw [conv_len]; omega)
    rw [conv_getD _ _ _ (by omega), cv_fit] at h1
    have h2 := cv_le (fun j => g.getD j 0) (fun j => h.getD j 0) (t + u) u (by omega)
    simp only [show t + u - u = t by omega] at h2
    exact Int.le_trans h1 h2

/-- never more than its parts -/
def parts (f : List Int) : Prop := (f.length = 0 ∨ fit (f.getD 0 0) = 0) ∧ ∀ t, t < f.length → ∀ s, s ≤ t → fit (f.getD t 0) ≤ plus (f.getD s 0) (f.getD (t - s) 0)
theorem parts_conv (f : List Int) : parts f ↔ (att f 0 = 0 ∧ below f (conv f f)) := by
  have ea : att f 0 = 0 ↔ (f.length = 0 ∨ fit (f.getD 0 0) = 0) := by
    unfold att
    by_cases h : f.length = 0
    · rw [if_pos (.inl h)]; exact ⟨fun _ => .inl h, fun _ => rfl⟩
    · rw [if_neg (by omega), show (min (0 : Int) ((f.length : Int) - 1)).toNat = 0 by omega]
      exact ⟨.inr, fun k => k.resolve_left h⟩
  unfold parts
  rw [ea]
  refine and_congr_right fun _ => ⟨fun k t ht => ?_, fun k t ht s hs => ?_⟩
  · rw [conv_len] at ht
    rw [conv_getD _ _ _ (by omega), cv_fit]
    exact le_cv _ _ _ _ (fit_hi _) fun s hs => k t (by omega) s hs
  · have := k t (by rw [conv_len]; omega)
    rw [conv_getD _ _ _ (by omega), cv_fit] at this
    exact Int.le_trans this (cv_le _ _ t s hs)

instance (f : List Int) : Decidable (parts f) := decidable_of_iff _ (parts_conv f).symm

/-- the first k numbers of what is closed -/
def clo (F : Nat → Int) : Nat → List Int
  | 0 => []
  | k + 1 => clo F k ++ [if k = 0 then 0 else cv (fun j => if j < k then (clo F k).getD j 0 else F k) (fun j => if j < k then (clo F k).getD j 0 else F k) k]
theorem clo_len (F : Nat → Int) (k : Nat) : (clo F k).length = k := by
  induction k with
  | zero => rfl
  | succ k ih => simp [clo, ih]
def clf (F : Nat → Int) (t : Nat) : Int := (clo F (t + 1)).getD t 0
theorem snoc_old (R : List Int) (v : Int) (j : Nat) (h : j < R.length) : (R ++ [v]).getD j 0 = R.getD j 0 := by
  rw [List.getD_eq_getElem?_getD, List.getD_eq_getElem?_getD, List.getElem?_append_left h]
theorem snoc_new (R : List Int) (v : Int) (j : Nat) (h : j = R.length) : (R ++ [v]).getD j 0 = v := by
  subst h; simp [List.getD_eq_getElem?_getD]
theorem clo_getD (F : Nat → Int) (k j : Nat) (h : j < k) : (clo F k).getD j 0 = clf F j := by
  induction k with
  | zero => omega
  | succ k ih =>
    by_cases e : j = k
    · subst e; rfl
    · simp only [clo]
      rw [snoc_old _ _ _ (by rw [clo_len]; omega)]
      exact ih (by omega)
theorem clf_zero (F : Nat → Int) : clf F 0 = 0 := rfl
theorem clf_eq (F : Nat → Int) (t : Nat) (h : 0 < t) : clf F t = cv (fun j => if j < t then clf F j else F t) (fun j => if j < t then clf F j else F t) t := by
  unfold clf
  simp only [clo]
  rw [snoc_new _ _ _ (by rw [clo_len]), if_neg (by omega)]
  have e : ∀ j, j ≤ t → (if j < t then (clo F t).getD j 0 else F t) = if j < t then clf F j else F t := fun j hj => by
    by_cases k : j < t
    · rw [if_pos k, if_pos k]; exact clo_getD F t j k
    · rw [if_neg k, if_neg k]
  exact cv_ext e e
theorem clo_outs (F : Nat → Int) (n : Nat) : clo F n = outs (clf F) n :=
  list_ext (by rw [clo_len, outs_len]) fun j hj => by rw [clo_len] at hj; rw [clo_getD _ _ _ hj, outs_getD _ _ _ hj]
theorem clf_lo (F : Nat → Int) (t : Nat) : 0 ≤ clf F t := by
  by_cases h : 0 < t
  · rw [clf_eq F t h]; exact cv_lo _ _ _
  · obtain rfl : t = 0 := by omega
    exact Int.le_refl _
theorem clf_hi (F : Nat → Int) (t : Nat) : clf F t ≤ 1152921504606846976 := by
  by_cases h : 0 < t
  · rw [clf_eq F t h]; exact cv_hi _ _ _
  · obtain rfl : t = 0 := by omega
    rw [clf_zero]; omega
theorem clf_fit (F : Nat → Int) (t : Nat) : fit (clf F t) = clf F t := fit_of _ (clf_lo _ _) (clf_hi _ _)
theorem clf_below (F : Nat → Int) (t : Nat) (h : 0 < t) : clf F t ≤ fit (F t) := by
  have k := cv_le (fun j => if j < t then clf F j else F t) (fun j => if j < t then clf F j else F t) t 0 (by omega)
  rw [← clf_eq F t h] at k
  simp only [Nat.sub_zero, if_pos h, Nat.lt_irrefl, if_false, clf_zero, zero_plus] at k
  exact k
theorem clf_parts (F : Nat → Int) (t s : Nat) (hs : s ≤ t) : clf F t ≤ plus (clf F s) (clf F (t - s)) := by
  by_cases h0 : s = 0
  · subst h0; rw [clf_zero, Nat.sub_zero, zero_plus, clf_fit]; omega
  · by_cases h1 : s = t
    · subst h1; rw [Nat.sub_self, clf_zero, plus_zero, clf_fit]; omega
    · have k := cv_le (fun j => if j < t then clf F j else F t) (fun j => if j < t then clf F j else F t) t s hs
      rw [← clf_eq F t (by omega)] at k
      simp only [if_pos (show s < t by omega), if_pos (show t - s < t by omega)] at k
      exact k
theorem clf_best (F G : Nat → Int) (n : Nat) (h0 : fit (G 0) = 0) (hp : ∀ t, t < n → ∀ s, s ≤ t → fit (G t) ≤ plus (G s) (G (t - s))) (hb : ∀ t, 0 < t → t < n → fit (G t) ≤ fit (F t)) (t : Nat) (ht : t < n) : fit (G t) ≤ clf F t := by
  induction t using Nat.strongRecOn with
  | ind t ih =>
    by_cases h : 0 < t
    · rw [clf_eq F t h]
      refine le_cv _ _ _ _ (fit_hi _) fun s hs => ?_
      by_cases c0 : s = 0
      · subst c0
        simp only [if_pos h, Nat.sub_zero, Nat.lt_irrefl, if_false, clf_zero, zero_plus]
        exact hb t h ht
      · by_cases c1 : s = t
        · subst c1
          simp only [Nat.sub_self, Nat.lt_irrefl, if_false, if_pos h, clf_zero, plus_zero]
          exact hb s h ht
        · simp only [if_pos (show s < t by omega), if_pos (show t - s < t by omega)]
          refine Int.le_trans (hp t ht s hs) (plus_mono ?_ ?_)
          · rw [clf_fit]; exact ih s (by omega) (by omega)
          · rw [clf_fit]; exact ih (t - s) (by omega) (by omega)
    · obtain rfl : t = 0 := by omega
      rw [h0, clf_zero]; exact Int.le_refl _
def close (f : List Int) : List Int := outs (clf fun j => f.getD j 0) f.length
theorem close_len (f : List Int) : (close f).length = f.length := outs_len _ _
theorem close_getD (f : List Int) (t : Nat) (h : t < f.length) : (close f).getD t 0 = clf (fun j => f.getD j 0) t := outs_getD _ _ _ h
theorem close_parts (f : List Int) : parts (close f) := by
  refine ⟨?_, fun t ht s hs => ?_⟩
  · rw [close_len]
    by_cases h : f.length = 0
    · exact .inl h
    · right; rw [close_getD _ _ (by omega), clf_zero]; rfl
  · rw [close_len] at ht
    rw [close_getD _ _ ht, close_getD _ _ (by omega), close_getD _ _ (by omega), clf_fit]
    exact clf_parts _ _ _ hs
theorem close_below (f : List Int) : below ((close f).drop 1) (f.drop 1) := by
  intro t ht
  rw [List.length_drop, List.length_drop, close_len] at ht
  rw [drop_getD, drop_getD, close_getD _ _ (by omega), clf_fit]
  exact clf_below _ _ (by omega)
theorem close_best (f g : List Int) (hl : g.length = f.length) (hp : parts g) (hb : below (g.drop 1) (f.drop 1)) : below g (close f) := by
  intro t ht
  rw [close_len] at ht
  rw [close_getD _ _ (by omega), clf_fit]
  refine clf_best (fun j => f.getD j 0) (fun j => g.getD j 0) g.length ?_ hp.2 (fun v h0 hv => ?_) t (by omega)
  · exact hp.1.resolve_left (by omega)
  · have := hb (v - 1) (by rw [List.length_drop, List.length_drop]; omega)
    rw [drop_getD, drop_getD, show 1 + (v - 1) = v by omega] at this
    exact this
/-- numbers from 0 to Inf -/
def fits2 (f : List Int) : Prop := ∀ t, t < f.length → fit (f.getD t 0) = f.getD t 0
theorem close_fits (f : List Int) : fits2 (close f) := fun t ht => by
  rw [close_len] at ht
  rw [close_getD _ _ ht]; exact clf_fit _ _
theorem close_self (c : List Int) (hp : parts c) (hf : fits2 c) : close c = c := by
  refine list_ext (close_len c) fun t ht => ?_
  rw [close_len] at ht
  apply Int.le_antisymm
  · by_cases h : 0 < t
    · rw [close_getD _ _ ht]
      have := clf_below (fun j => c.getD j 0) t h
      simp only [hf t ht] at this
      exact this
    · obtain rfl : t = 0 := by omega
      rw [close_getD _ _ ht, clf_zero, ← hf 0 ht]; exact fit_lo _
  · have := close_best c c rfl hp (fun _ _ => Int.le_refl _) t (by rw [close_len]; omega)
    rw [hf t ht, close_fits c t (by rw [close_len]; exact ht)] at this
    exact this
theorem close_close (f : List Int) : close (close f) = close f := close_self _ (close_parts f) (close_fits f)
theorem conv_closed (c : List Int) (hp : parts c) (hf : fits2 c) : conv c c = c := by
  refine list_ext (by rw [conv_len]; omega) fun t ht => ?_
  rw [conv_len] at ht
  have ht' : t < c.length := by omega
  rw [conv_getD _ _ _ (by omega)]
  apply Int.le_antisymm
  · have := cv_le (fun j => c.getD j 0) (fun j => c.getD j 0) t t (Nat.le_refl _)
    have h0 : c.getD 0 0 = 0 := by rw [← hf 0 (by omega)]; exact hp.1.resolve_left (by omega)
    simp only [Nat.sub_self, h0, plus_zero, hf t ht'] at this
    exact this
  · have := fit_hi (c.getD t 0)
    rw [hf t ht'] at this
    refine le_cv _ _ _ _ this fun s hs => ?_
    have := hp.2 t ht' s hs
    rw [hf t ht'] at this
    exact this
theorem conv_close (f : List Int) : conv (close f) (close f) = close f := conv_closed _ (close_parts f) (close_fits f)

/-! Least sums rise. -/
theorem conv_rises (low g h : List Int) (hl : low.length = g.length) (hb : below low g) : below (conv low h) (conv g h) := by
  intro t ht
  rw [conv_len, conv_len] at ht
  rw [conv_getD _ _ _ (by omega), conv_getD _ _ _ (by omega), cv_fit, cv_fit]
  exact cv_mono (fun j hj => hb j (by omega)) fun _ _ => Int.le_refl _
theorem right_conv {f g : List Int} (hf : right f) (hg : right g) : right (conv f g) := by
  have h1 := hf.1; have h2 := hg.1
  refine ⟨by rw [conv_len]; omega, ?_, fun t ht => ?_, ?_⟩
  · rw [conv_getD _ _ _ (by omega)]
    have k := cv_le (fun j => f.getD j 0) (fun j => g.getD j 0) 0 0 (Nat.le_refl _)
    have := cv_lo (fun j => f.getD j 0) (fun j => g.getD j 0) 0
    simp only [Nat.sub_zero, hf.2.1, hg.2.1, zero_plus, fit_zero] at k
    omega
  · rw [conv_len] at ht
    rw [conv_getD _ _ _ (by omega), conv_getD _ _ _ (by omega)]
    refine le_cv _ _ _ _ (cv_hi _ _ _) fun s hs => ?_
    by_cases e : s = t + 1
    · subst e
      refine Int.le_trans (cv_le _ _ t t (Nat.le_refl _)) (plus_mono ?_ ?_)
      · exact fit_mono (hf.2.2.1 t (by omega))
      · simp only [Nat.sub_self]; exact Int.le_refl _
    · refine Int.le_trans (cv_le _ _ t s (by omega)) (plus_mono (Int.le_refl _) ?_)
      have := hg.2.2.1 (t - s) (by omega)
      rw [show t - s + 1 = t + 1 - s by omega] at this
      exact fit_mono this
  · rw [conv_len, conv_getD _ _ _ (by omega)]; exact cv_hi _ _ _
theorem conv_lowest {f g : List Int} (hf : right f) (hg : right g) : below (conv f g) (both lowr f g) := by
  intro t ht
  rw [conv_len, both_len] at ht
  rw [conv_getD _ _ _ (by omega), both_getD _ _ _ _ (by omega), cv_fit, lowr, fit_fit, fit_min]
  have k1 := cv_le (fun j => f.getD j 0) (fun j => g.getD j 0) t t (Nat.le_refl _)
  have k2 := cv_le (fun j => f.getD j 0) (fun j => g.getD j 0) t 0 (Nat.zero_le _)
  simp only [Nat.sub_self, Nat.sub_zero, hf.2.1, hg.2.1, zero_plus, plus_zero] at k1 k2
  omega

/-! The document's own way: by all pairs. -/
def ec (F G : Nat → Int) (s u t : Nat) : Int := if s ≤ t ∧ t < s + u then lsum F G t (s + 1) else lsum F G t (min s (t + 1))
theorem ec_start (F G : Nat → Int) (t : Nat) : ec F G 0 0 t = 1152921504606846976 := by unfold ec; rw [if_neg (by omega), Nat.min_eq_left (by omega)]; rfl
theorem ec_here (F G : Nat → Int) (s u : Nat) : ec F G s (u + 1) (s + u) = min (ec F G s u (s + u)) (plus (F s) (G u)) := by
  unfold ec
  rw [if_pos (by omega), if_neg (by omega), Nat.min_eq_left (by omega)]
  simp only [lsum, Nat.add_sub_cancel_left]
theorem ec_else (F G : Nat → Int) (s u t : Nat) (h : t ≠ s + u) : ec F G s (u + 1) t = ec F G s u t := by
  unfold ec
  by_cases k : s ≤ t ∧ t < s + u
  · rw [if_pos k, if_pos (by omega)]
  · rw [if_neg k, if_neg (by omega)]
theorem ec_row (F G : Nat → Int) (s m t : Nat) (h : t < m) : ec F G s m t = ec F G (s + 1) 0 t := by
  unfold ec
  rw [if_neg (c := s + 1 ≤ t ∧ _) (by omega)]
  by_cases k : s ≤ t
  · rw [if_pos (by omega), Nat.min_eq_left (by omega)]
  · rw [if_neg (by omega), Nat.min_eq_right (by omega), Nat.min_eq_right (by omega)]
theorem ec_done (F G : Nat → Int) (n t : Nat) (h : t < n) : ec F G n 0 t = cv F G t := by
  unfold ec cv; rw [if_neg (by omega), Nat.min_eq_right (by omega)]

def eo (F G : Nat → Int) (m s u t : Nat) : Int := if t ≤ s ∧ s < t + u then mo (fun u => F (t + u)) G (s - t + 1) else mo (fun u => F (t + u)) G (min (s - t) m)
theorem eo_start (F G : Nat → Int) (m t : Nat) : eo F G m 0 0 t = 0 := by unfold eo; rw [if_neg (by omega), show min (0 - t) m = 0 by omega]; rfl
theorem eo_here (F G : Nat → Int) (m s u : Nat) (hu : u < m) (hs : u ≤ s) : eo F G m s (u + 1) (s - u) = max (eo F G m s u (s - u)) (less (F s) (G u)) := by
  unfold eo
  rw [if_pos (by omega), if_neg (by omega), show s - (s - u) = u by omega, show min u m = u by omega]
  simp only [mo, show s - u + u = s by omega]
theorem eo_else (F G : Nat → Int) (m s u t : Nat) (h : t + u ≠ s) : eo F G m s (u + 1) t = eo F G m s u t := by
  unfold eo
  by_cases k : t ≤ s ∧ s < t + u
  · rw [if_pos k, if_pos (by omega)]
  · rw [if_neg k, if_neg (by omega)]
theorem eo_row (F G : Nat → Int) (m s t : Nat) : eo F G m s m t = eo F G m (s + 1) 0 t := by
  unfold eo
  rw [if_neg (c := t ≤ s + 1 ∧ _) (by omega)]
  by_cases k : t ≤ s ∧ s < t + m
  · rw [if_pos k, show min (s + 1 - t) m = s - t + 1 by omega]
  · rw [if_neg k, show min (s + 1 - t) m = min (s - t) m by omega]
theorem eo_done (F G : Nat → Int) (n m t : Nat) : eo F G m n 0 t = ov F G n m t := by
  unfold eo ov; rw [if_neg (by omega)]

theorem parts_pairs (f : List Int) (h : ∀ s u, s + u < f.length → fit (f.getD (s + u) 0) ≤ plus (f.getD s 0) (f.getD u 0)) (h0 : f.length = 0 ∨ f.getD 0 0 ≤ 0) : parts f := by
  refine ⟨h0.imp_right fun k => ?_, fun t ht s hs => ?_⟩
  · unfold fit; omega
  · have := h s (t - s) (by omega)
    rw [show s + (t - s) = t by omega] at this
    exact this
theorem parts_not {f : List Int} {s u : Nat} (hs : s + u < f.length) (h : plus (f.getD s 0) (f.getD u 0) < fit (f.getD (s + u) 0)) : ¬ parts f := fun p => by
  have := p.2 (s + u) hs s (by omega)
  rw [Nat.add_sub_cancel_left] at this
  omega
theorem parts_begin {f : List Int} (h : f.length ≠ 0) (h0 : 0 < f.getD 0 0) : ¬ parts f := fun p => by
  have := p.1.resolve_left h
  unfold fit at this; omega

/-! With itself, again and again. -/
structure Mid (f g : List Int) : Prop where
  len : g.length = f.length
  zero : g.getD 0 0 = 0
  fits : fits2 g
  lo : ∀ t, t < f.length → clf (fun j => f.getD j 0) t ≤ g.getD t 0
  hi : ∀ t, 0 < t → t < f.length → g.getD t 0 ≤ fit (f.getD t 0)
theorem Mid.conv {f g : List Int} (h : Mid f g) (h0 : 0 < f.length) : Mid f (conv g g) ∧ ∀ t, t < f.length → (conv g g).getD t 0 ≤ g.getD t 0 := by
  have hl := h.len
  have hle : ∀ t, t < f.length → (Ytmijlmidlddcpaa.conv g g).getD t 0 ≤ g.getD t 0 := fun t ht => by
    rw [conv_getD _ _ _ (by omega)]
    have := cv_le (fun j => g.getD j 0) (fun j => g.getD j 0) t t (Nat.le_refl _)
    simp only [Nat.sub_self, h.zero, plus_zero, h.fits t (by omega)] at this
    exact this
  have hfit : fits2 (Ytmijlmidlddcpaa.conv g g) := fun t ht => by
    rw [conv_len] at ht; rw [conv_getD _ _ _ ht, cv_fit]
  refine ⟨⟨by rw [conv_len]; omega, ?_, hfit, fun t ht => ?_, fun t h0 ht => Int.le_trans (hle t ht) (h.hi t h0 ht)⟩, hle⟩
  · have h1 := hle 0 h0
    have h2 := hfit 0 (by rw [conv_len]; omega)
    have := fit_lo ((Ytmijlmidlddcpaa.conv g g).getD 0 0)
    rw [h.zero] at h1
    omega
  · rw [conv_getD _ _ _ (by omega)]
    refine le_cv _ _ _ _ (clf_hi _ _) fun s hs => Int.le_trans (clf_parts _ t s hs) (plus_mono ?_ ?_)
    · rw [clf_fit, h.fits s (by omega)]; exact h.lo s (by omega)
    · rw [clf_fit, h.fits (t - s) (by omega)]; exact h.lo (t - s) (by omega)
theorem Mid.done {f g : List Int} (h : Mid f g) (h0 : 0 < f.length) (e : Ytmijlmidlddcpaa.conv g g = g) : g = close f := by
  have hl := h.len
  refine list_ext (by rw [hl, close_len]) fun t ht => ?_
  apply Int.le_antisymm
  · have hp : parts g := ⟨.inr (by rw [h.zero]; rfl), fun v hv s hs => by
      rw [h.fits v hv]
      have := cv_le (fun j => g.getD j 0) (fun j => g.getD j 0) v s hs
      rw [← conv_getD _ _ _ (by omega), e] at this
      exact this⟩
    have := close_best f g hl hp (fun v hv => by
      rw [List.length_drop, List.length_drop] at hv
      rw [drop_getD, drop_getD, h.fits _ (by omega)]
      exact h.hi _ (by omega) (by omega)) t (by rw [close_len]; omega)
    rw [h.fits t ht, close_fits f t (by rw [close_len]; omega)] at this
    exact this
  · rw [close_getD _ _ (by omega)]; exact h.lo t (by omega)
/-- how much there is in all -/
def weight (g : List Int) : Nat := (g.map Int.toNat).sum
theorem weight_lt (g h : List Int) (hl : h.length = g.length) (h0 : ∀ t, t < g.length → 0 ≤ h.getD t 0) (hle : ∀ t, t < g.length → h.getD t 0 ≤ g.getD t 0) : weight h ≤ weight g ∧ (h ≠ g → weight h < weight g) := by
  induction g generalizing h with
  | nil =>
    have : h = [] := List.eq_nil_of_length_eq_zero hl
    subst this; exact ⟨Nat.le_refl _, fun k => absurd rfl k⟩
  | cons x g ih =>
    cases h with
    | nil => simp at hl
    | cons y h =>
      have e : ∀ (z : Int) (l : List Int), weight (z :: l) = z.toNat + weight l := fun z l => by simp [weight]
      rw [e, e]
      obtain ⟨k1, k2⟩ := ih h (by simpa using hl) (fun t ht => by simpa using h0 (t + 1) (by simp; omega)) (fun t ht => by simpa using hle (t + 1) (by simp; omega))
      have a0 := h0 0 (by simp)
      have a1 := hle 0 (by simp)
      simp at a0 a1
      refine ⟨by omega, fun ne => ?_⟩
      by_cases q : h = g
      · subst q
        have : y ≠ x := fun r => ne (by rw [r])
        omega
      · have := k2 q; omega

end Go.Proofs.Ytmijlmidlddcpaa
