/- PROVED: packets on plain integers: when they are right, how long their ways are, the least of a stretch, who waits how long; what the promises say of one another. CONDITIONS: none beyond each theorem's own. -/
import Derived.Test.YtngmjmehkehbeaaPure
import Derived.Test.YtngmjmehkehbeaaSlide
namespace Go.Proofs.Ytngmjmehkehbeaa

/-- a packet's two times may be -/
def okp (p : Int × Int) : Prop := (-1099511627776 ≤ p.1 ∧ p.1 ≤ 1099511627776) ∧ -1099511627776 ≤ p.2 ∧ p.2 ≤ 1099511627776
instance (p : Int × Int) : Decidable (okp p) := inferInstanceAs (Decidable (_ ∧ _))
def cright (ps : Rs) : Prop := ∀ j, j < ps.length → okp (ps.getD j (0, 0))
instance (ps : Rs) : Decidable (cright ps) := inferInstanceAs (Decidable (∀ j, j < ps.length → okp (ps.getD j (0, 0))))
/-- how long the way is -/
def wy (ps : Rs) (k : Nat) : Int := (ps.getD k (0, 0)).2 - (ps.getD k (0, 0)).1
def ways (ps : Rs) : List Int := if cright ps then outs (wy ps) ps.length else []
theorem ways_yes {ps : Rs} (h : cright ps) : ways ps = outs (wy ps) ps.length := if_pos h
theorem ways_no {ps : Rs} (h : ¬ cright ps) : ways ps = [] := if_neg h
theorem ways_len {ps : Rs} (h : cright ps) : (ways ps).length = ps.length := by rw [ways_yes h, outs_len]
theorem ways_le (ps : Rs) : (ways ps).length ≤ ps.length := by
  by_cases h : cright ps
  · rw [ways_len h]; exact Nat.le_refl _
  · rw [ways_no h]; exact Nat.zero_le _
theorem wy_in {ps : Rs} (h : cright ps) (k : Nat) (hk : k < ps.length) : -2199023255552 ≤ wy ps k ∧ wy ps k ≤ 2199023255552 := by
  have := h k hk
  unfold okp at this
  unfold wy
  omega
theorem ways_in (ps : Rs) (k : Nat) (hk : k < (ways ps).length) : -2199023255552 ≤ (ways ps).getD k 0 ∧ (ways ps).getD k 0 ≤ 2199023255552 := by
  by_cases h : cright ps
  · rw [ways_len h] at hk
    rw [ways_yes h, outs_getD _ _ _ hk]
    exact wy_in h k hk
  · rw [ways_no h] at hk; simp at hk

/-- the least of n + 1 numbers from place a on -/
def lst (f : Nat → Int) (a : Nat) : Nat → Int
  | 0 => f a
  | n + 1 => min (lst f a n) (f (a + n + 1))
theorem lst_best (f : Nat → Int) (a n : Nat) : Best true f a (a + n + 1) (lst f a n) := by
  induction n with
  | zero =>
    refine ⟨⟨a, Nat.le_refl _, by omega, rfl⟩, fun j h1 h2 => ?_⟩
    obtain rfl : j = a := by omega
    exact bt_self _ _
  | succ n ih =>
    obtain ⟨⟨i, h1, h2, h3⟩, h4⟩ := ih
    have e : lst f a (n + 1) = min (lst f a n) (f (a + n + 1)) := rfl
    rw [e]
    by_cases c : lst f a n ≤ f (a + n + 1)
    · rw [Int.min_eq_left c]
      refine ⟨⟨i, h1, by omega, h3⟩, fun j k1 k2 => ?_⟩
      by_cases d : j = a + n + 1
      · subst d; simp [bt]; omega
      · exact h4 j k1 (by omega)
    · rw [Int.min_eq_right (by omega)]
      refine ⟨⟨a + n + 1, by omega, by omega, rfl⟩, fun j k1 k2 => ?_⟩
      by_cases d : j = a + n + 1
      · subst d; exact bt_self _ _
      · have := h4 j k1 (by omega)
        simp [bt] at this ⊢
        omega
/-- the least that counts at place k -/
def bs (f : Nat → Int) (u v : Int) (k : Nat) : Int := lst f (frB u v k) (k - frB u v k)
theorem bs_best (f : Nat → Int) (u v : Int) (hu : 1 ≤ u) (hv : 1 ≤ v) (k : Nat) : Best true f (frB u v k) (k + 1) (bs f u v k) := by
  have h := frB_le u v k hu hv
  have := lst_best f (frB u v k) (k - frB u v k)
  rwa [show frB u v k + (k - frB u v k) + 1 = k + 1 by omega] at this
def base (z : List Int) (u v : Int) : List Int := if 1 ≤ u ∧ 1 ≤ v then outs (bs (fun j => z.getD j 0) u v) z.length else []
theorem base_yes (z : List Int) {u v : Int} (hu : 1 ≤ u) (hv : 1 ≤ v) : base z u v = outs (bs (fun j => z.getD j 0) u v) z.length := if_pos ⟨hu, hv⟩
theorem base_no (z : List Int) {u v : Int} (h : u < 1 ∨ v < 1) : base z u v = [] := if_neg (by omega)
theorem base_le (z : List Int) (u v : Int) : (base z u v).length ≤ z.length := by
  by_cases h : 1 ≤ u ∧ 1 ≤ v
  · rw [base_yes z h.1 h.2, outs_len]; exact Nat.le_refl _
  · rw [base_no z (by omega)]; exact Nat.zero_le _
/-- who tells the best of each tells the base -/
theorem base_is {z R : List Int} {u v : Int} (hu : 1 ≤ u) (hv : 1 ≤ v) (hl : R.length = z.length) (h : ∀ k, k < z.length → Best true (fun j => z.getD j 0) (frB u v k) (k + 1) (R.getD k 0)) : R = base z u v := by
  rw [base_yes z hu hv]
  refine list_ext (by rw [outs_len]; exact hl) fun j hj => ?_
  rw [outs_getD _ _ _ (by omega)]
  exact (h j (by omega)).uniq (bs_best _ u v hu hv j)
/-- what lies between bounds has its least there -/
theorem bs_in {f : Nat → Int} {u v : Int} (hu : 1 ≤ u) (hv : 1 ≤ v) {k : Nat} {a b : Int} (h : ∀ j, j ≤ k → a ≤ f j ∧ f j ≤ b) : a ≤ bs f u v k ∧ bs f u v k ≤ b := by
  obtain ⟨⟨j, _, h2, h3⟩, _⟩ := bs_best f u v hu hv k
  rw [← h3]; exact h j (by omega)
theorem base_in {z : List Int} {u v a b : Int} (h : ∀ j, j < z.length → a ≤ z.getD j 0 ∧ z.getD j 0 ≤ b) (k : Nat) (hk : k < (base z u v).length) : a ≤ (base z u v).getD k 0 ∧ (base z u v).getD k 0 ≤ b := by
  by_cases c : 1 ≤ u ∧ 1 ≤ v
  · rw [base_yes z c.1 c.2, outs_len] at hk
    rw [base_yes z c.1 c.2, outs_getD _ _ _ hk]
    exact bs_in c.1 c.2 fun j hj => h j (by omega)
  · rw [base_no z (by omega)] at hk; simp at hk

/-- how long each waits -/
def waits (ps : Rs) (u v : Int) : List Int := outs (fun k => (ways ps).getD k 0 - (base (ways ps) u v).getD k 0) (base (ways ps) u v).length
theorem waits_le (ps : Rs) (u v : Int) : (waits ps u v).length ≤ ps.length := by
  rw [waits, outs_len]; exact Nat.le_trans (base_le _ _ _) (ways_le _)
theorem waits_len (ps : Rs) (u v : Int) : (waits ps u v).length = (base (ways ps) u v).length := outs_len _ _
theorem waits_full {ps : Rs} {u v : Int} (h : cright ps) (hu : 1 ≤ u) (hv : 1 ≤ v) : (waits ps u v).length = ps.length := by
  rw [waits_len, base_yes _ hu hv, outs_len, ways_len h]
theorem waits_at {ps : Rs} {u v : Int} (h : cright ps) (hu : 1 ≤ u) (hv : 1 ≤ v) (k : Nat) (hk : k < ps.length) : (waits ps u v).getD k 0 = wy ps k - bs (fun j => (ways ps).getD j 0) u v k := by
  have hl := ways_len h
  rw [waits, base_yes _ hu hv, outs_getD _ _ _ (by rw [outs_len]; omega), outs_getD _ _ _ (by omega), ways_yes h, outs_getD _ _ _ hk]
theorem waits_no {ps : Rs} {u v : Int} (h : ¬ cright ps ∨ u < 1 ∨ v < 1) : waits ps u v = [] := by
  apply List.eq_nil_of_length_eq_zero
  rw [waits_len]
  by_cases c : 1 ≤ u ∧ 1 ≤ v
  · have := base_le (ways ps) u v
    have hn : ¬ cright ps := by
      rcases h with q | q
      · exact q
      · omega
    rw [ways_no hn] at this ⊢
    simpa using this
  · rw [base_no _ (by omega)]; rfl

/-! NO MATTER HOW CLOCKS STAND. -/

def mvd (ps : Rs) (s c : Int) : Rs := ps.map fun p => (p.1 + s, p.2 + c)
theorem mvd_len (ps : Rs) (s c : Int) : (mvd ps s c).length = ps.length := by simp [mvd]
theorem mvd_getD (ps : Rs) (s c : Int) (k : Nat) (hk : k < ps.length) : (mvd ps s c).getD k (0, 0) = ((ps.getD k (0, 0)).1 + s, (ps.getD k (0, 0)).2 + c) := by
  simp [mvd, List.getD_eq_getElem?_getD, hk]
theorem lst_add {f g : Nat → Int} {a n : Nat} {d : Int} (h : ∀ j, j ≤ a + n → g j = f j + d) : lst g a n = lst f a n + d := by
  induction n with
  | zero => exact h a (by omega)
  | succ n ih =>
    show min (lst g a n) (g (a + n + 1)) = min (lst f a n) (f (a + n + 1)) + d
    rw [ih (fun j hj => h j (by omega)), h (a + n + 1) (by omega)]
    omega
theorem bs_add {f g : Nat → Int} {u v : Int} (hu : 1 ≤ u) (hv : 1 ≤ v) {k : Nat} {d : Int} (h : ∀ j, j ≤ k → g j = f j + d) : bs g u v k = bs f u v k + d := by
  have := frB_le u v k hu hv
  exact lst_add fun j hj => h j (by omega)
theorem waits_off {ps : Rs} {s c : Int} (h : cright ps) (h2 : cright (mvd ps s c)) (u v : Int) : waits (mvd ps s c) u v = waits ps u v := by
  by_cases e : 1 ≤ u ∧ 1 ≤ v
  · obtain ⟨hu, hv⟩ := e
    refine list_ext (by rw [waits_full h hu hv, waits_full h2 hu hv, mvd_len]) fun k hk => ?_
    rw [waits_full h2 hu hv, mvd_len] at hk
    rw [waits_at h hu hv k hk, waits_at h2 hu hv k (by rw [mvd_len]; exact hk)]
    have hw : ∀ j, j < ps.length → wy (mvd ps s c) j = wy ps j + (c - s) := fun j hj => by
      unfold wy; rw [mvd_getD _ _ _ _ hj]; simp only; omega
    have := bs_add (f := fun j => (ways ps).getD j 0) (g := fun j => (ways (mvd ps s c)).getD j 0) hu hv (k := k) (d := c - s) fun j hj => by
      rw [ways_yes h, ways_yes h2, outs_getD _ _ _ (by rw [mvd_len]; omega), outs_getD _ _ _ (by omega)]
      exact hw j (by omega)
    rw [this, hw k hk]
    omega
  · rw [waits_no (.inr (by omega)), waits_no (.inr (by omega))]

/-! SOMEBODY DOES NOT WAIT. -/

theorem wait_lo {ps : Rs} {u v : Int} (k : Nat) (hk : k < (waits ps u v).length) :
    k < (ways ps).length ∧ 0 ≤ (waits ps u v).getD k 0 ∧ (k = 0 → (waits ps u v).getD k 0 = 0) ∧ ((∀ j, j ≤ k → (ways ps).getD k 0 ≤ (ways ps).getD j 0) → (waits ps u v).getD k 0 = 0) := by
  by_cases e : cright ps ∧ 1 ≤ u ∧ 1 ≤ v
  · obtain ⟨h, hu, hv⟩ := e
    rw [waits_full h hu hv] at hk
    obtain ⟨⟨i, h1, h2, h3⟩, h4⟩ := bs_best (fun j => (ways ps).getD j 0) u v hu hv k
    have hw : (ways ps).getD k 0 = wy ps k := by rw [ways_yes h, outs_getD _ _ _ hk]
    have h5 := h4 k (frB_le u v k hu hv) (by omega)
    simp [bt] at h5
    rw [waits_at h hu hv k hk, ← hw]
    refine ⟨by rw [ways_len h]; exact hk, ?_, fun q => ?_, fun q => ?_⟩
    · simp [List.getD_eq_getElem?_getD] at h5 ⊢; omega
    · obtain rfl : i = k := by omega
      rw [← h3]; simp
    · have := q i (by omega)
      simp only at h3
      simp [List.getD_eq_getElem?_getD] at h5 h3 this ⊢; omega
  · have hn : ¬ cright ps ∨ u < 1 ∨ v < 1 := by
      by_cases c : cright ps
      · have e2 : ¬ (1 ≤ u ∧ 1 ≤ v) := fun q => e ⟨c, q⟩
        exact .inr (by omega)
      · exact .inl c
    rw [waits_no hn] at hk; simp at hk
theorem waits_all {ps : Rs} {u v : Int} (hu : 1 ≤ u) (hv : 1 ≤ v) : (waits ps u v).length = (ways ps).length := by
  rw [waits_len, base_yes _ hu hv, outs_len]

/-! WHO WAITS LONGER IS SEEN SO. -/

/-- the last one's way is so much longer -/
theorem waits_more {ps qs : Rs} {n : Nat} {u v more : Int} (hu : 1 ≤ u) (hv : 1 ≤ v) (hm : 0 ≤ more) (h : cright ps) (h2 : cright qs) (hp : ps.length = n + 1) (hq : qs.length = n + 1)
    (he : ∀ j, j < n → wy qs j = wy ps j) (hn : wy qs n = wy ps n + more) :
    (waits ps u v).take n = (waits qs u v).take n ∧ (waits ps u v).getD n 0 ≤ (waits qs u v).getD n 0 ∧ (waits qs u v).getD n 0 ≤ (waits ps u v).getD n 0 + more ∧ ((waits ps u v).getD n 0 = 0 ∨ (waits qs u v).getD n 0 = (waits ps u v).getD n 0 + more) := by
  have w1 : ∀ j, j ≤ n → (ways ps).getD j 0 = wy ps j := fun j hj => by rw [ways_yes h, outs_getD _ _ _ (by omega)]
  have w2 : ∀ j, j ≤ n → (ways qs).getD j 0 = wy qs j := fun j hj => by rw [ways_yes h2, outs_getD _ _ _ (by omega)]
  refine ⟨?_, ?_⟩
  · refine list_ext (by simp [waits_full h hu hv, waits_full h2 hu hv, hp, hq]) fun k hk => ?_
    have hk' : k < n := by simp at hk; omega
    have t : ∀ l : List Int, (l.take n).getD k 0 = l.getD k 0 := fun l => by
      rw [List.getD_eq_getElem?_getD, List.getD_eq_getElem?_getD, List.getElem?_take_of_lt hk']
    rw [t, t, waits_at h hu hv k (by omega), waits_at h2 hu hv k (by omega), he k hk']
    have := bs_add (f := fun j => (ways ps).getD j 0) (g := fun j => (ways qs).getD j 0) hu hv (k := k) (d := 0) fun j hj => by
      rw [w1 j (by omega), w2 j (by omega), he j (by omega)]; omega
    rw [this]; omega
  · rw [waits_at h hu hv n (by omega), waits_at h2 hu hv n (by omega), hn]
    obtain ⟨⟨i, a1, a2, a3⟩, a4⟩ := bs_best (fun j => (ways ps).getD j 0) u v hu hv n
    obtain ⟨⟨j, b1, b2, b3⟩, b4⟩ := bs_best (fun j => (ways qs).getD j 0) u v hu hv n
    simp only at a3 b3
    have ai := b4 i a1 a2
    have bj := a4 j b1 b2
    have an := a4 n (frB_le u v n hu hv) (by omega)
    generalize bs (fun j => (ways ps).getD j 0) u v n = A at *
    generalize bs (fun j => (ways qs).getD j 0) u v n = B at *
    rw [w1 i (by omega)] at a3
    rw [w2 j (by omega)] at b3
    simp only [bt, if_true, decide_eq_false_iff_not] at ai bj an
    rw [w2 i (by omega)] at ai
    rw [w1 j (by omega)] at bj
    rw [w1 n (by omega)] at an
    have ei : wy qs i = wy ps i ∨ i = n := by
      by_cases c : i = n
      · exact .inr c
      · exact .inl (he i (by omega))
    have ej : wy qs j = wy ps j ∨ j = n := by
      by_cases c : j = n
      · exact .inr c
      · exact .inl (he j (by omega))
    rcases ei with ei | rfl <;> rcases ej with ej | rfl <;> omega

end Go.Proofs.Ytngmjmehkehbeaa
