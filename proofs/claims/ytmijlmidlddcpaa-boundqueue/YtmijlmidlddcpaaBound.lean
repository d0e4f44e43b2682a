/- PROVED: what can't be more, on plain integers: High, Far, Serves, Keeps, and what the promises say of them. CONDITIONS: none beyond each theorem's own. -/
import Derived.Test.YtmijlmidlddcpaaQueue
namespace Go.Proofs.Ytmijlmidlddcpaa

/-! High. -/
def high (f g : List Int) : Int := mo (fun j => f.getD j 0) (fun j => g.getD j 0) (min f.length g.length)

/-! Far. -/
/-- by how many ticks row g is behind the number x of tick t -/
def fd (x : Int) (g : List Int) (t : Nat) : Nat := later (fit x) (fun j => fit (g.getD (j - 1) 0)) t (g.length - t)
theorem fd_le (x : Int) (g : List Int) (t : Nat) : fd x g t ≤ g.length - t := later_le _ _ _ _
theorem fd_lt (x : Int) (g : List Int) (t i : Nat) (h : i < fd x g t) : fit (g.getD (t + i) 0) < fit x := by
  have := later_lt (fit x) (fun j => fit (g.getD (j - 1) 0)) t (g.length - t) i h
  simpa using this
theorem fd_at (x : Int) (g : List Int) (t : Nat) (h : t + fd x g t < g.length) : fit x ≤ fit (g.getD (t + fd x g t) 0) := by
  have := later_at (fit x) (fun j => fit (g.getD (j - 1) 0)) t (g.length - t) (by unfold fd at h; omega)
  simpa [fd] using this
theorem fd_is (x : Int) (g : List Int) (t d : Nat) (h1 : t + d < g.length) (h2 : ∀ i, i < d → fit (g.getD (t + i) 0) < fit x) (h3 : fit x ≤ fit (g.getD (t + d) 0)) : fd x g t = d :=
  later_is _ _ _ _ _ (by omega) (fun i hi => by simpa using h2 i hi) (fun _ => by simpa using h3)
theorem fd_no (x : Int) (g : List Int) (t : Nat) (h : ∀ j, t ≤ j → j < g.length → fit (g.getD j 0) < fit x) : ¬ t + fd x g t < g.length := fun k => by
  have a := fd_at x g t k
  have b := h (t + fd x g t) (by omega) k
  omega
/-- the tick's own -/
def fdt (f g : List Int) (t : Nat) : Nat := fd (f.getD t 0) g t
def reach (f g : List Int) : Prop := ∀ t, t < f.length → t + fdt f g t < g.length
instance (f g : List Int) : Decidable (reach f g) := inferInstanceAs (Decidable (∀ t, t < f.length → t + fdt f g t < g.length))
theorem reach_len {f g : List Int} (h : reach f g) : f.length ≤ g.length := by
  by_cases e : f.length = 0
  · omega
  · have := h (f.length - 1) (by omega); omega
/-- the most of the first k -/
def wst (D : Nat → Nat) : Nat → Nat
  | 0 => 0
  | k + 1 => max (wst D k) (D k)
/-- the most of the last k of n -/
def wsd (D : Nat → Nat) (n : Nat) : Nat → Nat
  | 0 => 0
  | k + 1 => max (wsd D n k) (D (n - (k + 1)))
theorem le_wst (D : Nat → Nat) (k t : Nat) (h : t < k) : D t ≤ wst D k := by
  induction k with
  | zero => omega
  | succ k ih =>
    simp only [wst]
    by_cases e : t = k
    · subst e; omega
    · have := ih (by omega); omega
theorem wst_le (D : Nat → Nat) (k x : Nat) (h : ∀ t, t < k → D t ≤ x) : wst D k ≤ x := by
  induction k with
  | zero => exact Nat.zero_le _
  | succ k ih =>
    have := ih fun t ht => h t (by omega)
    have := h k (by omega)
    simp only [wst]; omega
theorem le_wsd (D : Nat → Nat) (n k t : Nat) (hk : k ≤ n) (h : n - k ≤ t) (ht : t < n) : D t ≤ wsd D n k := by
  induction k with
  | zero => omega
  | succ k ih =>
    simp only [wsd]
    by_cases e : t = n - (k + 1)
    · subst e; omega
    · have := ih (by omega) (by omega); omega
theorem wsd_le (D : Nat → Nat) (n k x : Nat) (hk : k ≤ n) (h : ∀ t, t < n → D t ≤ x) : wsd D n k ≤ x := by
  induction k with
  | zero => exact Nat.zero_le _
  | succ k ih =>
    have := ih (by omega)
    have := h (n - (k + 1)) (by omega)
    simp only [wsd]; omega
theorem wsd_all (D : Nat → Nat) (n : Nat) : wsd D n n = wst D n :=
  Nat.le_antisymm (wsd_le D n n _ (Nat.le_refl _) fun t ht => le_wst D n t ht) (wst_le D n _ fun t ht => le_wsd D n n t (Nat.le_refl _) (by omega) ht)
def far (f g : List Int) : Nat := if reach f g then wst (fdt f g) f.length else 0

/-! Serves. -/
def sv (R L : Int) (t : Nat) : Int := R * max ((t : Int) - L) 0
def many (n : Int) : Nat := (min (max n 0) 300).toNat
def serves (R L n : Int) : List Int := if inr R ∧ 0 ≤ L then outs (sv R L) (many n) else []
theorem sv_line (R : Int) (t : Nat) : sv R 0 t = lf R R t := by
  unfold sv lf
  have h : max ((t : Int) - 0) 0 = t := by omega
  rw [h]
  split
  · next e => subst e; simp
  · rw [Int.min_self, Int.sub_mul, Int.one_mul, Int.mul_comm]; omega
theorem serves_line {R : Int} (hR : inr R) (n : Nat) (hn : n ≤ 300) : serves R 0 n = line R R n := by
  unfold serves
  rw [if_pos ⟨hR, Int.le_refl _⟩, line_right hR hR, show many n = n by unfold many; omega]
  exact outs_ext fun j _ => sv_line R j
theorem sv_in {R L : Int} (hR : inr R) (t : Nat) (ht : t < 300) (hL : 0 ≤ L) : 0 ≤ sv R L t ∧ sv R L t ≤ 329853488332800 := by
  unfold sv inr at *
  have h1 : 0 ≤ max ((t : Int) - L) 0 := by omega
  have h2 : max ((t : Int) - L) 0 ≤ 300 := by omega
  refine ⟨Int.mul_nonneg hR.1 h1, ?_⟩
  have := Int.mul_le_mul hR.2 h2 h1 (by omega)
  omega

/-! Keeps. -/
def holds (f row : List Int) : Prop := ∀ t, t < f.length → ov (fun j => f.getD j 0) (fun j => f.getD j 0) f.length f.length t ≤ att row t
instance (f row : List Int) : Decidable (holds f row) := inferInstanceAs (Decidable (∀ t, t < f.length → _))
theorem holds_pairs (f row : List Int) : holds f row ↔ ∀ s, s < f.length → ∀ t, t < f.length → s ≤ t → less (f.getD t 0) (f.getD s 0) ≤ att row ((t : Int) - s) := by
  constructor
  · intro h s hs t ht hst
    have a := h (t - s) (by omega)
    have b := le_mo (fun u => f.getD (t - s + u) 0) (fun j => f.getD j 0) (min (f.length - (t - s)) f.length) s (by omega)
    simp only [show t - s + s = t by omega] at b
    unfold ov at a
    rw [show ((t - s : Nat) : Int) = (t : Int) - s by omega] at a
    exact Int.le_trans b a
  · intro h t ht
    unfold ov
    refine mo_le _ _ _ _ ?_ fun u hu => ?_
    · have := h 0 (by omega) 0 (by omega) (by omega)
      unfold att; split
      · omega
      · exact fit_lo _
    · have := h u (by omega) (t + u) (by omega) (by omega)
      rw [show ((t + u : Nat) : Int) - (u : Int) = (t : Int) by omega] at this
      exact this
theorem att_in (f : List Int) (t : Nat) (h : t < f.length) : att f t = fit (f.getD t 0) := by
  unfold att
  rw [if_neg (by omega), show (min (t : Int) ((f.length : Int) - 1)).toNat = t by omega]
theorem holds_over (f row : List Int) (h : row.length = f.length) : holds f row ↔ below (over f f) row := by
  unfold holds below
  constructor
  · intro k t ht
    rw [over_len] at ht
    have := k t (by omega)
    rw [att_in _ _ (by omega)] at this
    rw [over_getD _ _ _ (by omega)]
    unfold ov at this ⊢
    rw [fit_of _ (mo_lo _ _ _) (mo_hi _ _ _)]
    exact this
  · intro k t ht
    have := k t (by rw [over_len]; omega)
    rw [over_getD _ _ _ (by omega)] at this
    unfold ov at this ⊢
    rw [fit_of _ (mo_lo _ _ _) (mo_hi _ _ _)] at this
    rw [att_in _ _ (by omega)]
    exact this
theorem tame_in {x : Int} (h : inr x) : tame x := by
  unfold inr at h; unfold tame
  rw [fit_of x h.1 (by omega)]
  omega
/-- small, all of them -/
theorem holds_conv (f row : List Int) (h : row.length = f.length) (hf : allIn f) (hr : allIn row) : holds f row ↔ below f (conv f row) := by
  rw [holds_over f row h]
  exact over_lacks f f row f.length rfl rfl h (fun j hj => tame_in (hf j hj)) (fun j hj => tame_in (hf j hj)) (fun j hj => tame_in (hr j (by omega)))
theorem right_in {f : List Int} (h : right f) (hl : f.getD (f.length - 1) 0 ≤ 1099511627776) : allIn f := fun j hj => by
  have a := up_mono h.2.2.1 j (f.length - 1 - j) (by omega)
  rw [show j + (f.length - 1 - j) = f.length - 1 by omega] at a
  exact ⟨right_lo h j hj, by omega⟩
theorem less_small {a b : Int} (ha : 0 ≤ a) (hb : 0 ≤ b) (h1 : a < 1152921504606846976) (h2 : b < 1152921504606846976) : less a b = max (a - b) 0 := by
  unfold less
  rw [fit_of a ha (by omega), fit_of b hb (by omega)]
  split
  · omega
  · split <;> omega
theorem holds_keeps {R B : Int} {s : List Int} (h : bright R B s) : holds (of s) (line R B (s.length + 1)) ↔ keeps R B s := by
  rw [keeps_iff h, holds_pairs, of_len]
  have hn := h.2.2.1
  have hl := line_len h.1 h.2.1 (s.length + 1)
  have e : ∀ u, u ≤ s.length → ∀ t, t ≤ s.length → u ≤ t → (less ((of s).getD t 0) ((of s).getD u 0) ≤ att (line R B (s.length + 1)) ((t : Int) - u) ↔ acc (fun j => s.getD j 0) t ≤ acc (fun j => s.getD j 0) u + lf R B (t - u)) := fun u hu t ht hut => by
    rw [of_getD h t ht, of_getD h u hu, show (t : Int) - u = ((t - u : Nat) : Int) by omega, att_in _ _ (by omega), line_getD h.1 h.2.1 _ _ (by omega)]
    have a := acc_lo h.2.2.2 t ht
    have b := acc_lo h.2.2.2 u hu
    have c := lf_lo h.1 h.2.1 (t - u)
    have d := lf_top h.1 h.2.1 (t - u) (by omega)
    rw [less_small a.1 b.1 (by omega) (by omega), fit_of _ c (by omega)]
    omega
  constructor
  · intro k t ht u hu
    exact (e u (by omega) t ht hu).1 (k u (by omega) t (by omega) hu)
  · intro k u hu t ht hut
    exact (e u (by omega) t (by omega) hut).2 (k t (by omega) u hut)

set_option linter.unusedSectionVars false
/-! What the promises say of rows. -/
section
variable {i o r s : List Int} {n : Nat} (li : i.length = n) (lo : o.length = n) (lr : r.length = n) (ls : s.length = n) (ri : right i) (ai : allIn i) (ao : allIn o) (ar : allIn r) (as : allIn s) (hk : holds i r) (hb : below (conv i s) o)
include li lo lr ls ri ai ao ar as hk hb
theorem serve_at (t : Nat) (ht : t < n) : ∃ u, u ≤ t ∧ i.getD u 0 + s.getD (t - u) 0 ≤ o.getD t 0 := by
  have a := hb t (by rw [conv_len]; omega)
  rw [conv_getD _ _ _ (by omega), cv_fit] at a
  have ot := ao t (by omega)
  unfold inr at ot
  rw [fit_of _ ot.1 (by omega)] at a
  rcases cv_at (fun j => i.getD j 0) (fun j => s.getD j 0) t with e | ⟨u, hu, e⟩
  · omega
  · have x := ai u (by omega)
    have y := as (t - u) (by omega)
    unfold inr at x y
    rw [e, plus_small x.1 y.1 (by omega)] at a
    exact ⟨u, hu, a⟩
theorem rise_at (t u : Nat) (ht : t < n) (hu : u ≤ t) : i.getD t 0 ≤ i.getD u 0 + r.getD (t - u) 0 := by
  have a := (holds_pairs i r).1 hk u (by omega) t (by omega) hu
  rw [show (t : Int) - u = ((t - u : Nat) : Int) by omega, att_in _ _ (by omega)] at a
  have x := ai u (by omega)
  have y := ai t (by omega)
  have z := ar (t - u) (by omega)
  unfold inr at x y z
  rw [less_small y.1 x.1 (by omega) (by omega), fit_of _ z.1 (by omega)] at a
  omega
theorem waits_le : high i o ≤ high r s := by
  unfold high
  refine mo_le _ _ _ _ (mo_lo _ _ _) fun t ht => ?_
  have ht' : t < n := by omega
  obtain ⟨u, hu, a⟩ := serve_at li lo lr ls ri ai ao ar as hk hb t ht'
  have b := rise_at li lo lr ls ri ai ao ar as hk hb t u ht' hu
  have c := le_mo (fun j => r.getD j 0) (fun j => s.getD j 0) (min r.length s.length) (t - u) (by omega)
  have x := ai t (by omega)
  have y := ao t (by omega)
  have z := ar (t - u) (by omega)
  have v := as (t - u) (by omega)
  unfold inr at x y z v
  rw [less_small z.1 v.1 (by omega) (by omega)] at c
  rw [less_small x.1 y.1 (by omega) (by omega)]
  omega
theorem delay_le (hr : reach r s) (hu : up s) (t : Nat) (ht : t + far r s < n) : i.getD t 0 ≤ o.getD (t + far r s) 0 := by
  obtain ⟨u, hut, a⟩ := serve_at li lo lr ls ri ai ao ar as hk hb (t + far r s) ht
  by_cases c : t ≤ u
  · have m := up_mono ri.2.2.1 t (u - t) (by omega)
    rw [show t + (u - t) = u by omega] at m
    have v := as (t + far r s - u) (by omega)
    unfold inr at v
    omega
  · have b := rise_at li lo lr ls ri ai ao ar as hk hb t u (by omega) (by omega)
    have hf : fdt r s (t - u) ≤ far r s := by unfold far; rw [if_pos hr]; exact le_wst _ _ _ (by omega)
    have q := hr (t - u) (by omega)
    have w : fit (r.getD (t - u) 0) ≤ fit (s.getD (t - u + fdt r s (t - u)) 0) := fd_at (r.getD (t - u) 0) s (t - u) q
    have z := ar (t - u) (by omega)
    have y := as (t - u + fdt r s (t - u)) q
    unfold inr at y z
    rw [fit_of _ z.1 (by omega), fit_of _ y.1 (by omega)] at w
    have m := up_mono hu (t - u + fdt r s (t - u)) (far r s - fdt r s (t - u)) (by omega)
    rw [show t - u + fdt r s (t - u) + (far r s - fdt r s (t - u)) = t + far r s - u by omega] at m
    omega
end

/-! A queue. -/
section
variable {R B Q M : Int} {F : Nat → Int} {n : Nat} (hR : inr R) (hB : inr B) (hQ : inr Q) (hM : inr M) (hF : ∀ j, j < n → inr (F j)) (h0 : ∀ j, j < n → ql Q M F j = 0) (hk : keepsTo R B F n) (hRQ : R ≤ Q)
include hR hB hQ hM hF h0 hk hRQ
theorem waits_burst (t : Nat) (ht : t < n) : qw Q M F t ≤ max (B - Q) 0 := by
  unfold qw
  obtain ⟨k, hkt, e⟩ := reich_is hQ hM hF h0 (t + 1) (by omega)
  rw [e]
  cases k with
  | zero => simp; omega
  | succ k =>
    have a := hk (t + 1) (by omega) (t + 1 - (k + 1)) (by omega)
    rw [show t + 1 - (t + 1 - (k + 1)) = k + 1 by omega, lf_succ] at a
    have b : (k : Int) * min R B ≤ (k : Int) * Q := Int.mul_le_mul_of_nonneg_left (by omega) (by omega)
    have c : ((k + 1 : Nat) : Int) * Q = (k : Int) * Q + Q := by rw [show ((k + 1 : Nat) : Int) = (k : Int) + 1 by omega, Int.add_mul, Int.one_mul]
    rw [c]
    omega
theorem delay_burst (hp : 0 < Q) (t : Nat) (ht : t < n) : delay (acc F) (acc (qg Q M F)) n t ≤ (B + Q - 1).tdiv Q := by
  have hw := waits_burst hR hB hQ hM hF h0 hk hRQ t ht
  unfold inr at hB
  have e : (B + Q - 1).tdiv Q = (B + Q - 1) / Q := Int.tdiv_eq_ediv_of_nonneg (by omega)
  have hnn : 0 ≤ (B + Q - 1) / Q := Int.ediv_nonneg (by omega) (by omega)
  rw [e]
  have i := qw_in hQ hM hF t ht
  unfold inr at i
  by_cases c : qw Q M F t = 0
  · rw [delay_none hQ hM hF h0 t ht c]; exact hnn
  · obtain ⟨m, _, m1, m2, _⟩ := ceil_is (qw Q M F t) Q (by omega) hp
    rw [delay_ceil hQ hM hF h0 t ht (by omega) hp m m1 m2]
    split
    · omega
    · rw [Int.le_ediv_iff_mul_le hp]
      rw [Int.sub_mul, Int.one_mul] at m2
      omega
end

end Go.Proofs.Ytmijlmidlddcpaa
