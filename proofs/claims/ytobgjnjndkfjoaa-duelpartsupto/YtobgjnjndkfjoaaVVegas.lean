/- PROVED: a control on plain integers: its window, base and wait, the next one; who is later sends no more; who has what it aims at rests. CONDITIONS: none beyond each theorem's own. -/
namespace Go.Proofs.Ytobgjnjndkfjoaa.V

/-- a window that may be -/
def clip (n : Int) : Int := min (max n 1) 12
theorem clip_in (n : Int) : 1 ≤ clip n ∧ clip n ≤ 12 := by unfold clip; omega
theorem clip_is {n : Int} (h : 1 ≤ n) (h2 : n ≤ 12) : clip n = n := by unfold clip; omega

/-- may it be? -/
def kright (k n b a s q : Int) : Prop := k = 1 ∧ (1 ≤ n ∧ n ≤ 12) ∧ (-1 ≤ b ∧ b ≤ 1099511627776) ∧ a = 0 ∧ s = 0 ∧ q = 0
instance (k n b a s q : Int) : Decidable (kright k n b a s q) := by unfold kright; infer_instance
/-- may such a delay be? -/
def inr (x : Int) : Prop := 0 ≤ x ∧ x ≤ 1099511627776
instance (x : Int) : Decidable (inr x) := by unfold inr; infer_instance

/-- the base behind a delay -/
def nb (b d : Int) : Int := if b < 0 ∨ d < b then d else b
/-- the window behind a delay that is x more than the base -/
def nw (n x d : Int) : Int := if n * x < 1 + d then clip (n + 1) else if 3 * (1 + d) ≤ n * x then clip (n - 1) else n
theorem nb_in {b d : Int} (hd : inr d) : 0 ≤ nb b d ∧ nb b d ≤ d ∧ nb b d ≤ 1099511627776 ∧ 0 ≤ d - nb b d ∧ d - nb b d ≤ 1099511627776 := by
  unfold inr at hd; unfold nb; split <;> omega
theorem nb_least {b d : Int} (hb : -1 ≤ b) (hd : 0 ≤ d) (L : Int) (hL : b = -1 ∧ d ≤ L ∨ 0 ≤ b ∧ b = L) : nb b d = min L d := by
  unfold nb; split <;> omega
theorem nw_in {n : Int} (x d : Int) (h : 1 ≤ n ∧ n ≤ 12) : 1 ≤ nw n x d ∧ nw n x d ≤ 12 := by
  unfold nw; split
  · exact clip_in _
  · split
    · exact clip_in _
    · exact h
theorem nw_near {n : Int} (x d : Int) (h : 1 ≤ n ∧ n ≤ 12) : n - 1 ≤ nw n x d ∧ nw n x d ≤ n + 1 := by
  unfold nw clip; split
  · omega
  · split <;> omega
theorem mul_in {n x : Int} (h : 1 ≤ n ∧ n ≤ 12) (h0 : 0 ≤ x) (h1 : x ≤ 1099511627776) : 0 ≤ n * x ∧ n * x ≤ 13194139533312 := by
  refine ⟨Int.mul_nonneg (by omega) h0, ?_⟩
  have : n * x ≤ 12 * x := Int.mul_le_mul_of_nonneg_right (by omega) h0
  omega
/-- how many more are on their way, by division -/
theorem more_lt {p d : Int} (hd : 0 ≤ d) : (p / (1 + d) < 1 ↔ p < 1 + d) ∧ (2 < p / (1 + d) ↔ 3 * (1 + d) ≤ p) := by
  refine ⟨?_, ?_⟩
  · rw [Int.ediv_lt_iff_lt_mul (by omega)]; omega
  · rw [show (2 < p / (1 + d)) ↔ (3 ≤ p / (1 + d)) by omega, Int.le_ediv_iff_mul_le (by omega)]

theorem cross {c p q x y : Int} (hx : 0 ≤ x) (hy : 0 ≤ y) (h : c * (1 + x) ≤ p) (k : p * (1 + y) ≤ q * (1 + x)) : c * (1 + y) ≤ q := by
  have h1 : c * (1 + x) * (1 + y) ≤ p * (1 + y) := Int.mul_le_mul_of_nonneg_right h (by omega)
  have h2 : c * (1 + y) * (1 + x) ≤ q * (1 + x) := by
    rw [Int.mul_assoc, Int.mul_comm (1 + y) (1 + x), ← Int.mul_assoc]; omega
  exact Int.le_of_mul_le_mul_right h2 (by omega)
/-- who is later sends no more -/
theorem nw_yields {n b x y : Int} (hn : 1 ≤ n ∧ n ≤ 12) (hx : 0 ≤ x) (h : x ≤ y) : nw n (y - nb b y) y ≤ nw n (x - nb b x) x := by
  have key : n * (x - nb b x) * (1 + y) ≤ n * (y - nb b y) * (1 + x) := by
    rw [Int.mul_assoc, Int.mul_assoc]
    apply Int.mul_le_mul_of_nonneg_left _ (by omega)
    unfold nb
    split
    · rw [Int.sub_self, Int.zero_mul]
      exact Int.mul_nonneg (by split <;> omega) (by omega)
    · rw [if_neg (by omega)]
      have hb : (x - b) * (1 + y) = x + x * y - b - b * y := by rw [Int.sub_mul, Int.mul_add, Int.mul_add, Int.mul_one, Int.mul_one]; omega
      have hc : (y - b) * (1 + x) = y + x * y - b - b * x := by rw [Int.sub_mul, Int.mul_add, Int.mul_add, Int.mul_one, Int.mul_one, Int.mul_comm y x]; omega
      have hd : b * x ≤ b * y := Int.mul_le_mul_of_nonneg_left h (by omega)
      omega
  generalize x - nb b x = u at key ⊢
  generalize y - nb b y = v at key ⊢
  unfold nw
  generalize n * u = p at key ⊢
  generalize n * v = q at key ⊢
  have k1 := cross (c := 1) hx (by omega : 0 ≤ y) (p := p) (q := q)
  have k3 := cross (c := 3) hx (by omega : 0 ≤ y) (p := p) (q := q)
  unfold clip
  by_cases h1 : p < 1 + x
  · rw [if_pos h1]; split
    · omega
    · split <;> omega
  · rw [if_neg h1]
    have := k1 (by omega) key
    rw [if_neg (by omega : ¬ q < 1 + y)]
    by_cases h3 : 3 * (1 + x) ≤ p
    · have := k3 h3 key
      rw [if_pos h3, if_pos this]; omega
    · rw [if_neg h3]; split <;> omega
/-- the same delay again: its base is the base -/
theorem nb_again (b d : Int) : nb (nb b d) d = nb b d := by
  unfold nb
  by_cases h : b < 0 ∨ d < b
  · rw [if_pos h]; split <;> rfl
  · rw [if_neg h, if_neg h]
/-- who has what it aims at rests -/
theorem nw_rests (n b d : Int) (h : nw n (d - nb b d) d = n) : nw (nw n (d - nb b d) d) (d - nb (nb b d) d) d = nw n (d - nb b d) d := by
  rw [nb_again b d, h, h]

end Go.Proofs.Ytobgjnjndkfjoaa.V
