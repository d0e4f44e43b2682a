/- PROVED: a control on plain integers: its way, speed, window and base, the next one; who is later sends no more. CONDITIONS: none beyond each theorem's own. -/
namespace Go.Proofs.Ytobgjnjndkfjoaa.C

/-- a window that may be -/
def clip (n : Int) : Int := min (max n 1) 12
theorem clip_in (n : Int) : 1 ≤ clip n ∧ clip n ≤ 12 := by unfold clip; omega
theorem clip_is {n : Int} (h : 1 ≤ n) (h2 : n ≤ 12) : clip n = n := by unfold clip; omega

/-- may it be? -/
def lright (k n b a s q : Int) : Prop := k = 2 ∧ (1 ≤ n ∧ n ≤ 12) ∧ (-1 ≤ b ∧ b ≤ 1099511627776) ∧ (-1 ≤ a ∧ a ≤ 1) ∧ (0 ≤ s ∧ s ≤ 4) ∧ q = 0
instance (k n b a s q : Int) : Decidable (lright k n b a s q) := by unfold lright; infer_instance
/-- may such a delay be? -/
def inr (x : Int) : Prop := 0 ≤ x ∧ x ≤ 1099511627776
instance (x : Int) : Decidable (inr x) := by unfold inr; infer_instance

/-- the base behind a delay -/
def nb (b d : Int) : Int := if b < 0 ∨ d < b then d else b
/-- which way it goes, behind a delay d that is x more than the base -/
def wy (n x d : Int) : Int := if n * x ≤ 2 * (1 + d) then 1 else -1
/-- how fast, on the way y, who went the way a so fast as s -/
def spd (a s y : Int) : Int := if y = a then min (max (2 * s) 1) 4 else 1
/-- the window then -/
def nw (n a s y : Int) : Int := clip (n + y * spd a s y)

theorem nb_in {b d : Int} (hd : inr d) : 0 ≤ nb b d ∧ nb b d ≤ d ∧ nb b d ≤ 1099511627776 ∧ 0 ≤ d - nb b d ∧ d - nb b d ≤ 1099511627776 := by
  unfold inr at hd; unfold nb; split <;> omega
theorem wy_is (n x d : Int) : wy n x d = 1 ∨ wy n x d = -1 := by unfold wy; split <;> simp
theorem spd_in (a s y : Int) : 1 ≤ spd a s y ∧ spd a s y ≤ 4 := by unfold spd; split <;> omega
theorem nw_in (n a s y : Int) : 1 ≤ nw n a s y ∧ nw n a s y ≤ 12 := clip_in _

/-- what the window is held against, by division -/
theorem wy_div {n x d : Int} (hx : 0 < x) : n ≤ 2 * (1 + d) / x ↔ n * x ≤ 2 * (1 + d) := Int.le_ediv_iff_mul_le hx

/-- who is later goes up no sooner -/
theorem wy_later {n b x y : Int} (hn : 1 ≤ n) (hx : 0 ≤ x) (h : x ≤ y) (hy : n * (y - nb b y) ≤ 2 * (1 + y)) : n * (x - nb b x) ≤ 2 * (1 + x) := by
  have key : n * (x - nb b x) * (1 + y) ≤ n * (y - nb b y) * (1 + x) := by
    rw [Int.mul_assoc, Int.mul_assoc]
    apply Int.mul_le_mul_of_nonneg_left _ (by omega)
    unfold nb
    split
    · rw [Int.sub_self, Int.zero_mul]
      exact Int.mul_nonneg (by split <;> omega) (by omega)
    · rw [if_neg (by omega)]
      have hb : (x - b) * (1 + y) = x + x * y - b - b * y := by rw [Int.sub_mul, Int.mul_add, Int.mul_add, Int.mul_one, Int.mul_one]; omega
      have hc : (y - b) * (1 + x) = y + x * y - b - b * x := by rw [Int.sub_mul, Int.mul_add, Int.mul_add, Int.mul_one, Int.mul_one, Int.mul_comm y x]; omega
      have hd : b * x ≤ b * y := Int.mul_le_mul_of_nonneg_left h (by omega)
      omega
  have h2 : n * (y - nb b y) * (1 + x) ≤ 2 * (1 + y) * (1 + x) := Int.mul_le_mul_of_nonneg_right hy (by omega)
  have h3 : 2 * (1 + y) * (1 + x) = 2 * (1 + x) * (1 + y) := by rw [Int.mul_assoc, Int.mul_comm (1 + y) (1 + x), ← Int.mul_assoc]
  exact Int.le_of_mul_le_mul_right (by omega : n * (x - nb b x) * (1 + y) ≤ 2 * (1 + x) * (1 + y)) (by omega)
/-- who is later sends no more -/
theorem nw_yields {n b a s x y : Int} (hn : 1 ≤ n) (hx : 0 ≤ x) (h : x ≤ y) : nw n a s (wy n (y - nb b y) y) ≤ nw n a s (wy n (x - nb b x) x) := by
  by_cases hy : n * (y - nb b y) ≤ 2 * (1 + y)
  · have := wy_later hn hx h hy
    unfold wy; rw [if_pos hy, if_pos this]; omega
  · by_cases hx2 : n * (x - nb b x) ≤ 2 * (1 + x)
    · unfold wy; rw [if_neg hy, if_pos hx2]
      have h1 := spd_in a s 1
      have h2 := spd_in a s (-1)
      unfold nw clip; omega
    · unfold wy; rw [if_neg hy, if_neg hx2]; omega

/-- who turns goes by one -/
theorem nw_turns {n a s y : Int} (hn : 1 ≤ n ∧ n ≤ 12) (hy : y = 1 ∨ y = -1) (h : y ≠ a) : spd a s y = 1 ∧ n - 1 ≤ nw n a s y ∧ nw n a s y ≤ n + 1 := by
  have e : spd a s y = 1 := by unfold spd; rw [if_neg h]
  refine ⟨e, ?_⟩
  unfold nw clip; rw [e]; rcases hy with rfl | rfl <;> omega
/-- who goes on goes by no more than the speed -/
theorem nw_goes {n a s y : Int} (hn : 1 ≤ n ∧ n ≤ 12) (hy : y = 1 ∨ y = -1) : 0 ≤ (nw n a s y - n) * y ∧ (nw n a s y - n) * y ≤ spd a s y := by
  have h1 := spd_in a s y
  unfold nw clip
  generalize spd a s y = S at h1 ⊢
  rcases hy with rfl | rfl <;> omega

end Go.Proofs.Ytobgjnjndkfjoaa.C
