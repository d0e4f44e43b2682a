/- PROVED: a control on plain integers: its window, its part and its base, the next one; who is later sends no more; how long the way is is no matter; who waits longer gives way. CONDITIONS: none beyond each theorem's own. -/
namespace Go.Proofs.Ytobgjnjndkfjoaa.L

/-- a window that may be -/
def clip (n : Int) : Int := min (max n 1) 12
theorem clip_in (n : Int) : 1 ≤ clip n ∧ clip n ≤ 12 := by unfold clip; omega

/-- may it be? -/
def mright (k n b a s q : Int) : Prop := k = 3 ∧ (1 ≤ n ∧ n ≤ 12) ∧ (-1 ≤ b ∧ b ≤ 1099511627776) ∧ a = 0 ∧ s = 0 ∧ (0 ≤ q ∧ q ≤ 3) ∧ (n < 12 ∨ q = 0)
instance (k n b a s q : Int) : Decidable (mright k n b a s q) := by unfold mright; infer_instance
/-- may such a delay be? -/
def inr (x : Int) : Prop := 0 ≤ x ∧ x ≤ 1099511627776
instance (x : Int) : Decidable (inr x) := by unfold inr; infer_instance

/-- the base behind a delay -/
def nb (b d : Int) : Int := if b < 0 ∨ d < b then d else b
/-- by how many fourths it becomes more, behind a wait -/
def gr (x : Int) : Int := max (2 - x) (-2)
/-- how many fourths there may be -/
def bd (c : Int) : Int := min (max c 4) 48
/-- how many fourths it has then -/
def ct (n q x : Int) : Int := bd (4 * n + q + gr x)

theorem nb_in {b d : Int} (hd : inr d) : 0 ≤ nb b d ∧ nb b d ≤ d ∧ nb b d ≤ 1099511627776 ∧ 0 ≤ d - nb b d ∧ d - nb b d ≤ 1099511627776 := by
  unfold inr at hd; unfold nb; split <;> omega
theorem gr_in {x : Int} (hx : 0 ≤ x) : -2 ≤ gr x ∧ gr x ≤ 2 := by unfold gr; omega
theorem bd_in (c : Int) : 4 ≤ bd c ∧ bd c ≤ 48 := by unfold bd; omega
theorem ct_in (n q x : Int) : 4 ≤ ct n q x ∧ ct n q x ≤ 48 := bd_in _
theorem ct_right {n q x : Int} : (1 ≤ ct n q x / 4 ∧ ct n q x / 4 ≤ 12) ∧ (0 ≤ ct n q x % 4 ∧ ct n q x % 4 ≤ 3) ∧ (ct n q x / 4 < 12 ∨ ct n q x % 4 = 0) := by
  have := ct_in n q x; omega

/-- who is later sends no more -/
theorem ct_less {n q b x y : Int} (h : x ≤ y) : ct n q (y - nb b y) / 4 ≤ ct n q (x - nb b x) / 4 := by
  have e : x - nb b x ≤ y - nb b y := by unfold nb; split <;> split <;> omega
  unfold ct bd gr; omega
/-- how long the way is is no matter -/
theorem nb_off {b x y : Int} (hb : 0 ≤ b) (hy : 0 ≤ y) : nb (b + y) (x + y) = nb b x + y := by
  unfold nb
  by_cases h : x < b
  · rw [if_pos (.inr (by omega)), if_pos (.inr h)]
  · rw [if_neg (by omega), if_neg (by omega)]
theorem nb_none (d : Int) : nb (-1) d = d := by unfold nb; rw [if_pos (.inl (by omega))]

end Go.Proofs.Ytobgjnjndkfjoaa.L
