/- PROVED: what is shared out, round by round, on plain integers: which wants are right, what whole rounds come to, who gets what is left, that nobody can have more but from one who has no more, that more for all is less for nobody; greatest common parts. CONDITIONS: none beyond each theorem's own. -/
import Derived.Test.YtggnhgbimkfdaaaPure
namespace Go.Proofs.Ytggnhgbimkfdaaa

/-- a number from 0 to 2^20 -/
def inr (x : Int) : Prop := 0 ≤ x ∧ x ≤ 1048576
instance (x : Int) : Decidable (inr x) := inferInstanceAs (Decidable (_ ∧ _))
def allIn (z : List Int) : Prop := ∀ j, j < z.length → inr (z.getD j 0)
instance (z : List Int) : Decidable (allIn z) := inferInstanceAs (Decidable (∀ j, j < z.length → inr (z.getD j 0)))
def sright (z : List Int) : Prop := z.length ≤ 300 ∧ allIn z
instance (z : List Int) : Decidable (sright z) := inferInstanceAs (Decidable (_ ∧ _))

/-- the sum of the first k -/
def tot (f : Nat → Int) : Nat → Int
  | 0 => 0
  | k + 1 => tot f k + f k
theorem tot_in (f : Nat → Int) (M : Int) (k : Nat) (h : ∀ j, j < k → 0 ≤ f j ∧ f j ≤ M) : 0 ≤ tot f k ∧ tot f k ≤ k * M := by
  induction k with
  | zero => simp [tot]
  | succ k ih =>
    have a := ih fun j hj => h j (by omega)
    have b := h k (by omega)
    have e : ((k + 1 : Nat) : Int) * M = k * M + M := by rw [Int.natCast_add, Int.add_mul]; simp
    show 0 ≤ tot f k + f k ∧ tot f k + f k ≤ _
    rw [e]; omega
theorem tot_le {f g : Nat → Int} (k : Nat) (h : ∀ j, j < k → f j ≤ g j) : tot f k ≤ tot g k := by
  induction k with
  | zero => exact Int.le_refl _
  | succ k ih =>
    have a := ih fun j hj => h j (by omega)
    have b := h k (by omega)
    show tot f k + f k ≤ tot g k + g k
    omega
theorem tot_ext {f g : Nat → Int} (k : Nat) (h : ∀ j, j < k → f j = g j) : tot f k = tot g k := by
  induction k with
  | zero => rfl
  | succ k ih => show _ + _ = _ + _; rw [ih fun j hj => h j (by omega), h k (by omega)]
theorem tot_add (f g : Nat → Int) (k : Nat) : tot (fun j => f j + g j) k = tot f k + tot g k := by
  induction k with
  | zero => rfl
  | succ k ih => show tot _ k + (f k + g k) = (tot f k + f k) + (tot g k + g k); rw [ih]; omega
theorem tot_mul (f : Nat → Int) (c : Int) (k : Nat) : tot (fun j => c * f j) k = c * tot f k := by
  induction k with
  | zero => simp [tot]
  | succ k ih => show tot _ k + c * f k = c * (tot f k + f k); rw [ih, Int.mul_add]
theorem tot_up (f : Nat → Int) (k n : Nat) (hk : k ≤ n) (h : ∀ j, j < n → 0 ≤ f j) : tot f k ≤ tot f n := by
  induction n with
  | zero => have : k = 0 := by omega
            subst this; exact Int.le_refl _
  | succ n ih =>
    by_cases e : k = n + 1
    · subst e; exact Int.le_refl _
    · have a := ih (by omega) fun j hj => h j (by omega)
      have b := h n (by omega)
      show _ ≤ tot f n + f n
      omega

/-- one, who still wants some behind r rounds -/
def hg (x r : Int) : Int := if r < x then 1 else 0
theorem hg_lo (x r : Int) : 0 ≤ hg x r := by unfold hg; split <;> omega
theorem hg_hi (x r : Int) : hg x r ≤ 1 := by unfold hg; split <;> omega
/-- what r whole rounds give the first k -/
def gv (f : Nat → Int) (r : Int) (k : Nat) : Int := tot (fun j => min (f j) r) k
/-- how many of the first k still want some behind r rounds -/
def hn (f : Nat → Int) (r : Int) (k : Nat) : Int := tot (fun j => hg (f j) r) k
theorem hn_lo (f : Nat → Int) (r : Int) (k : Nat) : 0 ≤ hn f r k := (tot_in _ 1 k fun _ _ => ⟨hg_lo _ _, hg_hi _ _⟩).1
theorem hn_hi (f : Nat → Int) (r : Int) (k : Nat) : hn f r k ≤ k := by have := (tot_in (fun j => hg (f j) r) 1 k fun _ _ => ⟨hg_lo _ _, hg_hi _ _⟩).2; rw [Int.mul_one] at this; exact this
theorem hn_up (f : Nat → Int) (r : Int) (k n : Nat) (h : k ≤ n) : hn f r k ≤ hn f r n := tot_up _ _ _ h fun _ _ => hg_lo _ _
theorem hn_succ (f : Nat → Int) (r : Int) (k : Nat) : hn f r (k + 1) = hn f r k + hg (f k) r := rfl
theorem gv_mono (f : Nat → Int) {r s : Int} (h : r ≤ s) (k : Nat) : gv f r k ≤ gv f s k := tot_le k fun j _ => by show min _ _ ≤ min _ _; omega
theorem gv_step (f : Nat → Int) (r : Int) (k : Nat) : gv f (r + 1) k = gv f r k + hn f r k := by
  unfold gv hn
  rw [← tot_add]
  exact tot_ext k fun j _ => by show min _ _ = min _ _ + _; unfold hg; split <;> omega
/-- several rounds at once, as long as all who want more want so many -/
theorem gv_more (f : Nat → Int) (r d : Int) (k : Nat) (h : ∀ j, j < k → r < f j → d ≤ f j - r) (hd : 0 ≤ d) : gv f (r + d) k = gv f r k + d * hn f r k := by
  unfold gv hn
  rw [← tot_mul, ← tot_add]
  refine tot_ext k fun j hj => ?_
  show min _ _ = min _ _ + d * hg _ _
  have := h j hj
  unfold hg
  split
  · rw [Int.mul_one]; omega
  · rw [Int.mul_zero]; omega
theorem gv_lo (f : Nat → Int) (r : Int) (k : Nat) (h : ∀ j, j < k → 0 ≤ f j) (hr : 0 ≤ r) : 0 ≤ gv f r k := by
  have := tot_le (f := fun _ => 0) (g := fun j => min (f j) r) k fun j hj => by have := h j hj; show 0 ≤ min _ _; omega
  have e : tot (fun _ => 0) k = 0 := by
    clear h this
    induction k with
    | zero => rfl
    | succ k ih => show tot _ k + 0 = 0; rw [ih]; rfl
  rw [e] at this; exact this
theorem gv_zero (f : Nat → Int) (k : Nat) (h : ∀ j, j < k → 0 ≤ f j) : gv f 0 k = 0 := by
  unfold gv
  rw [tot_ext (g := fun _ => 0 * (0 : Int)) k fun j hj => by have := h j hj; show min _ _ = _; omega, tot_mul]
  simp

/-- who gets one of the a that are left behind r whole rounds, and how much each has then -/
def sh (f : Nat → Int) (r a : Int) (i : Nat) : Int := min (f i) r + if r < f i ∧ hn f r i < a then 1 else 0
/-- how many are given out ahead of the i-th one's turn in the round behind r of them -/
def pos (f : Nat → Int) (n : Nat) (r : Int) (i : Nat) : Int := gv f r n + hn f r i

/-- S are shares of a among n that want f: each has its share, one by one, while some is left -/
structure Shares (f : Nat → Int) (n : Nat) (a : Int) (S : Nat → Int) : Prop where
  lo : ∀ i, i < n → 0 ≤ S i
  hi : ∀ i, i < n → S i ≤ f i
  is : ∀ i, i < n → ∀ r, 0 ≤ r → r < f i → (r < S i ↔ pos f n r i < a)

theorem Shares.unique {f S T : Nat → Int} {n : Nat} {a : Int} (h : Shares f n a S) (k : Shares f n a T) (i : Nat) (hi : i < n) : S i = T i := by
  have a1 := h.lo i hi; have a2 := h.hi i hi; have b1 := k.lo i hi; have b2 := k.hi i hi
  by_cases c : S i < T i
  · have := (k.is i hi (S i) a1 (by omega)).1 c
    have := (h.is i hi (S i) a1 (by omega)).2 this
    omega
  · by_cases d : T i < S i
    · have := (h.is i hi (T i) b1 (by omega)).1 d
      have := (k.is i hi (T i) b1 (by omega)).2 this
      omega
    · omega

/-- r whole rounds, and then to each in turn, as far as it goes: where no whole round more would be left, or nobody wants more -/
theorem shares_sh {f : Nat → Int} {n : Nat} {a r : Int} (hf : ∀ j, j < n → 0 ≤ f j) (hr : 0 ≤ r) (h1 : gv f r n ≤ a) (h2 : a - gv f r n ≤ hn f r n ∨ hn f r n = 0) : Shares f n a (sh f r (a - gv f r n)) := by
  refine ⟨fun i hi => ?_, fun i hi => ?_, fun i hi s hs hsf => ?_⟩
  · have := hf i hi
    unfold sh; split <;> omega
  · unfold sh; split <;> omega
  · have hp := hn_up f r (i + 1) n (by omega)
    rw [hn_succ] at hp
    unfold sh pos
    rcases Int.lt_trichotomy s r with c | c | c
    · refine ⟨fun _ => ?_, fun _ => by split <;> omega⟩
      have g1 := gv_mono f (r := s + 1) (s := r) (by omega) n
      rw [gv_step] at g1
      have g2 := hn_up f s (i + 1) n (by omega)
      rw [hn_succ] at g2
      have : hg (f i) s = 1 := if_pos hsf
      omega
    · subst c
      rw [show min (f i) s = s by omega]
      constructor
      · intro k
        split at k
        · rename_i q; omega
        · omega
      · intro k
        rw [if_pos ⟨hsf, by omega⟩]; omega
    · refine ⟨fun k => ?_, fun k => ?_⟩
      · exfalso
        split at k
        · omega
        · omega
      · exfalso
        have g1 := gv_mono f (r := r + 1) (s := s) (by omega) n
        rw [gv_step] at g1
        have g3 := hn_lo f s i
        have g4 := hn_lo f r i
        have : hg (f i) r = 1 := if_pos (by omega)
        omega

/-- what they have in all -/
theorem sh_sum {f : Nat → Int} {r a : Int} (h0 : 0 ≤ a) (k : Nat) : tot (sh f r a) k = gv f r k + min a (hn f r k) := by
  induction k with
  | zero => show 0 = (0 : Int) + min a 0; omega
  | succ k ih =>
    have g := hn_lo f r k
    show tot _ k + sh f r a k = (gv f r k + min (f k) r) + min a (hn f r k + hg (f k) r)
    rw [ih]
    unfold sh hg
    by_cases c : r < f k
    · rw [if_pos c]
      by_cases d : hn f r k < a
      · rw [if_pos ⟨c, d⟩]; omega
      · rw [if_neg fun q => d q.2]; omega
    · rw [if_neg c, if_neg fun q => c q.1]; omega

/-- nobody can have more but from one who has no more -/
theorem Shares.fair {f S : Nat → Int} {n : Nat} {a : Int} (h : Shares f n a S) {i j : Nat} (hi : i < n) (hj : j < n) (hw : S i < f i) : S j ≤ S i + 1 ∧ (i < j → S j ≤ S i) := by
  have a0 := h.lo i hi
  have nt : ¬ pos f n (S i) i < a := fun q => by have := (h.is i hi (S i) a0 hw).2 q; omega
  have b0 := h.lo j hj; have b1 := h.hi j hj
  unfold pos at nt
  have u := hn_up f (S i) (i + 1) n (by omega)
  rw [hn_succ, show hg (f i) (S i) = 1 from if_pos hw] at u
  refine ⟨?_, fun hij => ?_⟩
  · apply Int.not_lt.1
    intro c
    have p := (h.is j hj (S i + 1) (by omega) (by omega)).1 (by omega)
    unfold pos at p
    rw [gv_step] at p
    have := hn_lo f (S i + 1) j
    omega
  · apply Int.not_lt.1
    intro c
    have p := (h.is j hj (S i) a0 (by omega)).1 c
    unfold pos at p
    have v := hn_up f (S i) (i + 1) j (by omega)
    rw [hn_succ, show hg (f i) (S i) = 1 from if_pos hw] at v
    omega

/-- more for all is less for nobody, and who wants less takes nothing from anybody -/
theorem Shares.more {f g S T : Nat → Int} {n : Nat} {a b : Int} (h : Shares f n a S) (k : Shares g n b T) (hab : a ≤ b) (hgf : ∀ j, j < n → g j ≤ f j) {i : Nat} (hi : i < n) (he : g i = f i) : S i ≤ T i := by
  have a1 := h.lo i hi; have a2 := h.hi i hi; have b1 := k.lo i hi; have b2 := k.hi i hi
  apply Int.not_lt.1
  intro c
  have p := (h.is i hi (T i) b1 (by omega)).1 c
  have q : pos g n (T i) i ≤ pos f n (T i) i := by
    unfold pos gv hn
    have x := tot_le (f := fun j => min (g j) (T i)) (g := fun j => min (f j) (T i)) n fun j hj => by have := hgf j hj; show min _ _ ≤ min _ _; omega
    have y := tot_le (f := fun j => hg (g j) (T i)) (g := fun j => hg (f j) (T i)) i fun j hj => by
      have := hgf j (by omega)
      show hg _ _ ≤ hg _ _
      unfold hg
      split <;> split <;> omega
    omega
  have := (k.is i hi (T i) b1 (by omega)).2 (by omega)
  omega

/-- how many whole rounds there are at most 2^20 of -/
theorem rounds_are (f : Nat → Int) (n : Nat) (a : Int) (ha : 0 ≤ a) (hf : ∀ j, j < n → 0 ≤ f j) (N : Nat) : ∃ R : Nat, R ≤ N ∧ gv f R n ≤ a ∧ (∀ p : Nat, p < R → gv f ((p : Int) + 1) n ≤ a) ∧ ∀ p : Nat, R ≤ p → p < N → a < gv f ((p : Int) + 1) n := by
  induction N with
  | zero => exact ⟨0, Nat.le_refl _, by rw [show ((0 : Nat) : Int) = 0 from rfl, gv_zero f n hf]; exact ha, fun p hp => by omega, fun p _ hp => by omega⟩
  | succ N ih =>
    obtain ⟨R, h1, h2, h3, h4⟩ := ih
    by_cases c : gv f ((N : Int) + 1) n ≤ a
    · refine ⟨N + 1, Nat.le_refl _, by rw [Int.natCast_add]; exact c, fun p hp => ?_, fun p h5 h6 => by omega⟩
      exact Int.le_trans (gv_mono f (by omega) n) c
    · refine ⟨R, by omega, h2, h3, fun p h5 h6 => ?_⟩
      by_cases e : p = N
      · subst e; omega
      · exact h4 p h5 (by omega)

/-- what each of z gets of a -/
def got (z : List Int) (a : Int) (R : Int) (i : Nat) : Int := sh (fun j => z.getD j 0) R (a - gv (fun j => z.getD j 0) R z.length) i

/-- the greatest common part, by whatever way -/
def gcd (a b : Int) : Int := (Int.gcd a b : Int)
theorem gcd_step {a b : Int} (ha : 0 ≤ a) : gcd b (a.tmod b) = gcd a b := by
  unfold gcd
  rw [Int.tmod_eq_emod_of_nonneg ha]
  have : Int.gcd b (a % b) = Int.gcd a b := by
    show Nat.gcd b.natAbs (a % b).natAbs = Nat.gcd a.natAbs b.natAbs
    rw [Int.natAbs_emod_of_nonneg ha, Nat.gcd_comm a.natAbs, Nat.gcd_rec b.natAbs a.natAbs]
    exact Nat.gcd_comm _ _
  rw [this]
theorem gcd_zero {a : Int} (ha : 0 ≤ a) : gcd a 0 = a := by
  unfold gcd
  rw [Int.gcd_zero_right]; omega
theorem gcd_comm (a b : Int) : gcd a b = gcd b a := by unfold gcd; rw [Int.gcd_comm]
theorem gcd_pos {a b : Int} (hb : 0 < b) : 0 < gcd a b := by
  unfold gcd
  have : 0 < Int.gcd a b := Int.gcd_pos_of_ne_zero_right _ (by omega)
  omega

end Go.Proofs.Ytggnhgbimkfdaaa
