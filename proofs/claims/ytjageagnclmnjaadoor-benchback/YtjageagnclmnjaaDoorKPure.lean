/- PROVED: a line for two, on plain integers: the row of packets, of the first of them how many are whose, what comes, waits and is lost. CONDITIONS: none beyond each theorem's own. -/
namespace Go.Proofs.YtjageagnclmnjaaDoor.K

/-- small enough -/
def lr (r m a b s t : Int) : Prop := 1 ≤ r ∧ r ≤ 12 ∧ 0 ≤ m ∧ m ≤ 16 ∧ 0 ≤ a ∧ a ≤ 16 ∧ 0 ≤ b ∧ b ≤ 16 - a ∧ 0 ≤ s ∧ s ≤ 12 ∧ 0 ≤ t ∧ t ≤ 12
instance (r m a b s t : Int) : Decidable (lr r m a b s t) := inferInstanceAs (Decidable (_ ∧ _ ∧ _ ∧ _ ∧ _ ∧ _ ∧ _ ∧ _ ∧ _ ∧ _ ∧ _ ∧ _))

/-- one turn: one of the first flow if x, one of the second one if y -/
def turn (x y : Bool) : List Bool := (if x then [false] else []) ++ (if y then [true] else [])
/-- those that were sent, k turns of them -/
def turns (s t : Nat) : Nat → List Bool
  | 0 => []
  | k + 1 => turns s t k ++ turn (decide (k < s)) (decide (k < t))
/-- the row: false is one of the first flow, true is one of the second one -/
def pk (a b s t : Nat) : List Bool := (List.replicate a false ++ List.replicate b true) ++ turns s t (max s t)

/-- how many of them are f's -/
def cn (f : Bool) (l : List Bool) : Nat := l.count f
theorem cn_nil (f : Bool) : cn f [] = 0 := rfl
theorem cn_append (f : Bool) (l k : List Bool) : cn f (l ++ k) = cn f l + cn f k := List.count_append
theorem cn_one (f x : Bool) : cn f [x] = if x = f then 1 else 0 := by cases f <;> cases x <;> rfl
theorem cn_rep (f x : Bool) (n : Nat) : cn f (List.replicate n x) = if x = f then n else 0 := by
  unfold cn; rw [List.count_replicate]; cases f <;> cases x <;> simp
theorem cn_le (f : Bool) (l : List Bool) : cn f l ≤ l.length := List.count_le_length
theorem cn_take_le (f : Bool) (l : List Bool) (n : Nat) : cn f (l.take n) ≤ cn f l := by
  have := cn_append f (l.take n) (l.drop n)
  rw [List.take_append_drop] at this
  omega
theorem cn_take_mono (f : Bool) (l : List Bool) (n m : Nat) (h : n ≤ m) : cn f (l.take n) ≤ cn f (l.take m) := by
  have := cn_take_le f (l.take m) n
  rwa [List.take_take, Nat.min_eq_left h] at this

theorem turn_len (x y : Bool) : (turn x y).length = (if x then 1 else 0) + (if y then 1 else 0) := by cases x <;> cases y <;> rfl
theorem turn_cn0 (x y : Bool) (j : Nat) : cn false ((turn x y).take j) = if x = true ∧ 1 ≤ j then 1 else 0 := by
  match j with
  | 0 => cases x <;> cases y <;> rfl
  | 1 => cases x <;> cases y <;> rfl
  | j + 2 => cases x <;> cases y <;> simp [turn, cn]
theorem turn_cn1 (x y : Bool) (j : Nat) : cn true ((turn x y).take j) = if y = true ∧ (if x then 2 else 1) ≤ j then 1 else 0 := by
  match j with
  | 0 => cases x <;> cases y <;> rfl
  | 1 => cases x <;> cases y <;> rfl
  | j + 2 => cases x <;> cases y <;> simp [turn, cn]

theorem turns_len (s t k : Nat) : (turns s t k).length = min k s + min k t := by
  induction k with
  | zero => simp [turns]
  | succ k ih =>
    rw [turns, List.length_append, ih, turn_len]
    by_cases h1 : k < s <;> by_cases h2 : k < t <;> simp [h1, h2] <;> omega

/-- of the first k in turn, if there are p of the first flow and q of the second one -/
def g0 (k p q : Nat) : Nat := if k ≤ 2 * min p q then (k + 1) / 2 else if p > min p q then min k (p + q) - min p q else min p q
def g1 (k p q : Nat) : Nat := if k ≤ 2 * min p q then k / 2 else if p > min p q then min p q else min k (p + q) - min p q

theorem turns_cn0 (s t k n : Nat) : cn false ((turns s t k).take n) = g0 n (min k s) (min k t) := by
  induction k with
  | zero => simp [turns, cn, g0]; omega
  | succ k ih =>
    rw [turns, List.take_append, cn_append, ih, turns_len, turn_cn0]
    unfold g0
    by_cases h1 : k < s <;> by_cases h2 : k < t <;> simp only [h1, decide_true, decide_false, true_and, Bool.false_eq_true, false_and, if_false] <;> clear ih <;> (repeat' split) <;> omega
theorem turns_cn1 (s t k n : Nat) : cn true ((turns s t k).take n) = g1 n (min k s) (min k t) := by
  induction k with
  | zero => simp [turns, cn, g1]; omega
  | succ k ih =>
    rw [turns, List.take_append, cn_append, ih, turns_len, turn_cn1]
    unfold g1
    by_cases h1 : k < s <;> by_cases h2 : k < t <;> simp only [h1, h2, decide_true, decide_false, true_and, Bool.false_eq_true, false_and, if_false, if_true] <;> clear ih <;> (repeat' split) <;> omega

theorem pk_cn0 (a b s t n : Nat) : cn false ((pk a b s t).take n) = min n a + g0 (n - min n a - min (n - min n a) b) s t := by
  rw [pk, List.take_append, cn_append, List.take_append, cn_append, List.take_replicate, List.take_replicate, cn_rep, cn_rep, turns_cn0]
  simp only [List.length_append, List.length_replicate, if_true, Bool.true_eq_false, if_false]
  rw [show min (max s t) s = s by omega, show min (max s t) t = t by omega, show n - (a + b) = n - min n a - min (n - min n a) b by omega, Nat.add_zero]
theorem pk_cn1 (a b s t n : Nat) : cn true ((pk a b s t).take n) = min (n - min n a) b + g1 (n - min n a - min (n - min n a) b) s t := by
  rw [pk, List.take_append, cn_append, List.take_append, cn_append, List.take_replicate, List.take_replicate, cn_rep, cn_rep, turns_cn1]
  simp only [List.length_append, List.length_replicate, if_true, Bool.false_eq_true, if_false]
  rw [show min (max s t) s = s by omega, show min (max s t) t = t by omega, show n - (a + b) = n - min n a - min (n - min n a) b by omega]
  omega
theorem pk_len (a b s t : Nat) : (pk a b s t).length = a + b + (s + t) := by
  rw [pk, List.length_append, List.length_append, turns_len]; simp; omega

/-- of the first n in the row, how many are the first flow's, the second one's -/
def u0 (n a b s t : Int) : Int :=
  if n - (min n a + min (n - min n a) b) ≤ 2 * min s t then min n a + (n - (min n a + min (n - min n a) b) + 1) / 2
  else if s > min s t then min n a + min (n - (min n a + min (n - min n a) b)) (s + t) - min s t else min n a + min s t
def u1 (n a b s t : Int) : Int :=
  if n - (min n a + min (n - min n a) b) ≤ 2 * min s t then min (n - min n a) b + (n - (min n a + min (n - min n a) b)) / 2
  else if s > min s t then min (n - min n a) b + min s t else min (n - min n a) b + min (n - (min n a + min (n - min n a) b)) (s + t) - min s t

theorem cn_u0 (a b s t n : Nat) : (cn false ((pk a b s t).take n) : Int) = u0 n a b s t := by
  rw [pk_cn0]; unfold g0 u0
  (repeat' split) <;> omega
theorem cn_u1 (a b s t n : Nat) : (cn true ((pk a b s t).take n) : Int) = u1 n a b s t := by
  rw [pk_cn1]; unfold g1 u1
  (repeat' split) <;> omega
theorem cn_all0 (a b s t : Nat) : cn false (pk a b s t) = a + s := by
  have := cn_u0 a b s t (a + b + (s + t))
  rw [← pk_len, List.take_length, pk_len] at this
  unfold u0 at this; (repeat' split at this) <;> omega
theorem cn_all1 (a b s t : Nat) : cn true (pk a b s t) = b + t := by
  have := cn_u1 a b s t (a + b + (s + t))
  rw [← pk_len, List.take_length, pk_len] at this
  unfold u1 at this; (repeat' split at this) <;> omega

/-- what of f's has come, waits, is lost, when l stood in the row -/
def ca (r : Nat) (f : Bool) (l : List Bool) : Int := (cn f (l.take r) : Int)
def wt (r m : Nat) (f : Bool) (l : List Bool) : Int := (cn f (l.take (r + m)) : Int) - cn f (l.take r)
def lo (r m : Nat) (f : Bool) (l : List Bool) : Int := (cn f l : Int) - cn f (l.take (r + m))
theorem cn_snoc (n : Nat) (f x : Bool) (l : List Bool) : cn f ((l ++ [x]).take n) = cn f (l.take n) + if l.length < n ∧ x = f then 1 else 0 := by
  rw [List.take_append, cn_append]
  by_cases h : l.length < n
  · rw [show n - l.length = (n - l.length - 1) + 1 by omega, List.take_succ_cons, List.take_nil, cn_one]
    simp [h]
  · rw [show n - l.length = 0 by omega, List.take_zero, cn_nil]
    simp [h]
theorem ca_snoc (r : Nat) (f x : Bool) (l : List Bool) : ca r f (l ++ [x]) = ca r f l + if l.length < r ∧ x = f then 1 else 0 := by
  unfold ca; rw [cn_snoc]; split <;> simp
theorem wt_snoc (r m : Nat) (f x : Bool) (l : List Bool) : wt r m f (l ++ [x]) = wt r m f l + if r ≤ l.length ∧ l.length < r + m ∧ x = f then 1 else 0 := by
  unfold wt; rw [cn_snoc, cn_snoc]
  by_cases h1 : x = f <;> simp only [h1, and_true, and_false, if_false] <;> (repeat' split) <;> omega
theorem lo_snoc (r m : Nat) (f x : Bool) (l : List Bool) : lo r m f (l ++ [x]) = lo r m f l + if r + m ≤ l.length ∧ x = f then 1 else 0 := by
  unfold lo; rw [cn_snoc, cn_append, cn_one]
  by_cases h1 : x = f <;> simp only [h1, and_true, and_false, if_false, if_true] <;> (repeat' split) <;> omega
theorem ca_in (r : Nat) (f : Bool) (l : List Bool) : 0 ≤ ca r f l ∧ ca r f l ≤ l.length := by
  unfold ca; have := cn_take_le f l r; have := cn_le f l; omega
theorem wt_in (r m : Nat) (f : Bool) (l : List Bool) : 0 ≤ wt r m f l ∧ wt r m f l ≤ l.length := by
  unfold wt; have := cn_take_le f l (r + m); have := cn_le f l; have := cn_take_mono f l r (r + m) (by omega); omega
theorem lo_in (r m : Nat) (f : Bool) (l : List Bool) : 0 ≤ lo r m f l ∧ lo r m f l ≤ l.length := by
  unfold lo; have := cn_take_le f l (r + m); have := cn_le f l; omega

/-- what is told of both -/
def C0 (r a b s t : Int) : Int := u0 r a b s t
def C1 (r a b s t : Int) : Int := u1 r a b s t
def W0 (r m a b s t : Int) : Int := u0 (r + m) a b s t - u0 r a b s t
def W1 (r m a b s t : Int) : Int := u1 (r + m) a b s t - u1 r a b s t
def L0 (r m a b s t : Int) : Int := a + s - u0 (r + m) a b s t
def L1 (r m a b s t : Int) : Int := b + t - u1 (r + m) a b s t
theorem ca_pk0 (r a b s t : Nat) : ca r false (pk a b s t) = C0 r a b s t := cn_u0 a b s t r
theorem ca_pk1 (r a b s t : Nat) : ca r true (pk a b s t) = C1 r a b s t := cn_u1 a b s t r
theorem wt_pk0 (r m a b s t : Nat) : wt r m false (pk a b s t) = W0 r m a b s t := by
  unfold wt W0; rw [cn_u0, cn_u0]; simp
theorem wt_pk1 (r m a b s t : Nat) : wt r m true (pk a b s t) = W1 r m a b s t := by
  unfold wt W1; rw [cn_u1, cn_u1]; simp
theorem lo_pk0 (r m a b s t : Nat) : lo r m false (pk a b s t) = L0 r m a b s t := by
  unfold lo L0; rw [cn_u0, cn_all0]; simp
theorem lo_pk1 (r m a b s t : Nat) : lo r m true (pk a b s t) = L1 r m a b s t := by
  unfold lo L1; rw [cn_u1, cn_all1]; simp

end Go.Proofs.YtjageagnclmnjaaDoor.K
