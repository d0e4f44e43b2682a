/- PROVED: a line for two, on plain integers: the row of packets, of the first of them how many are whose, what comes, waits and is lost. what the promises say of what comes, waits and is lost, on plain integers. a duel on plain integers: controls of three kinds, rules, states, a round, many rounds; a state stays right, something comes in each round, what is sent comes, is lost or waits, one run behind another one is one run, who is alike stays alike. on plain letters: the text of rules, who can read it, and that no two rules have one text. CONDITIONS: none beyond each theorem's own. -/
import Derived.Test.YtjageagnclmnjabGreatDoorB00Pw
namespace Go.Proofs.YtjageagnclmnjabGreatDoor.K

/-- small enough -/
def lr (r m a b s t : Int) : Prop := 1 ≤ r ∧ r ≤ 12 ∧ 0 ≤ m ∧ m ≤ 16 ∧ 0 ≤ a ∧ a ≤ 16 ∧ 0 ≤ b ∧ b ≤ 16 - a ∧ 0 ≤ s ∧ s ≤ 12 ∧ 0 ≤ t ∧ t ≤ 12
instance (r m a b s t : Int) : Decidable (lr r m a b s t) := inferInstanceAs (Decidable (_ ∧ _ ∧ _ ∧ _ ∧ _ ∧ _ ∧ _ ∧ _ ∧ _ ∧ _ ∧ _ ∧ _))

/-- one turn: one of the first flow if x, one of the second one if y -/
def turn (x y : Bool) : List Bool := (if x then [false] else []) ++ (if y then [true] else [])
/-- those that were sent, k turns of them -/
def turns (s t : Nat) : Nat → List Bool
  | 0 => []
  | k + 1 => turns s t k ++ turn (decide (k < s)) (decide (k < t))
/-- the row: false is one of the first flow, true is one of the second one -/
def pk (a b s t : Nat) : List Bool := (List.replicate a false ++ List.replicate b true) ++ turns s t (max s t)

/-- how many of them are f's -/
def cn (f : Bool) (l : List Bool) : Nat := l.count f
theorem cn_nil (f : Bool) : cn f [] = 0 := rfl
theorem cn_append (f : Bool) (l k : List Bool) : cn f (l ++ k) = cn f l + cn f k := List.count_append
theorem cn_one (f x : Bool) : cn f [x] = if x = f then 1 else 0 := by cases f <;> cases x <;> rfl
theorem cn_rep (f x : Bool) (n : Nat) : cn f (List.replicate n x) = if x = f then n else 0 := by
  unfold cn; rw [List.count_replicate]; cases f <;> cases x <;> simp
theorem cn_le (f : Bool) (l : List Bool) : cn f l ≤ l.length := List.count_le_length
theorem cn_take_le (f : Bool) (l : List Bool) (n : Nat) : cn f (l.take n) ≤ cn f l := by
  have := cn_append f (l.take n) (l.drop n)
  rw [List.take_append_drop] at this
  omega
theorem cn_take_mono (f : Bool) (l : List Bool) (n m : Nat) (h : n ≤ m) : cn f (l.take n) ≤ cn f (l.take m) := by
  have := cn_take_le f (l.take m) n
  rwa [List.take_take, Nat.min_eq_left h] at this

theorem turn_len (x y : Bool) : (turn x y).length = (if x then 1 else 0) + (if y then 1 else 0) := by cases x <;> cases y <;> rfl
theorem turn_cn0 (x y : Bool) (j : Nat) : cn false ((turn x y).take j) = if x = true ∧ 1 ≤ j then 1 else 0 := by
  match j with
  | 0 => cases x <;> cases y <;> rfl
  | 1 => cases x <;> cases y <;> rfl
  | j + 2 => cases x <;> cases y <;> simp [turn, cn]
theorem turn_cn1 (x y : Bool) (j : Nat) : cn true ((turn x y).take j) = if y = true ∧ (if x then 2 else 1) ≤ j then 1 else 0 := by
  match j with
  | 0 => cases x <;> cases y <;> rfl
  | 1 => cases x <;> cases y <;> rfl
  | j + 2 => cases x <;> cases y <;> simp [turn, cn]

theorem turns_len (s t k : Nat) : (turns s t k).length = min k s + min k t := by
  induction k with
  | zero => simp [turns]
  | succ k ih =>
    rw [turns, List.length_append, ih, turn_len]
    by_cases h1 : k < s <;> by_cases h2 : k < t <;> simp [h1, h2] <;> omega

/-- of the first k in turn, if there are p of the first flow and q of the second one -/
def g0 (k p q : Nat) : Nat := if k ≤ 2 * min p q then (k + 1) / 2 else if p > min p q then min k (p + q) - min p q else min p q
def g1 (k p q : Nat) : Nat := if k ≤ 2 * min p q then k / 2 else if p > min p q then min p q else min k (p + q) - min p q

theorem turns_cn0 (s t k n : Nat) : cn false ((turns s t k).take n) = g0 n (min k s) (min k t) := by
  induction k with
  | zero => simp [turns, cn, g0]; omega
  | succ k ih =>
    rw [turns, List.take_append, cn_append, ih, turns_len, turn_cn0]
    unfold g0
    by_cases h1 : k < s <;> by_cases h2 : k < t <;> simp only [h1, decide_true, decide_false, true_and, Bool.false_eq_true, false_and, if_false] <;> clear ih <;> (repeat' split) <;> omega
theorem turns_cn1 (s t k n : Nat) : cn true ((turns s t k).take n) = g1 n (min k s) (min k t) := by
  induction k with
  | zero => simp [turns, cn, g1]; omega
  | succ k ih =>
    rw [turns, List.take_append, cn_append, ih, turns_len, turn_cn1]
    unfold g1
    by_cases h1 : k < s <;> by_cases h2 : k < t <;> simp only [h1, h2, decide_true, decide_false, true_and, Bool.false_eq_true, false_and, if_false, if_true] <;> clear ih <;> (repeat' split) <;> omega

theorem pk_cn0 (a b s t n : Nat) : cn false ((pk a b s t).take n) = min n a + g0 (n - min n a - min (n - min n a) b) s t := by
  rw [pk, List.take_append, cn_append, List.take_append, cn_append, List.take_replicate, List.take_replicate, cn_rep, cn_rep, turns_cn0]
  simp only [List.length_append, List.length_replicate, if_true, Bool.true_eq_false, if_false]
  rw [show min (max s t) s = s by omega, show min (max s t) t = t by omega, show n - (a + b) = n - min n a - min (n - min n a) b by omega, Nat.add_zero]
theorem pk_cn1 (a b s t n : Nat) : cn true ((pk a b s t).take n) = min (n - min n a) b + g1 (n - min n a - min (n - min n a) b) s t := by
  rw [pk, List.take_append, cn_append, List.take_append, cn_append, List.take_replicate, List.take_replicate, cn_rep, cn_rep, turns_cn1]
  simp only [List.length_append, List.length_replicate, if_true, Bool.false_eq_true, if_false]
  rw [show min (max s t) s = s by omega, show min (max s t) t = t by omega, show n - (a + b) = n - min n a - min (n - min n a) b by omega]
  omega
theorem pk_len (a b s t : Nat) : (pk a b s t).length = a + b + (s + t) := by
  rw [pk, List.length_append, List.length_append, turns_len]; simp; omega

/-- of the first n in the row, how many are the first flow's, the second one's -/
def u0 (n a b s t : Int) : Int :=
  if n - (min n a + min (n - min n a) b) ≤ 2 * min s t then min n a + (n - (min n a + min (n - min n a) b) + 1) / 2
  else if s > min s t then min n a + min (n - (min n a + min (n - min n a) b)) (s + t) - min s t else min n a + min s t
def u1 (n a b s t : Int) : Int :=
  if n - (min n a + min (n - min n a) b) ≤ 2 * min s t then min (n - min n a) b + (n - (min n a + min (n - min n a) b)) / 2
  else if s > min s t then min (n - min n a) b + min s t else min (n - min n a) b + min (n - (min n a + min (n - min n a) b)) (s + t) - min s t

theorem cn_u0 (a b s t n : Nat) : (cn false ((pk a b s t).take n) : Int) = u0 n a b s t := by
  rw [pk_cn0]; unfold g0 u0
  (repeat' split) <;> omega
theorem cn_u1 (a b s t n : Nat) : (cn true ((pk a b s t).take n) : Int) = u1 n a b s t := by
  rw [pk_cn1]; unfold g1 u1
  (repeat' split) <;> omega
theorem cn_all0 (a b s t : Nat) : cn false (pk a b s t) = a + s := by
  have := cn_u0 a b s t (a + b + (s + t))
  rw [← pk_len, List.take_length, pk_len] at this
  unfold u0 at this; (repeat' split at this) <;> omega
theorem cn_all1 (a b s t : Nat) : cn true (pk a b s t) = b + t := by
  have := cn_u1 a b s t (a + b + (s + t))
  rw [← pk_len, List.take_length, pk_len] at this
  unfold u1 at this; (repeat' split at this) <;> omega

/-- what of f's has come, waits, is lost, when l stood in the row -/
def ca (r : Nat) (f : Bool) (l : List Bool) : Int := (cn f (l.take r) : Int)
def wt (r m : Nat) (f : Bool) (l : List Bool) : Int := (cn f (l.take (r + m)) : Int) - cn f (l.take r)
def lo (r m : Nat) (f : Bool) (l : List Bool) : Int := (cn f l : Int) - cn f (l.take (r + m))
theorem cn_snoc (n : Nat) (f x : Bool) (l : List Bool) : cn f ((l ++ [x]).take n) = cn f (l.take n) + if l.length < n ∧ x = f then 1 else 0 := by
  rw [List.take_append, cn_append]
  by_cases h : l.length < n
  · rw [show n - l.length = (n - l.length - 1) + 1 by omega, List.take_succ_cons, List.take_nil, cn_one]
    simp [h]
  · rw [show n - l.length = 0 by omega, List.take_zero, cn_nil]
    simp [h]
theorem ca_snoc (r : Nat) (f x : Bool) (l : List Bool) : ca r f (l ++ [x]) = ca r f l + if l.length < r ∧ x = f then 1 else 0 := by
  unfold ca; rw [cn_snoc]; split <;> simp
theorem wt_snoc (r m : Nat) (f x : Bool) (l : List Bool) : wt r m f (l ++ [x]) = wt r m f l + if r ≤ l.length ∧ l.length < r + m ∧ x = f then 1 else 0 := by
  unfold wt; rw [cn_snoc, cn_snoc]
  by_cases h1 : x = f <;> simp only [h1, and_true, and_false, if_false] <;> (repeat' split) <;> omega
theorem lo_snoc (r m : Nat) (f x : Bool) (l : List Bool) : lo r m f (l ++ [x]) = lo r m f l + if r + m ≤ l.length ∧ x = f then 1 else 0 := by
  unfold lo; rw [cn_snoc, cn_append, cn_one]
  by_cases h1 : x = f <;> simp only [h1, and_true, and_false, if_false, if_true] <;> (repeat' split) <;> omega
theorem ca_in (r : Nat) (f : Bool) (l : List Bool) : 0 ≤ ca r f l ∧ ca r f l ≤ l.length := by
  unfold ca; have := cn_take_le f l r; have := cn_le f l; omega
theorem wt_in (r m : Nat) (f : Bool) (l : List Bool) : 0 ≤ wt r m f l ∧ wt r m f l ≤ l.length := by
  unfold wt; have := cn_take_le f l (r + m); have := cn_le f l; have := cn_take_mono f l r (r + m) (by omega); omega
theorem lo_in (r m : Nat) (f : Bool) (l : List Bool) : 0 ≤ lo r m f l ∧ lo r m f l ≤ l.length := by
  unfold lo; have := cn_take_le f l (r + m); have := cn_le f l; omega

/-- what is told of both -/
def C0 (r a b s t : Int) : Int := u0 r a b s t
def C1 (r a b s t : Int) : Int := u1 r a b s t
def W0 (r m a b s t : Int) : Int := u0 (r + m) a b s t - u0 r a b s t
def W1 (r m a b s t : Int) : Int := u1 (r + m) a b s t - u1 r a b s t
def L0 (r m a b s t : Int) : Int := a + s - u0 (r + m) a b s t
def L1 (r m a b s t : Int) : Int := b + t - u1 (r + m) a b s t
theorem ca_pk0 (r a b s t : Nat) : ca r false (pk a b s t) = C0 r a b s t := cn_u0 a b s t r
theorem ca_pk1 (r a b s t : Nat) : ca r true (pk a b s t) = C1 r a b s t := cn_u1 a b s t r
theorem wt_pk0 (r m a b s t : Nat) : wt r m false (pk a b s t) = W0 r m a b s t := by
  unfold wt W0; rw [cn_u0, cn_u0]; simp
theorem wt_pk1 (r m a b s t : Nat) : wt r m true (pk a b s t) = W1 r m a b s t := by
  unfold wt W1; rw [cn_u1, cn_u1]; simp
theorem lo_pk0 (r m a b s t : Nat) : lo r m false (pk a b s t) = L0 r m a b s t := by
  unfold lo L0; rw [cn_u0, cn_all0]; simp
theorem lo_pk1 (r m a b s t : Nat) : lo r m true (pk a b s t) = L1 r m a b s t := by
  unfold lo L1; rw [cn_u1, cn_all1]; simp

end Go.Proofs.YtjageagnclmnjabGreatDoor.K

namespace Go.Proofs.YtjageagnclmnjabGreatDoor.K

theorem inside (r m a b s t : Int) (h : lr r m a b s t) : (0 ≤ C0 r a b s t ∧ C0 r a b s t ≤ 100) ∧ (0 ≤ C1 r a b s t ∧ C1 r a b s t ≤ 100) ∧ (0 ≤ L0 r m a b s t ∧ L0 r m a b s t ≤ 100) ∧ (0 ≤ L1 r m a b s t ∧ L1 r m a b s t ≤ 100) ∧ (0 ≤ W0 r m a b s t ∧ W0 r m a b s t ≤ 100) ∧ (0 ≤ W1 r m a b s t ∧ W1 r m a b s t ≤ 100) := by
  unfold lr at h
  unfold C0 C1 L0 L1 W0 W1 u0 u1
  (repeat' split) <;> omega

/-- whatever is there comes, waits or is lost; no more comes than may, no more waits than there is room for; nothing waits while more could come, nothing is lost while there is room -/
theorem sums_are (r m a b s t : Int) (h : lr r m a b s t) : a + s = C0 r a b s t + W0 r m a b s t + L0 r m a b s t ∧ b + t = C1 r a b s t + W1 r m a b s t + L1 r m a b s t ∧
    C0 r a b s t + C1 r a b s t ≤ r ∧ W0 r m a b s t + W1 r m a b s t ≤ m ∧
    (W0 r m a b s t + W1 r m a b s t + (L0 r m a b s t + L1 r m a b s t) = 0 ∨ C0 r a b s t + C1 r a b s t = r) ∧ (L0 r m a b s t + L1 r m a b s t = 0 ∨ W0 r m a b s t + W1 r m a b s t = m) := by
  unfold lr at h
  refine ⟨by unfold C0 W0 L0; omega, by unfold C1 W1 L1; omega, ?_⟩
  unfold C0 C1 L0 L1 W0 W1 u0 u1
  (repeat' split) <;> omega

end Go.Proofs.YtjageagnclmnjabGreatDoor.K

namespace Go.Proofs.YtjageagnclmnjabGreatDoor.K

/-- what one who sends knows: kind, window, base, way, speed, part -/
structure Ct where
  k : Int
  n : Int
  b : Int
  a : Int
  s : Int
  q : Int
deriving DecidableEq

def clip (n : Int) : Int := min (max n 1) 12
theorem clip_in (n : Int) : 1 ≤ clip n ∧ clip n ≤ 12 := by unfold clip; omega
/-- may such a delay be? -/
def inr (x : Int) : Prop := 0 ≤ x ∧ x ≤ 1099511627776
instance (x : Int) : Decidable (inr x) := by unfold inr; infer_instance
/-- the base behind a delay -/
def nb (b d : Int) : Int := if b < 0 ∨ d < b then d else b
theorem nb_in {b d : Int} (hd : inr d) : 0 ≤ nb b d ∧ nb b d ≤ d ∧ nb b d ≤ 1099511627776 ∧ 0 ≤ d - nb b d ∧ d - nb b d ≤ 1099511627776 := by
  unfold inr at hd; unfold nb; split <;> omega

/-- may it be, by its kind? -/
def kright (c : Ct) : Prop := c.k = 1 ∧ (1 ≤ c.n ∧ c.n ≤ 12) ∧ (-1 ≤ c.b ∧ c.b ≤ 1099511627776) ∧ c.a = 0 ∧ c.s = 0 ∧ c.q = 0
def lright (c : Ct) : Prop := c.k = 2 ∧ (1 ≤ c.n ∧ c.n ≤ 12) ∧ (-1 ≤ c.b ∧ c.b ≤ 1099511627776) ∧ (-1 ≤ c.a ∧ c.a ≤ 1) ∧ (0 ≤ c.s ∧ c.s ≤ 4) ∧ c.q = 0
def mright (c : Ct) : Prop := c.k = 3 ∧ (1 ≤ c.n ∧ c.n ≤ 12) ∧ (-1 ≤ c.b ∧ c.b ≤ 1099511627776) ∧ c.a = 0 ∧ c.s = 0 ∧ (0 ≤ c.q ∧ c.q ≤ 3) ∧ (c.n < 12 ∨ c.q = 0)
def cright (c : Ct) : Prop := kright c ∨ lright c ∨ mright c
instance (c : Ct) : Decidable (kright c) := by unfold kright; infer_instance
instance (c : Ct) : Decidable (lright c) := by unfold lright; infer_instance
instance (c : Ct) : Decidable (mright c) := by unfold mright; infer_instance
instance (c : Ct) : Decidable (cright c) := by unfold cright; infer_instance

/-- vegas' window behind a delay that is x more than the base -/
def vw (n x d : Int) : Int := if n * x < 1 + d then clip (n + 1) else if 3 * (1 + d) ≤ n * x then clip (n - 1) else n
theorem vw_in {n : Int} (x d : Int) (h : 1 ≤ n ∧ n ≤ 12) : 1 ≤ vw n x d ∧ vw n x d ≤ 12 := by
  unfold vw; split
  · exact clip_in _
  · split
    · exact clip_in _
    · exact h
/-- copa's way, speed and window -/
def wy (n x d : Int) : Int := if n * x ≤ 2 * (1 + d) then 1 else -1
def spd (a s y : Int) : Int := if y = a then min (max (2 * s) 1) 4 else 1
def cw (n a s y : Int) : Int := clip (n + y * spd a s y)
theorem wy_is (n x d : Int) : wy n x d = 1 ∨ wy n x d = -1 := by unfold wy; split <;> simp
theorem spd_in (a s y : Int) : 1 ≤ spd a s y ∧ spd a s y ≤ 4 := by unfold spd; split <;> omega
/-- how many fourths ledbat has then -/
def ct (n q x : Int) : Int := min (max (4 * n + q + max (2 - x) (-2)) 4) 48
theorem ct_in (n q x : Int) : 4 ≤ ct n q x ∧ ct n q x ≤ 48 := by unfold ct; omega

/-- the next one, behind a delay -/
def kn (c : Ct) (d : Int) : Ct := { c with n := vw c.n (d - nb c.b d) d, b := nb c.b d }
def ln (c : Ct) (d : Int) : Ct := { c with n := cw c.n c.a c.s (wy c.n (d - nb c.b d) d), b := nb c.b d, a := wy c.n (d - nb c.b d) d, s := spd c.a c.s (wy c.n (d - nb c.b d) d) }
def mn (c : Ct) (d : Int) : Ct := { c with n := ct c.n c.q (d - nb c.b d) / 4, b := nb c.b d, q := ct c.n c.q (d - nb c.b d) % 4 }
def nx (c : Ct) (d : Int) : Ct := if c.k = 1 then kn c d else if c.k = 2 then ln c d else mn c d
theorem kn_right {c : Ct} {d : Int} (h : kright c) (hd : inr d) : kright (kn c d) := by
  have h1 := nb_in (b := c.b) hd
  unfold kright kn at *
  have h2 := vw_in (d - nb c.b d) d h.2.1
  simp only
  omega
theorem ln_right {c : Ct} {d : Int} (h : lright c) (hd : inr d) : lright (ln c d) := by
  have h1 := nb_in (b := c.b) hd
  unfold lright ln at *
  have h2 := wy_is c.n (d - nb c.b d) d
  have h3 := spd_in c.a c.s (wy c.n (d - nb c.b d) d)
  have h4 : 1 ≤ cw c.n c.a c.s (wy c.n (d - nb c.b d) d) ∧ cw c.n c.a c.s (wy c.n (d - nb c.b d) d) ≤ 12 := clip_in _
  simp only
  omega
theorem mn_right {c : Ct} {d : Int} (h : mright c) (hd : inr d) : mright (mn c d) := by
  have h1 := nb_in (b := c.b) hd
  unfold mright mn at *
  have h2 := ct_in c.n c.q (d - nb c.b d)
  simp only
  omega
theorem nx_k (c : Ct) (d : Int) : (nx c d).k = c.k := by unfold nx kn ln mn; split <;> (try split) <;> rfl
theorem nx_right {c : Ct} {d : Int} (h : cright c) (hd : inr d) : cright (nx c d) := by
  rcases h with h | h | h
  · have e : nx c d = kn c d := by unfold nx; rw [if_pos h.1]
    rw [e]; exact .inl (kn_right h hd)
  · have e : nx c d = ln c d := by unfold nx; rw [if_neg (by have := h.1; omega), if_pos h.1]
    rw [e]; exact .inr (.inl (ln_right h hd))
  · have e : nx c d = mn c d := by unfold nx; rw [if_neg (by have := h.1; omega), if_neg (by have := h.1; omega)]
    rw [e]; exact .inr (.inr (mn_right h hd))
theorem cright_n {c : Ct} (h : cright c) : 1 ≤ c.n ∧ c.n ≤ 12 := by rcases h with h | h | h <;> exact h.2.1

/-- rules: both kinds, rate, buffer, jitter -/
structure Ru where
  k0 : Int
  k1 : Int
  r : Int
  m : Int
  j : Int
def kinds (r : Ru) : Prop := (1 ≤ r.k0 ∧ r.k0 ≤ 3) ∧ (1 ≤ r.k1 ∧ r.k1 ≤ 3)
def ranges (r : Ru) : Prop := (1 ≤ r.r ∧ r.r ≤ 12) ∧ (0 ≤ r.m ∧ r.m ≤ 16) ∧ (0 ≤ r.j ∧ r.j ≤ 3)
instance (r : Ru) : Decidable (kinds r) := by unfold kinds; infer_instance
instance (r : Ru) : Decidable (ranges r) := by unfold ranges; infer_instance
/-- what is wrong -/
def wrong (r : Ru) : Int := if kinds r then if ranges r then 0 else 2 else 5
theorem wrong_ok {r : Ru} : wrong r = 0 ↔ kinds r ∧ ranges r := by
  unfold wrong; split
  · rename_i h; split
    · rename_i h2; exact ⟨fun _ => ⟨h, h2⟩, fun _ => rfl⟩
    · rename_i h2; exact ⟨fun e => absurd e (by decide), fun e => absurd e.2 h2⟩
  · rename_i h; exact ⟨fun e => absurd e (by decide), fun e => absurd e.1 h⟩

/-- a state: both flows, how many of each wait -/
structure Sx where
  f0 : Ct
  f1 : Ct
  w0 : Int
  w1 : Int
deriving DecidableEq
/-- a new one of a kind -/
def fresh (k : Int) : Ct := ⟨k, 1, -1, 0, 0, 0⟩
def start (r : Ru) : Sx := ⟨fresh r.k0, fresh r.k1, 0, 0⟩
def pright (r : Ru) (s : Sx) : Prop := (kinds r ∧ ranges r) ∧ (cright s.f0 ∧ s.f0.k = r.k0) ∧ (cright s.f1 ∧ s.f1.k = r.k1) ∧ 0 ≤ s.w0 ∧ 0 ≤ s.w1 ∧ s.w0 + s.w1 ≤ r.m
instance (r : Ru) (s : Sx) : Decidable (pright r s) := by unfold pright; infer_instance
theorem fresh_right {k : Int} (h : 1 ≤ k ∧ k ≤ 3) : cright (fresh k) := by
  obtain rfl | rfl | rfl : k = 1 ∨ k = 2 ∨ k = 3 := by omega
  · exact .inl ⟨rfl, by decide, by decide, rfl, rfl, rfl⟩
  · exact .inr (.inl ⟨rfl, by decide, by decide, by decide, by decide, rfl⟩)
  · exact .inr (.inr ⟨rfl, by decide, by decide, rfl, rfl, by decide, .inr rfl⟩)
theorem start_right {r : Ru} (h : kinds r ∧ ranges r) : pright r (start r) := by
  have h1 := h.1; have h2 := h.2
  unfold kinds at h1; unfold ranges at h2
  exact ⟨h, ⟨fresh_right h1.1, rfl⟩, ⟨fresh_right h1.2, rfl⟩, Int.le_refl _, Int.le_refl _, by show (0 : Int) + 0 ≤ r.m; omega⟩

/-- may they be so late? -/
def lates (r : Ru) (x y : Int) : Prop := (0 ≤ x ∧ x ≤ r.j) ∧ (0 ≤ y ∧ y ≤ r.j)
instance (r : Ru) (x y : Int) : Decidable (lates r x y) := by unfold lates; infer_instance
/-- the delay of both, but for what is late -/
def dly (r : Ru) (s : Sx) : Int := (s.w0 + s.w1) / r.r
/-- a round: the state behind it, and what it brings -/
def step (r : Ru) (s : Sx) (x y : Int) : Sx := ⟨nx s.f0 (dly r s + x), nx s.f1 (dly r s + y), W0 r.r r.m s.w0 s.w1 s.f0.n s.f1.n, W1 r.r r.m s.w0 s.w1 s.f0.n s.f1.n⟩
structure Rx where
  s0 : Int
  s1 : Int
  c0 : Int
  c1 : Int
  l0 : Int
  l1 : Int
deriving DecidableEq
def round (r : Ru) (s : Sx) : Rx := ⟨s.f0.n, s.f1.n, C0 r.r s.w0 s.w1 s.f0.n s.f1.n, C1 r.r s.w0 s.w1 s.f0.n s.f1.n, L0 r.r r.m s.w0 s.w1 s.f0.n s.f1.n, L1 r.r r.m s.w0 s.w1 s.f0.n s.f1.n⟩
theorem pright_lr {r : Ru} {s : Sx} (h : pright r s) : lr r.r r.m s.w0 s.w1 s.f0.n s.f1.n := by
  obtain ⟨⟨h1, h2⟩, ⟨h3, _⟩, ⟨h4, _⟩, h5, h6, h7⟩ := h
  have := cright_n h3
  have := cright_n h4
  unfold ranges at h2
  unfold lr
  omega
theorem dly_in {r : Ru} {s : Sx} (h : pright r s) : 0 ≤ dly r s ∧ dly r s ≤ 16 := by
  obtain ⟨⟨h1, h2⟩, _, _, h5, h6, h7⟩ := h
  unfold ranges at h2
  unfold dly
  refine ⟨Int.ediv_nonneg (by omega) (by omega), ?_⟩
  have := Int.ediv_le_self (a := s.w0 + s.w1) r.r (by omega)
  omega
theorem late_in {r : Ru} {s : Sx} {x y : Int} (h : pright r s) (hl : lates r x y) : inr (dly r s + x) ∧ inr (dly r s + y) := by
  have := dly_in h
  have h2 := h.1.2
  unfold ranges at h2
  unfold lates at hl
  unfold inr
  omega
/-- a state stays right -/
theorem step_right {r : Ru} {s : Sx} {x y : Int} (h : pright r s) (hl : lates r x y) : pright r (step r s x y) := by
  obtain ⟨d0, d1⟩ := late_in h hl
  have hlr := pright_lr h
  obtain ⟨_, _, _, _, i5, i6⟩ := inside _ _ _ _ _ _ hlr
  obtain ⟨_, _, _, e4, _⟩ := sums_are _ _ _ _ _ _ hlr
  exact ⟨h.1, ⟨nx_right h.2.1.1 d0, by rw [← h.2.1.2]; exact nx_k _ _⟩, ⟨nx_right h.2.2.1.1 d1, by rw [← h.2.2.1.2]; exact nx_k _ _⟩, i5.1, i6.1, e4⟩
/-- something comes in each round, and no more than the rate -/
theorem comes {r : Ru} {s : Sx} (h : pright r s) : 0 < (round r s).c0 + (round r s).c1 ∧ (round r s).c0 + (round r s).c1 ≤ r.r := by
  have hlr := pright_lr h
  obtain ⟨i1, i2, i3, i4, i5, i6⟩ := inside _ _ _ _ _ _ hlr
  obtain ⟨e1, e2, e3, e4, e5, e6⟩ := sums_are _ _ _ _ _ _ hlr
  have h2 := h.1.2
  have n0 := cright_n h.2.1.1
  have n1 := cright_n h.2.2.1.1
  obtain ⟨_, _, _, h5, h6, _⟩ := h
  unfold ranges at h2
  show 0 < C0 r.r s.w0 s.w1 s.f0.n s.f1.n + C1 r.r s.w0 s.w1 s.f0.n s.f1.n ∧ C0 r.r s.w0 s.w1 s.f0.n s.f1.n + C1 r.r s.w0 s.w1 s.f0.n s.f1.n ≤ r.r
  omega
/-- what waits and is sent comes, is lost, or waits then -/
theorem keeps {r : Ru} {s : Sx} (x y : Int) (h : pright r s) : s.w0 + (round r s).s0 = (round r s).c0 + (round r s).l0 + (step r s x y).w0 ∧ s.w1 + (round r s).s1 = (round r s).c1 + (round r s).l1 + (step r s x y).w1 := by
  obtain ⟨e1, e2, _⟩ := sums_are _ _ _ _ _ _ (pright_lr h)
  show s.w0 + s.f0.n = C0 r.r s.w0 s.w1 s.f0.n s.f1.n + L0 r.r r.m s.w0 s.w1 s.f0.n s.f1.n + W0 r.r r.m s.w0 s.w1 s.f0.n s.f1.n ∧ s.w1 + s.f1.n = C1 r.r s.w0 s.w1 s.f0.n s.f1.n + L1 r.r r.m s.w0 s.w1 s.f0.n s.f1.n + W1 r.r r.m s.w0 s.w1 s.f0.n s.f1.n
  omega

/-! Many rounds. -/

/-- the state behind l, and what all rounds bring -/
def steps (r : Ru) (s : Sx) : List (Int × Int) → Sx
  | [] => s
  | p :: l => steps r (step r s p.1 p.2) l
def rounds (r : Ru) (s : Sx) : List (Int × Int) → List Rx
  | [] => []
  | p :: l => round r s :: rounds r (step r s p.1 p.2) l
/-- may all be so late? -/
def allLate (r : Ru) (l : List (Int × Int)) : Prop := ∀ p ∈ l, lates r p.1 p.2
instance (r : Ru) (l : List (Int × Int)) : Decidable (allLate r l) := by unfold allLate; infer_instance
theorem steps_snoc (r : Ru) (s : Sx) (l : List (Int × Int)) (p : Int × Int) : steps r s (l ++ [p]) = step r (steps r s l) p.1 p.2 := by
  induction l generalizing s with
  | nil => rfl
  | cons q l ih => exact ih _
theorem rounds_snoc (r : Ru) (s : Sx) (l : List (Int × Int)) (p : Int × Int) : rounds r s (l ++ [p]) = rounds r s l ++ [round r (steps r s l)] := by
  induction l generalizing s with
  | nil => rfl
  | cons q l ih => exact congrArg (round r s :: ·) (ih (step r s q.1 q.2))
/-- each round brings something, and no more than the rate -/
theorem rounds_come {r : Ru} {s : Sx} {l : List (Int × Int)} (h : pright r s) (hl : allLate r l) : ∀ x ∈ rounds r s l, 0 < x.c0 + x.c1 ∧ x.c0 + x.c1 ≤ r.r := by
  induction l generalizing s with
  | nil => intro x hx; cases hx
  | cons q l ih =>
    intro x hx
    rcases List.mem_cons.1 hx with rfl | hx
    · exact comes h
    · exact ih (step_right h (hl q (by simp))) (fun p hp => hl p (by simp [hp])) x hx
/-- sums over rounds -/
def total (f : Rx → Int) : List Rx → Int
  | [] => 0
  | x :: l => f x + total f l
theorem total_snoc (f : Rx → Int) (l : List Rx) (x : Rx) : total f (l ++ [x]) = total f l + f x := by
  induction l with
  | nil => show f x + 0 = 0 + f x; omega
  | cons y l ih => show f y + total f (l ++ [x]) = f y + total f l + f x; rw [ih]; omega
/-- how great a sum of rounds can be -/
theorem rounds_in {r : Ru} {s : Sx} {l : List (Int × Int)} (h : pright r s) (hl : allLate r l) : ∀ x ∈ rounds r s l, (0 ≤ x.s0 ∧ x.s0 ≤ 100) ∧ (0 ≤ x.s1 ∧ x.s1 ≤ 100) ∧ (0 ≤ x.c0 ∧ x.c0 ≤ 100) ∧ (0 ≤ x.c1 ∧ x.c1 ≤ 100) ∧ (0 ≤ x.l0 ∧ x.l0 ≤ 100) ∧ (0 ≤ x.l1 ∧ x.l1 ≤ 100) := by
  induction l generalizing s with
  | nil => intro x hx; cases hx
  | cons q l ih =>
    intro x hx
    rcases List.mem_cons.1 hx with rfl | hx
    · obtain ⟨i1, i2, i3, i4, _, _⟩ := inside _ _ _ _ _ _ (pright_lr h)
      have n0 := cright_n h.2.1.1
      have n1 := cright_n h.2.2.1.1
      exact ⟨by show 0 ≤ s.f0.n ∧ s.f0.n ≤ 100; omega, by show 0 ≤ s.f1.n ∧ s.f1.n ≤ 100; omega, i1, i2, i3, i4⟩
    · exact ih (step_right h (hl q (by simp))) (fun p hp => hl p (by simp [hp])) x hx
end Go.Proofs.YtjageagnclmnjabGreatDoor.K

namespace Go.Proofs.YtjageagnclmnjabGreatDoor.D
set_option maxRecDepth 100000
open K
set_option linter.unusedVariables false

/-- the name of a kind -/
def nme (k : Int) : List UInt8 := if k = 1 then [118, 101, 103, 97, 115] else if k = 2 then [99, 111, 112, 97] else [108, 101, 100, 98, 97, 116]
/-- the text of rules -/
def tx (r : Ru) : List UInt8 := nme r.k0 ++ 32 :: nme r.k1 ++ 32 :: Lib.decDigits r.r.toNat ++ 32 :: Lib.decDigits r.m.toNat ++ 32 :: Lib.decDigits r.j.toNat
def dig (n : Nat) : List UInt8 := Lib.decDigits n
theorem dig_plain : ∀ n, n < 17 → ∀ c ∈ dig n, c ≠ 32 := by decide +kernel
theorem nme_plain (k : Int) : ∀ c ∈ nme k, c ≠ 32 := by
  unfold nme
  split
  · decide
  · split <;> decide
theorem tx_words {r : Ru} (h : ranges r) : wds (tx r) = [nme r.k0, nme r.k1, dig r.r.toNat, dig r.m.toNat, dig r.j.toNat] := by
  obtain ⟨h1, h2, h3⟩ := h
  show wds (nme r.k0 ++ 32 :: nme r.k1 ++ 32 :: dig r.r.toNat ++ 32 :: dig r.m.toNat ++ 32 :: dig r.j.toNat) = _
  simp only [List.append_assoc, List.cons_append]
  rw [wds_more _ _ (nme_plain _), wds_more _ _ (nme_plain _), wds_more _ _ (dig_plain _ (by omega)), wds_more _ _ (dig_plain _ (by omega)), wds_word _ (dig_plain _ (by omega))]
end Go.Proofs.YtjageagnclmnjabGreatDoor.D
