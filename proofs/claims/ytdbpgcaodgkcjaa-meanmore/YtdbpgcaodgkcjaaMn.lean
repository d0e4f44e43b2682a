/- PROVED: what cycles weigh by the edge, on plain numbers: the greatest there is, when some cycle is above a quotient, the least of all quotients that none is above, lowest terms. CONDITIONS: none beyond each theorem's own. -/
import Derived.Test.YtdbpgcaodgkcjaaCl
namespace Go.Proofs.Ytdbpgcaodgkcjaa
set_option linter.unusedVariables false

/-- a way round -/
def Cyc (es l : List Eg) : Prop := l ≠ [] ∧ ∃ u, Path es u l u
theorem Cyc.len {es l : List Eg} (h : Cyc es l) : 0 < l.length := List.length_pos_iff.2 h.1
/-- p through q is the most that a way round weighs by the edge -/
structure Lam (es : List Eg) (p q : Int) : Prop where
  q1 : 0 < q
  got : ∃ l, Cyc es l ∧ q * wt l = p * (l.length : Int)
  most : ∀ l, Cyc es l → q * wt l ≤ p * (l.length : Int)

/-- numbers that are bounded have a greatest one -/
theorem int_max (Q : Int → Prop) (B : Int) (hB : ∀ x, Q x → x ≤ B) (x0 : Int) (h : Q x0) : ∃ m, Q m ∧ ∀ x, Q x → x ≤ m := by
  have go : ∀ (n : Nat) (x0 : Int), Q x0 → (B - x0).toNat ≤ n → ∃ m, Q m ∧ ∀ x, Q x → x ≤ m := by
    intro n
    induction n with
    | zero =>
      intro x0 h hn
      exact ⟨x0, h, fun x hx => by have := hB x hx; have := hB x0 h; omega⟩
    | succ n ih =>
      intro x0 h hn
      by_cases hx : ∃ x, Q x ∧ x0 < x
      · obtain ⟨x, h1, h2⟩ := hx
        exact ih x h1 (by have := hB x h1; omega)
      · exact ⟨x0, h, fun x hx2 => Classical.byContradiction fun q => hx ⟨x, hx2, by omega⟩⟩
  exact go _ x0 h (Nat.le_refl _)
theorem wt_le {es : List Eg} {B : Int} (hw : ∀ e ∈ es, e.x ≤ B) {u v : Nat} {l : List Eg} (h : Path es u l v) : wt l ≤ B * (l.length : Int) := by
  induction l generalizing u with
  | nil => show (0 : Int) ≤ B * ((0 : Nat) : Int); simp
  | cons e l ih =>
    obtain ⟨h1, _, h3⟩ := h
    have := ih h3
    have := hw e h1
    simp only [wt, List.length_cons, Int.natCast_add, Int.mul_add, Int.natCast_one, Int.mul_one]
    omega
theorem wt_ge {es : List Eg} {B : Int} (hw : ∀ e ∈ es, B ≤ e.x) {u v : Nat} {l : List Eg} (h : Path es u l v) : B * (l.length : Int) ≤ wt l := by
  induction l generalizing u with
  | nil => show B * ((0 : Nat) : Int) ≤ 0; simp
  | cons e l ih =>
    obtain ⟨h1, _, h3⟩ := h
    have := ih h3
    have := hw e h1
    simp only [wt, List.length_cons, Int.natCast_add, Int.mul_add, Int.natCast_one, Int.mul_one]
    omega
theorem mul_le_pos {a b c : Int} (h : a ≤ b) (hc : 0 ≤ c) : a * c ≤ b * c := Int.mul_le_mul_of_nonneg_right h hc
theorem le_of_mul {a b c : Int} (hc : 0 < c) (h : a * c ≤ b * c) : a ≤ b := Int.le_of_mul_le_mul_right h hc
theorem lt_of_mul {a b c : Int} (hc : 0 < c) (h : a * c < b * c) : a < b := Int.lt_of_mul_lt_mul_right h (Int.le_of_lt hc)
theorem mul_lt_pos {a b c : Int} (h : a < b) (hc : 0 < c) : a * c < b * c := Int.mul_lt_mul_of_pos_right h hc

/-- of ways round of so few edges one weighs most by the edge -/
theorem best_upto {es : List Eg} {B : Int} (hw : ∀ e ∈ es, e.x ≤ B) : ∀ k : Nat, (∃ l, Cyc es l ∧ l.length ≤ k) → ∃ (p : Int) (q : Nat), 1 ≤ q ∧ q ≤ k ∧ (∃ l, Cyc es l ∧ l.length = q ∧ wt l = p) ∧ ∀ l, Cyc es l → l.length ≤ k → (q : Int) * wt l ≤ p * (l.length : Int) := by
  intro k
  induction k with
  | zero => rintro ⟨l, h1, h2⟩; have := h1.len; omega
  | succ k ih =>
    rintro ⟨l0, h1, h2⟩
    have top : (∃ l, Cyc es l ∧ l.length = k + 1) → ∃ c, (∃ l, Cyc es l ∧ l.length = k + 1 ∧ wt l = c) ∧ ∀ l, Cyc es l → l.length = k + 1 → wt l ≤ c := fun ⟨l, hl, hk⟩ => by
      obtain ⟨c, hc, hm⟩ := int_max (fun x => ∃ l, Cyc es l ∧ l.length = k + 1 ∧ wt l = x) (B * ((k + 1 : Nat) : Int)) (fun x ⟨l, h1, h2, h3⟩ => by
        obtain ⟨u, hu⟩ := h1.2
        have := wt_le hw hu
        rw [h2, h3] at this
        exact this) (wt l) ⟨l, hl, hk, rfl⟩
      exact ⟨c, hc, fun l h1 h2 => hm _ ⟨l, h1, h2, rfl⟩⟩
    by_cases hlow : ∃ l, Cyc es l ∧ l.length ≤ k
    · obtain ⟨p, q, q1, qk, hg, hm⟩ := ih hlow
      by_cases htop : ∃ l, Cyc es l ∧ l.length = k + 1
      · obtain ⟨c, hc, hcm⟩ := top htop
        by_cases hcmp : c * (q : Int) ≤ p * ((k + 1 : Nat) : Int)
        · refine ⟨p, q, q1, by omega, hg, fun l hl hlk => ?_⟩
          by_cases hk : l.length ≤ k
          · exact hm l hl hk
          · have e : l.length = k + 1 := by omega
            rw [e]
            have := mul_le_pos (hcm l hl e) (show (0 : Int) ≤ q by omega)
            rw [Int.mul_comm (q : Int)]
            omega
        · refine ⟨c, k + 1, by omega, by omega, hc, fun l hl hlk => ?_⟩
          by_cases hk : l.length ≤ k
          · have h3 := hm l hl hk
            refine le_of_mul (c := (q : Int)) (by omega) ?_
            have h4 := mul_le_pos h3 (show (0 : Int) ≤ ((k + 1 : Nat) : Int) by omega)
            have h5 := mul_le_pos (show p * ((k + 1 : Nat) : Int) ≤ c * (q : Int) by omega) (show (0 : Int) ≤ (l.length : Int) by omega)
            calc ((k + 1 : Nat) : Int) * wt l * (q : Int) = (q : Int) * wt l * ((k + 1 : Nat) : Int) := by ac_rfl
              _ ≤ p * (l.length : Int) * ((k + 1 : Nat) : Int) := h4
              _ = p * ((k + 1 : Nat) : Int) * (l.length : Int) := by rw [Int.mul_assoc, Int.mul_comm (l.length : Int), ← Int.mul_assoc]
              _ ≤ c * (q : Int) * (l.length : Int) := h5
              _ = c * (l.length : Int) * (q : Int) := by rw [Int.mul_assoc, Int.mul_comm (q : Int), ← Int.mul_assoc]
          · have e : l.length = k + 1 := by omega
            rw [e]
            have := mul_le_pos (hcm l hl e) (show (0 : Int) ≤ ((k + 1 : Nat) : Int) by omega)
            rw [Int.mul_comm]
            exact this
      · refine ⟨p, q, q1, by omega, hg, fun l hl hlk => hm l hl ?_⟩
        rcases Nat.lt_or_ge k l.length with h | h
        · exact absurd ⟨l, hl, by omega⟩ htop
        · exact h
    · have e0 : l0.length = k + 1 := by
        rcases Nat.lt_or_ge k l0.length with h | h
        · omega
        · exact absurd ⟨l0, h1, h⟩ hlow
      obtain ⟨c, hc, hcm⟩ := top ⟨l0, h1, e0⟩
      refine ⟨c, k + 1, by omega, by omega, hc, fun l hl hlk => ?_⟩
      have e : l.length = k + 1 := by
        rcases Nat.lt_or_ge k l.length with h | h
        · omega
        · exact absurd ⟨l, hl, h⟩ hlow
      rw [e]
      have := mul_le_pos (hcm l hl e) (show (0 : Int) ≤ ((k + 1 : Nat) : Int) by omega)
      rw [Int.mul_comm]
      exact this

/-- a long way round falls into two shorter ones -/
theorem part {n : Nat} {es : List Eg} (hn : Inn n es) {l : List Eg} (h : Cyc es l) (hl : n < l.length) : ∃ c r, Cyc es c ∧ Cyc es r ∧ c.length < l.length ∧ r.length < l.length ∧ c.length + r.length = l.length ∧ wt l = wt c + wt r := by
  obtain ⟨h0, u, hu⟩ := h
  cases l with
  | nil => exact absurd rfl h0
  | cons e l =>
    have hin := path_in hn hu
    obtain ⟨h1, h2, h3⟩ := hu
    have hd : ¬ (e.t :: l.map (·.t)).Nodup := fun q => by
      have := nodup_len n _ q hin
      simp at this hl
      omega
    obtain ⟨a, c, b, m, rfl, hc, g1, g2, g3⟩ := turns h3 hd
    have hc1 : 0 < c.length := List.length_pos_iff.2 hc
    refine ⟨c, e :: (a ++ b), ⟨hc, m, g2⟩, ⟨by simp, u, h1, h2, path_append.2 ⟨m, g1, g3⟩⟩, ?_, ?_, ?_, ?_⟩
    · simp; omega
    · simp; omega
    · simp; omega
    · simp only [wt, wt_append]; omega
theorem Cyc.short {n : Nat} {es : List Eg} (hn : Inn n es) : ∀ (k : Nat) (l : List Eg), l.length ≤ k → Cyc es l → ∃ l, Cyc es l ∧ l.length ≤ n := by
  intro k
  induction k with
  | zero => intro l hl h; have := h.len; omega
  | succ k ih =>
    intro l hl h
    by_cases hs : l.length ≤ n
    · exact ⟨l, h, hs⟩
    · obtain ⟨c, r, h1, _, h3, _⟩ := part hn h (by omega)
      exact ih c (by omega) h1
theorem all_of_short {n : Nat} {es : List Eg} (hn : Inn n es) {p q : Int} (h : ∀ l, Cyc es l → l.length ≤ n → q * wt l ≤ p * (l.length : Int)) : ∀ (k : Nat) (l : List Eg), l.length ≤ k → Cyc es l → q * wt l ≤ p * (l.length : Int) := by
  intro k
  induction k with
  | zero => intro l hl hc; have := hc.len; omega
  | succ k ih =>
    intro l hl hc
    by_cases hs : l.length ≤ n
    · exact h l hc hs
    · obtain ⟨c, r, h1, h2, h3, h4, h5, h6⟩ := part hn hc (by omega)
      have a := ih c (by omega) h1
      have b := ih r (by omega) h2
      rw [h6, ← h5, Int.mul_add, Int.natCast_add, Int.mul_add]
      omega
/-- THE GREATEST THERE IS: where there is a way round -/
theorem lam_some {n : Nat} {es : List Eg} (hn : Inn n es) {B : Int} (hw : ∀ e ∈ es, e.x ≤ B) (h : ∃ l, Cyc es l) : ∃ (p : Int) (q : Nat), 1 ≤ q ∧ q ≤ n ∧ (∃ l, Cyc es l ∧ l.length = q ∧ wt l = p) ∧ Lam es p q := by
  obtain ⟨l, hl⟩ := h
  obtain ⟨p, q, q1, qn, hg, hm⟩ := best_upto hw n (Cyc.short hn _ l (Nat.le_refl _) hl)
  refine ⟨p, q, q1, qn, hg, by omega, ?_, fun l hl => all_of_short hn hm _ l (Nat.le_refl _) hl⟩
  obtain ⟨l, h1, h2, h3⟩ := hg
  exact ⟨l, h1, by rw [h2, h3, Int.mul_comm]⟩

/-- some way round weighs more by the edge than a through b -/
def Abv (es : List Eg) (a b : Int) : Prop := ∃ l, Cyc es l ∧ a * (l.length : Int) < b * wt l
theorem abv_iff {es : List Eg} {p q : Int} (h : Lam es p q) {a b : Int} (hb : 0 < b) : Abv es a b ↔ a * q < b * p := by
  constructor
  · rintro ⟨l, hl, hlt⟩
    have hlen : (0 : Int) < (l.length : Int) := by have := hl.len; omega
    refine lt_of_mul hlen ?_
    have h1 := mul_lt_pos hlt h.q1
    have h2 := mul_le_pos (h.most l hl) (Int.le_of_lt hb)
    calc a * q * (l.length : Int) = a * (l.length : Int) * q := by rw [Int.mul_assoc, Int.mul_comm q, ← Int.mul_assoc]
      _ < b * wt l * q := h1
      _ = q * wt l * b := by rw [Int.mul_comm (b * wt l), Int.mul_comm b, Int.mul_assoc]
      _ ≤ p * (l.length : Int) * b := h2
      _ = b * p * (l.length : Int) := by rw [Int.mul_comm (p * (l.length : Int)), Int.mul_assoc]
  · intro hlt
    obtain ⟨l, hl, he⟩ := h.got
    have hlen : (0 : Int) < (l.length : Int) := by have := hl.len; omega
    refine ⟨l, hl, lt_of_mul h.q1 ?_⟩
    have h1 := mul_lt_pos hlt hlen
    calc a * (l.length : Int) * q = a * q * (l.length : Int) := by rw [Int.mul_assoc, Int.mul_comm (l.length : Int), ← Int.mul_assoc]
      _ < b * p * (l.length : Int) := h1
      _ = p * (l.length : Int) * b := by rw [Int.mul_comm b, Int.mul_assoc, Int.mul_comm b, ← Int.mul_assoc]
      _ = q * wt l * b := by rw [he]
      _ = b * wt l * q := by rw [Int.mul_comm (q * wt l), ← Int.mul_assoc, Int.mul_comm (b * q), ← Int.mul_assoc, Int.mul_comm (wt l)]
/-- each edge b times as heavy, less a -/
def sc (es : List Eg) (a b : Int) : List Eg := es.map fun e => ⟨e.f, e.t, e.x * b - a⟩
theorem wt_sc (l : List Eg) (a b : Int) : wt (sc l a b) = b * wt l - a * (l.length : Int) := by
  unfold sc
  induction l with
  | nil => show (0 : Int) = b * 0 - a * ((0 : Nat) : Int); simp
  | cons e l ih =>
    simp only [List.map_cons, wt, ih, List.length_cons, Int.natCast_add, Int.mul_add, Int.natCast_one, Int.mul_one]
    rw [Int.mul_comm e.x b]
    omega
theorem sc_push {es : List Eg} (a b : Int) {u v : Nat} {l : List Eg} (h : Path es u l v) : Path (sc es a b) u (sc l a b) v := by
  induction l generalizing u with
  | nil => exact h
  | cons e l ih => obtain ⟨h1, h2, h3⟩ := h; exact ⟨List.mem_map.2 ⟨e, h1, rfl⟩, h2, ih h3⟩
theorem sc_pull {es : List Eg} (a b : Int) {u v : Nat} {l : List Eg} (h : Path (sc es a b) u l v) : ∃ l', Path es u l' v ∧ l = sc l' a b := by
  induction l generalizing u with
  | nil => exact ⟨[], h, rfl⟩
  | cons e l ih =>
    obtain ⟨h1, h2, h3⟩ := h
    obtain ⟨d, hd, rfl⟩ := List.mem_map.1 h1
    obtain ⟨l', q1, rfl⟩ := ih h3
    exact ⟨d :: l', ⟨hd, h2, q1⟩, rfl⟩
theorem abv_sc (es : List Eg) (a b : Int) : Abv es a b ↔ ¬ noPos (sc es a b) := by
  constructor
  · rintro ⟨l, ⟨_, u, hu⟩, hlt⟩ q
    have := q u _ (sc_push a b hu)
    rw [wt_sc] at this
    omega
  · intro h
    apply Classical.byContradiction
    intro q
    refine h fun u l hl => Classical.byContradiction fun hw => q ?_
    obtain ⟨l', h1, rfl⟩ := sc_pull a b hl
    rw [wt_sc] at hw
    refine ⟨l', ⟨fun e => ?_, u, h1⟩, by omega⟩
    subst e
    simp [wt] at hw
theorem sc_inn {n : Nat} {es : List Eg} (h : Inn n es) (a b : Int) : Inn n (sc es a b) := fun e he => by
  obtain ⟨d, hd, rfl⟩ := List.mem_map.1 he
  exact h d hd
theorem sc_len (es : List Eg) (a b : Int) : (sc es a b).length = es.length := by simp [sc]
/-- below the least weight: is there a way round at all? -/
theorem abv_least {es : List Eg} (hw : Wgt es) : Abv es (-1048577) 1 ↔ ∃ l, Cyc es l := by
  constructor
  · rintro ⟨l, hl, _⟩; exact ⟨l, hl⟩
  · rintro ⟨l, hl⟩
    obtain ⟨u, hu⟩ := hl.2
    have := wt_ge (fun e he => (hw e he).1) hu
    have := hl.len
    exact ⟨l, hl, by omega⟩

/-- what is the least of quotients behind b of them: N through D, not below p through q -/
structure Lst (p : Int) (q : Nat) (b : Nat) (N D : Int) : Prop where
  none : b = 0 → D = 0
  pos : 1 ≤ b → 1 ≤ D ∧ D ≤ b
  ge : p * D ≤ N * (q : Int)
  eq : q ≤ b → N * (q : Int) = p * D
theorem Lst.start (p : Int) (q : Nat) (hq : 1 ≤ q) : Lst p q 0 0 0 := ⟨fun _ => rfl, fun h => by omega, by simp, fun h => by omega⟩
theorem Lst.take {p : Int} {q : Nat} {b : Nat} {N D hi : Int} (h : Lst p q b N D) (hq : 1 ≤ q) (h1 : (hi - 1) * (q : Int) < ((b : Int) + 1) * p) (h2 : ((b : Int) + 1) * p ≤ hi * (q : Int)) (ht : D = 0 ∨ hi * D < N * ((b : Int) + 1)) : Lst p q (b + 1) hi ((b : Int) + 1) := by
  refine ⟨fun h => by omega, fun _ => by omega, by rw [Int.mul_comm]; exact h2, fun hqb => ?_⟩
  have hq0 : (0 : Int) < (q : Int) := by omega
  rcases Nat.lt_or_ge b q with hbq | hbq
  · have e : ((b : Int) + 1) = (q : Int) := by omega
    rw [e] at h1 h2 ⊢
    rw [Int.mul_comm (q : Int) p] at h1 h2
    have := lt_of_mul hq0 h1
    have := le_of_mul hq0 h2
    have e2 : hi = p := by omega
    rw [e2]
  · have hD := h.pos (by omega)
    have hE := h.eq hbq
    rcases ht with ht | ht
    · omega
    · exfalso
      have a1 := mul_lt_pos ht hq0
      have a2 := mul_le_pos h2 (show (0 : Int) ≤ D by omega)
      have e1 : N * ((b : Int) + 1) * (q : Int) = ((b : Int) + 1) * p * D := by
        rw [Int.mul_assoc, Int.mul_comm ((b : Int) + 1) (q : Int), ← Int.mul_assoc, hE, Int.mul_comm (p * D), Int.mul_assoc]
      have e2 : hi * D * (q : Int) = hi * (q : Int) * D := by rw [Int.mul_assoc, Int.mul_comm D, ← Int.mul_assoc]
      omega
theorem Lst.keep {p : Int} {q : Nat} {b : Nat} {N D hi : Int} (h : Lst p q b N D) (hq : 1 ≤ q) (h1 : (hi - 1) * (q : Int) < ((b : Int) + 1) * p) (h2 : ((b : Int) + 1) * p ≤ hi * (q : Int)) (hD : D ≠ 0) (ht : ¬ hi * D < N * ((b : Int) + 1)) : Lst p q (b + 1) N D := by
  have hb : 1 ≤ b := Nat.pos_of_ne_zero fun e => hD (h.none e)
  refine ⟨fun h => by omega, fun _ => by have := h.pos hb; omega, h.ge, fun hqb => ?_⟩
  rcases Nat.lt_or_ge b q with hbq | hbq
  · have hq0 : (0 : Int) < (q : Int) := by omega
    have e : ((b : Int) + 1) = (q : Int) := by omega
    rw [e] at h1 h2 ht
    rw [Int.mul_comm (q : Int) p] at h1 h2
    have := lt_of_mul hq0 h1
    have := le_of_mul hq0 h2
    have e2 : hi = p := by omega
    rw [e2] at ht
    have := h.ge
    omega
  · exact h.eq hbq

/-- lowest terms -/
def Low (P Q : Int) : Prop := 0 < Q ∧ Int.gcd P Q = 1
theorem low_same {P Q P' Q' : Int} (h : Low P Q) (h' : Low P' Q') (e : P * Q' = P' * Q) : P = P' ∧ Q = Q' := by
  obtain ⟨q0, hg⟩ := h
  obtain ⟨q0', hg'⟩ := h'
  have hn : P.natAbs * Q'.natAbs = P'.natAbs * Q.natAbs := by rw [← Int.natAbs_mul, ← Int.natAbs_mul, e]
  have d1 : Q.natAbs ∣ Q'.natAbs := (Nat.Coprime.dvd_of_dvd_mul_left (k := Q.natAbs) (m := P.natAbs) (n := Q'.natAbs) (by rw [Nat.coprime_comm]; exact hg) ⟨P'.natAbs, by rw [hn, Nat.mul_comm]⟩)
  have d2 : Q'.natAbs ∣ Q.natAbs := (Nat.Coprime.dvd_of_dvd_mul_left (k := Q'.natAbs) (m := P'.natAbs) (n := Q.natAbs) (by rw [Nat.coprime_comm]; exact hg') ⟨P.natAbs, by rw [← hn, Nat.mul_comm]⟩)
  have e2 : Q = Q' := by have := Nat.dvd_antisymm d1 d2; omega
  subst e2
  exact ⟨Int.eq_of_mul_eq_mul_right (by omega) e, rfl⟩
theorem low_of (a b : Int) (hb : 0 < b) : Low (a.tdiv (Int.gcd a b : Int)) (b.tdiv (Int.gcd a b : Int)) ∧ a.tdiv (Int.gcd a b : Int) * b = a * b.tdiv (Int.gcd a b : Int) := by
  have g0 : 0 < Int.gcd a b := Int.gcd_pos_of_ne_zero_right a (by omega)
  have ga : ((Int.gcd a b : Nat) : Int) ∣ a := Int.gcd_dvd_left a b
  have gb : ((Int.gcd a b : Nat) : Int) ∣ b := Int.gcd_dvd_right a b
  obtain ⟨x, hx⟩ := ga
  obtain ⟨y, hy⟩ := gb
  obtain ⟨g, hg⟩ : ∃ g, Int.gcd a b = g := ⟨_, rfl⟩
  rw [hg] at hx hy g0 ⊢
  have gi : ((g : Nat) : Int) ≠ 0 := by omega
  have ex : a.tdiv (g : Int) = x := by rw [hx]; exact Int.mul_tdiv_cancel_left x gi
  have ey : b.tdiv (g : Int) = y := by rw [hy]; exact Int.mul_tdiv_cancel_left y gi
  rw [ex, ey]
  refine ⟨⟨?_, ?_⟩, ?_⟩
  · have : (0 : Int) < (g : Int) * y := by rw [← hy]; exact hb
    exact lt_of_mul (c := (g : Int)) (by omega) (by rw [Int.zero_mul, Int.mul_comm]; exact this)
  · have : g * Int.gcd x y = g := by
      have h := Int.gcd_mul_left (g : Int) x y
      rw [← hx, ← hy, hg] at h
      simpa using h.symm
    exact Nat.eq_of_mul_eq_mul_left g0 (by rw [this, Nat.mul_one])
  · rw [hx, hy, ← Int.mul_assoc, Int.mul_comm x (g : Int)]

end Go.Proofs.Ytdbpgcaodgkcjaa
