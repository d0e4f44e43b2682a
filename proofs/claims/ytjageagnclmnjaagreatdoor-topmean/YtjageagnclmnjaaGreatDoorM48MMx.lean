/- PROVED: Karp's theorem on plain numbers: the greatest that cycles weigh by the edge, by the most that walks of just so many edges weigh; where it is met, each cycle of the walk weighs so much. the greatest that cycles weigh by the edge is one; with each edge so many times as heavy, less so much, it is so many times as much, less so much; it is above nothing just if a way round weighs more than nothing. CONDITIONS: none beyond each theorem's own. -/
import Derived.Test.YtjageagnclmnjaaGreatDoorM47MMn
section
namespace Go.Proofs.YtjageagnclmnjaaGreatDoor.Q
set_option maxRecDepth 100000
set_option linter.unusedVariables false

/-- a walk of just k edges that ends at v weighs x -/
def Wk (es : List Eg) (k v : Nat) (x : Int) : Prop := ∃ u l, Path es u l v ∧ l.length = k ∧ wt l = x
/-- the most that such a walk weighs -/
structure Dm (es : List Eg) (k v : Nat) (x : Int) : Prop where
  got : Wk es k v x
  most : ∀ y, Wk es k v y → y ≤ x
theorem Dm.same {es : List Eg} {k v : Nat} {x y : Int} (h : Dm es k v x) (h' : Dm es k v y) : x = y := by
  have := h.most y h'.got
  have := h'.most x h.got
  omega
theorem dm_zero (es : List Eg) (v : Nat) : Dm es 0 v 0 := ⟨⟨v, [], rfl, rfl, rfl⟩, fun y ⟨u, l, _, h2, h3⟩ => by
  have : l = [] := List.eq_nil_of_length_eq_zero h2
  subst this
  have : (0 : Int) = y := h3
  omega⟩
/-- one edge more -/
theorem wk_succ {es : List Eg} {k v : Nat} {x : Int} : Wk es (k + 1) v x ↔ ∃ e ∈ es, e.t = v ∧ ∃ y, Wk es k e.f y ∧ x = y + e.x := by
  constructor
  · rintro ⟨u, l, h1, h2, h3⟩
    rcases List.eq_nil_or_concat l with rfl | ⟨l', e, rfl⟩
    · simp at h2
    · rw [List.concat_eq_append] at h1 h2 h3
      obtain ⟨m, q1, q2, q3, q4⟩ := path_append.1 h1
      have q4' : e.t = v := q4
      subst q3
      refine ⟨e, q2, q4', wt l', ⟨u, l', q1, by simp at h2; omega, rfl⟩, ?_⟩
      rw [wt_append] at h3
      rw [← h3]
      simp [wt]
  · rintro ⟨e, he, ht, y, ⟨u, l, h1, h2, h3⟩, rfl⟩
    refine ⟨u, l ++ [e], path_append.2 ⟨e.f, h1, he, rfl, ht⟩, by simp [h2], ?_⟩
    rw [wt_append, h3]
    simp [wt]
/-- a walk of more edges has one of fewer at its end -/
theorem wk_less {es : List Eg} {k v : Nat} {x : Int} (h : Wk es (k + 1) v x) : ∃ y, Wk es k v y := by
  obtain ⟨u, l, h1, h2, h3⟩ := h
  cases l with
  | nil => simp at h2
  | cons e l => exact ⟨wt l, e.t, l, h1.2.2, by simpa using h2, rfl⟩
theorem wk_down {es : List Eg} {j k v : Nat} {x : Int} (hj : j ≤ k) (h : Wk es k v x) : ∃ y, Wk es j v y := by
  induction k generalizing x with
  | zero => obtain rfl : j = 0 := by omega
            exact ⟨x, h⟩
  | succ k ih =>
    by_cases e : j = k + 1
    · subst e; exact ⟨x, h⟩
    · obtain ⟨y, hy⟩ := wk_less h
      exact ih (by omega) hy
/-- the most so far, by edges -/
def mx (a b : Option Int) : Option Int := match a, b with
  | none, b => b
  | a, none => a
  | some x, some y => some (max x y)
/-- the table: none, where there is no walk -/
def dk (es : List Eg) : Nat → Nat → Option Int
  | 0, _ => some 0
  | k + 1, v => es.foldl (fun acc e => if e.t = v then mx acc ((dk es k e.f).map (· + e.x)) else acc) none
theorem fold_mx {es : List Eg} (d : Nat → Option Int) (v : Nat) (acc : Option Int) :
    (∀ x, es.foldl (fun acc e => if e.t = v then mx acc ((d e.f).map (· + e.x)) else acc) acc = some x → (acc = some x ∨ ∃ e ∈ es, e.t = v ∧ ∃ y, d e.f = some y ∧ x = y + e.x) ∧ (∀ z, acc = some z → z ≤ x) ∧ ∀ e ∈ es, e.t = v → ∀ y, d e.f = some y → y + e.x ≤ x) ∧
    (es.foldl (fun acc e => if e.t = v then mx acc ((d e.f).map (· + e.x)) else acc) acc = none → acc = none ∧ ∀ e ∈ es, e.t = v → d e.f = none) := by
  induction es generalizing acc with
  | nil => exact ⟨fun x h => ⟨.inl h, fun z hz => by have h' : acc = some x := h; rw [h'] at hz; injection hz with hz; omega, fun e he => by cases he⟩, fun h => ⟨h, fun e he => by cases he⟩⟩
  | cons e es ih =>
    rw [List.foldl_cons]
    by_cases ht : e.t = v
    · rw [if_pos ht]
      obtain ⟨h1, h2⟩ := ih (mx acc ((d e.f).map (· + e.x)))
      constructor
      · intro x hx
        obtain ⟨g1, g2, g3⟩ := h1 x hx
        cases hd : d e.f with
        | none =>
          rw [hd] at g1 g2
          have em : mx acc ((none : Option Int).map (· + e.x)) = acc := by cases acc <;> rfl
          rw [em] at g1 g2
          refine ⟨?_, g2, fun e' he' ht' y hy => ?_⟩
          · rcases g1 with g1 | ⟨e', a1, a2⟩
            · exact .inl g1
            · exact .inr ⟨e', by simp [a1], a2⟩
          · rcases List.mem_cons.1 he' with rfl | he'
            · rw [hd] at hy; cases hy
            · exact g3 e' he' ht' y hy
        | some y =>
          rw [hd] at g1 g2
          cases acc with
          | none =>
            have em : mx none ((some y).map (· + e.x)) = some (y + e.x) := rfl
            rw [em] at g1 g2
            refine ⟨?_, fun z hz => (by cases hz), fun e' he' ht' y' hy' => ?_⟩
            · rcases g1 with g1 | ⟨e', a1, a2⟩
              · injection g1 with g1
                exact .inr ⟨e, by simp, ht, y, hd, g1.symm⟩
              · exact .inr ⟨e', by simp [a1], a2⟩
            · rcases List.mem_cons.1 he' with rfl | he'
              · rw [hd] at hy'; injection hy' with hy'; have := g2 _ rfl; omega
              · exact g3 e' he' ht' y' hy'
          | some c =>
            have em : mx (some c) ((some y).map (· + e.x)) = some (max c (y + e.x)) := rfl
            rw [em] at g1 g2
            have g4 := g2 _ rfl
            refine ⟨?_, fun z hz => by injection hz with hz; omega, fun e' he' ht' y' hy' => ?_⟩
            · rcases g1 with g1 | ⟨e', a1, a2⟩
              · injection g1 with g1
                by_cases hc : y + e.x ≤ c
                · left; rw [show c = x by omega]
                · exact .inr ⟨e, by simp, ht, y, hd, by omega⟩
              · exact .inr ⟨e', by simp [a1], a2⟩
            · rcases List.mem_cons.1 he' with rfl | he'
              · rw [hd] at hy'; injection hy' with hy'; omega
              · exact g3 e' he' ht' y' hy'
      · intro hn
        obtain ⟨a1, a2⟩ := h2 hn
        cases hd : d e.f with
        | none =>
          rw [hd] at a1
          refine ⟨by cases acc; (rfl); (cases a1), fun e' he' ht' => ?_⟩
          rcases List.mem_cons.1 he' with rfl | he'
          · exact hd
          · exact a2 e' he' ht'
        | some y =>
          rw [hd] at a1
          cases acc <;> cases a1
    · rw [if_neg ht]
      obtain ⟨h1, h2⟩ := ih acc
      constructor
      · intro x hx
        obtain ⟨g1, g2, g3⟩ := h1 x hx
        refine ⟨?_, g2, fun e' he' ht' y hy => ?_⟩
        · rcases g1 with g1 | ⟨e', a1, a2⟩
          · exact .inl g1
          · exact .inr ⟨e', by simp [a1], a2⟩
        · rcases List.mem_cons.1 he' with rfl | he'
          · exact absurd ht' ht
          · exact g3 e' he' ht' y hy
      · intro hn
        obtain ⟨a1, a2⟩ := h2 hn
        refine ⟨a1, fun e' he' ht' => ?_⟩
        rcases List.mem_cons.1 he' with rfl | he'
        · exact absurd ht' ht
        · exact a2 e' he' ht'
/-- what the table says -/
theorem dk_is (es : List Eg) : ∀ k v, (∀ x, dk es k v = some x → Dm es k v x) ∧ (dk es k v = none → ∀ x, ¬ Wk es k v x) := by
  intro k
  induction k with
  | zero => exact fun v => ⟨fun x h => by injection h with h; subst h; exact dm_zero es v, fun h => by cases h⟩
  | succ k ih =>
    intro v
    obtain ⟨h1, h2⟩ := fold_mx (es := es) (dk es k) v none
    refine ⟨fun x hx => ?_, fun hn x hw => ?_⟩
    · obtain ⟨g1, _, g3⟩ := h1 x hx
      constructor
      · rcases g1 with g1 | ⟨e, he, ht, y, hy, rfl⟩
        · cases g1
        · exact wk_succ.2 ⟨e, he, ht, y, ((ih e.f).1 y hy).got, rfl⟩
      · intro z hz
        obtain ⟨e, he, ht, y, hy, rfl⟩ := wk_succ.1 hz
        cases hd : dk es k e.f with
        | none => exact absurd hy ((ih e.f).2 hd y)
        | some y' =>
          have := ((ih e.f).1 y' hd).most y hy
          have := g3 e he ht y' hd
          omega
    · obtain ⟨e, he, ht, y, hy, rfl⟩ := wk_succ.1 hw
      exact (ih e.f).2 ((h2 hn).2 e he ht) y hy
theorem dk_some {es : List Eg} {k v : Nat} {x : Int} (h : Wk es k v x) : ∃ y, dk es k v = some y ∧ Dm es k v y := by
  cases hd : dk es k v with
  | none => exact absurd h ((dk_is es k v).2 hd x)
  | some y => exact ⟨y, rfl, (dk_is es k v).1 y hd⟩

/-- what a walk weighs over p through q -/
def sl (p q : Int) (l : List Eg) : Int := q * wt l - p * (l.length : Int)
theorem sl_append (p q : Int) (a b : List Eg) : sl p q (a ++ b) = sl p q a + sl p q b := by
  unfold sl
  rw [wt_append, List.length_append, Int.natCast_add, Int.mul_add, Int.mul_add]
  omega
theorem sl_cyc {es : List Eg} {p q : Int} (h : Lam es p q) {u : Nat} {l : List Eg} (hl : Path es u l u) : sl p q l ≤ 0 := by
  cases l with
  | nil => show q * 0 - p * ((0 : Nat) : Int) ≤ 0; simp
  | cons e l => have := h.most (e :: l) ⟨by simp, u, hl⟩; unfold sl; omega
/-- a walk of n edges or more among n nodes goes round -/
theorem goes_round {n : Nat} {es : List Eg} (hn : Inn n es) {u v : Nat} {l : List Eg} (h : Path es u l v) (hl : n ≤ l.length) (h0 : 0 < l.length) : ∃ a c b m, l = a ++ c ++ b ∧ c ≠ [] ∧ Path es u a m ∧ Path es m c m ∧ Path es m b v := by
  apply turns h
  intro q
  have hu : u < n := by
    cases l with
    | nil => simp at h0
    | cons e l => rw [← h.2.1]; exact (hn e h.1).1
  have := nodup_len n _ q (fun x hx => by
    rcases List.mem_cons.1 hx with rfl | hx
    · exact hu
    · exact path_in hn h x hx)
  simp at this
  omega
/-- the best walk that ends at u, of fewer than n edges -/
theorem best_at {n : Nat} {es : List Eg} (hn : Inn n es) {B : Int} (hB : 0 ≤ B) (hw : ∀ e ∈ es, e.x ≤ B) {p q : Int} (hL : Lam es p q) {u : Nat} (hu : u < n) : ∃ s l, Path es s l u ∧ l.length < n ∧ ∀ s' l', Path es s' l' u → sl p q l' ≤ sl p q l := by
  have cut : ∀ (k : Nat) (s : Nat) (l : List Eg), l.length ≤ k → Path es s l u → ∃ s' l', Path es s' l' u ∧ l'.length < n ∧ sl p q l ≤ sl p q l' := by
    intro k
    induction k with
    | zero => intro s l hl h; exact ⟨s, l, h, by omega, Int.le_refl _⟩
    | succ k ih =>
      intro s l hl h
      by_cases hs : l.length < n
      · exact ⟨s, l, h, hs, Int.le_refl _⟩
      · obtain ⟨a, c, b, m, rfl, hc, g1, g2, g3⟩ := goes_round hn h (by omega) (by omega)
        have hc1 : 0 < c.length := List.length_pos_iff.2 hc
        obtain ⟨s', l', q1, q2, q3⟩ := ih s (a ++ b) (by simp at hl ⊢; omega) (path_append.2 ⟨m, g1, g3⟩)
        refine ⟨s', l', q1, q2, ?_⟩
        have := sl_cyc hL g2
        rw [sl_append] at q3
        rw [sl_append, sl_append]
        omega
  have bnd : ∀ s l, Path es s l u → l.length < n → sl p q l ≤ (q * B + p.natAbs) * (n : Int) := fun s l h hl => by
    have q0 := hL.q1
    have h1 := wt_le hw h
    have h2 : q * wt l ≤ q * (B * (l.length : Int)) := Int.mul_le_mul_of_nonneg_left h1 (Int.le_of_lt q0)
    have h3 : -p * (l.length : Int) ≤ p.natAbs * (l.length : Int) := Int.mul_le_mul_of_nonneg_right (by omega) (by omega)
    have h4 : (q * B + p.natAbs) * (l.length : Int) ≤ (q * B + p.natAbs) * (n : Int) := Int.mul_le_mul_of_nonneg_left (by omega) (by have := Int.mul_nonneg (Int.le_of_lt q0) hB; omega)
    unfold sl
    rw [Int.neg_mul] at h3
    rw [Int.add_mul, Int.mul_assoc] at h4
    omega
  obtain ⟨m, ⟨s, l, g1, g2, g3⟩, hm⟩ := int_max (fun x => ∃ s l, Path es s l u ∧ l.length < n ∧ sl p q l = x) _ (fun x ⟨s, l, h1, h2, h3⟩ => by rw [← h3]; exact bnd s l h1 h2) (sl p q []) ⟨u, [], rfl, by simp; omega, rfl⟩
  refine ⟨s, l, g1, g2, fun s' l' h => ?_⟩
  obtain ⟨s2, l2, h1, h2, h3⟩ := cut _ s' l' (Nat.le_refl _) h
  have := hm _ ⟨s2, l2, h1, h2, rfl⟩
  omega

/-- so many edges further along a way round -/
theorem further {es : List Eg} {u : Nat} {c : List Eg} (hc : c ≠ []) (h : Path es u c u) : ∀ k : Nat, ∃ v g r, Path es u g v ∧ g.length = k ∧ Path es v r u ∧ ∃ j : Nat, wt g + wt r = j * wt c ∧ g.length + r.length = j * c.length := by
  intro k
  induction k with
  | zero => exact ⟨u, [], [], rfl, rfl, rfl, 0, by simp [wt], by simp⟩
  | succ k ih =>
    obtain ⟨v, g, r, h1, h2, h3, j, h4, h5⟩ := ih
    cases r with
    | nil =>
      have hv : v = u := h3
      subst hv
      cases c with
      | nil => exact absurd rfl hc
      | cons e c =>
        obtain ⟨a1, a2, a3⟩ := h
        refine ⟨e.t, g ++ [e], c, path_append.2 ⟨v, h1, a1, a2, rfl⟩, by simp [h2], a3, j + 1, ?_, ?_⟩
        · rw [wt_append]
          simp only [wt] at h4 ⊢
          rw [Int.natCast_add, Int.add_mul]
          simp only [Int.natCast_one, Int.one_mul]
          omega
        · simp only [List.length_append, List.length_cons, List.length_nil] at h5 ⊢
          rw [Nat.add_mul]
          omega
    | cons e r =>
      obtain ⟨a1, a2, a3⟩ := h3
      refine ⟨e.t, g ++ [e], r, path_append.2 ⟨v, h1, a1, a2, rfl⟩, by simp [h2], a3, j, ?_, ?_⟩
      · rw [wt_append]
        simp only [wt] at h4 ⊢
        omega
      · simp only [List.length_append, List.length_cons, List.length_nil] at h5 ⊢
        omega
/-- KARP, THE OTHER HALF: at some node each quotient is no less -/
theorem karp_ge {n : Nat} {es : List Eg} (hn : Inn n es) {B : Int} (hB : 0 ≤ B) (hw : ∀ e ∈ es, e.x ≤ B) {p q : Int} (hL : Lam es p q) : ∃ v x, v < n ∧ Dm es n v x ∧ ∀ k y, k ≤ n → Dm es k v y → p * ((n : Int) - (k : Int)) ≤ q * (x - y) := by
  obtain ⟨c, ⟨hc, u, hu⟩, he⟩ := hL.got
  have hun : u < n := by
    cases c with
    | nil => exact absurd rfl hc
    | cons e c => rw [← hu.2.1]; exact (hn e hu.1).1
  obtain ⟨s, l, h1, h2, h3⟩ := best_at hn hB hw hL hun
  obtain ⟨v, g, r, g1, g2, g3, j, g4, g5⟩ := further hc hu (n - l.length)
  have hzero : sl p q g + sl p q r = 0 := by
    have : sl p q g + sl p q r = (j : Int) * (q * wt c - p * (c.length : Int)) := by
      unfold sl
      have e1 : q * wt g + q * wt r = (j : Int) * (q * wt c) := by rw [← Int.mul_add, g4]; ac_rfl
      have e2 : p * (g.length : Int) + p * (r.length : Int) = (j : Int) * (p * (c.length : Int)) := by
        rw [← Int.mul_add, ← Int.natCast_add, g5, Int.natCast_mul]; ac_rfl
      rw [Int.mul_sub]
      omega
    rw [this, he, Int.sub_self, Int.mul_zero]
  have best : ∀ s' l', Path es s' l' v → sl p q l' ≤ sl p q l + sl p q g := fun s' l' h => by
    have := h3 s' (l' ++ r) (path_append.2 ⟨v, h, g3⟩)
    rw [sl_append] at this
    omega
  have hwk : Wk es n v (wt (l ++ g)) := ⟨s, l ++ g, path_append.2 ⟨u, h1, g1⟩, by simp; omega, rfl⟩
  obtain ⟨x, _, hx⟩ := dk_some hwk
  have hvn : v < n := by
    rcases List.eq_nil_or_concat (l ++ g) with e | ⟨l', e, e2⟩
    · have : (l ++ g).length = n := by simp; omega
      rw [e] at this; simp at this; omega
    · have hp := path_append.2 ⟨u, h1, g1⟩
      rw [e2, List.concat_eq_append] at hp
      obtain ⟨m, _, q2, q3, q4⟩ := path_append.1 hp
      have q4' : e.t = v := q4
      rw [← q4']; exact (hn e q2).2
  refine ⟨v, x, hvn, hx, fun k y hk hy => ?_⟩
  obtain ⟨s', l', a1, a2, a3⟩ := hy.got
  have b1 := best s' l' a1
  have b2 := hx.most _ hwk
  have b3 : q * wt (l ++ g) ≤ q * x := Int.mul_le_mul_of_nonneg_left b2 (Int.le_of_lt hL.q1)
  have b4 : sl p q (l ++ g) = sl p q l + sl p q g := sl_append p q l g
  have b5 : (l ++ g).length = n := by simp; omega
  unfold sl at b1 b4
  rw [b5] at b4
  rw [a2, a3] at b1
  rw [Int.mul_sub, Int.mul_sub]
  omega
/-- where each quotient is no less, each way round of the walk weighs just so much -/
theorem karp_cycle {n : Nat} {es : List Eg} {p q : Int} (hL : Lam es p q) {v : Nat} {x : Int} (hx : Dm es n v x) (hge : ∀ k y, k ≤ n → Dm es k v y → p * ((n : Int) - (k : Int)) ≤ q * (x - y)) {u m : Nat} {a c b : List Eg} (h1 : Path es u a m) (h2 : Path es m c m) (h3 : Path es m b v) (hl : (a ++ c ++ b).length = n) (hwt : wt (a ++ c ++ b) = x) (hc : c ≠ []) : q * wt c = p * (c.length : Int) := by
  have h4 := sl_cyc hL h2
  simp only [List.length_append] at hl
  have hwk : Wk es (a.length + b.length) v (wt (a ++ b)) := ⟨u, a ++ b, path_append.2 ⟨m, h1, h3⟩, by simp, rfl⟩
  obtain ⟨y, _, hy⟩ := dk_some hwk
  have h5 := hge _ y (by omega) hy
  have h6 := hy.most _ hwk
  have h7 : (n : Int) - ((a.length + b.length : Nat) : Int) = (c.length : Int) := by omega
  rw [h7] at h5
  have h8 : x = wt (a ++ b) + wt c := by rw [← hwt, wt_append, wt_append, wt_append]; omega
  have h9 : q * (x - y) ≤ q * wt c := Int.mul_le_mul_of_nonneg_left (by omega) (Int.le_of_lt hL.q1)
  unfold sl at h4
  omega

end Go.Proofs.YtjageagnclmnjaaGreatDoor.Q

end

section
namespace Go.Proofs.YtjageagnclmnjaaGreatDoor.Q
set_option maxRecDepth 100000
set_option linter.unusedVariables false

theorem sc_one (es : List Eg) : sc es 0 1 = es := by
  unfold sc
  conv => rhs; rw [← List.map_id es]
  refine List.map_congr_left fun e _ => ?_
  simp
/-- above nothing, just if a way round weighs more than nothing -/
theorem lam_sign {es : List Eg} {p q : Int} (h : Lam es p q) : ¬ noPos es ↔ 0 < p := by
  have h1 := abv_sc es 0 1
  rw [sc_one] at h1
  rw [← h1, abv_iff h (by omega)]
  omega
/-- the sign of a quotient -/
theorem low_sign {P Q p : Int} {q : Nat} (hQ : 0 < Q) (hq : 1 ≤ q) (e : P * (q : Int) = p * Q) : 0 < P ↔ 0 < p := by
  constructor
  · intro h
    refine lt_of_mul hQ ?_
    rw [Int.zero_mul, ← e]
    exact Int.mul_pos h (by omega)
  · intro h
    refine lt_of_mul (c := (q : Int)) (by omega) ?_
    rw [Int.zero_mul, e]
    exact Int.mul_pos h hQ

end Go.Proofs.YtjageagnclmnjaaGreatDoor.Q

end
