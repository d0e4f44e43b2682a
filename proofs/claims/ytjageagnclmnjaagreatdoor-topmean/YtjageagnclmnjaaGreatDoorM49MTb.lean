/- PROVED: the table of the heaviest walks on plain numbers, with last edges; the way back along them; a node whose least slope is the greatest, and that each way round on its longest walk weighs just the greatest by the edge. CONDITIONS: none beyond each theorem's own. -/
import Derived.Test.YtjageagnclmnjaaGreatDoorM48MMx
namespace Go.Proofs.YtjageagnclmnjaaGreatDoor.Q
set_option maxRecDepth 100000
set_option linter.unusedVariables false

/-- one entry of the next row: what was found, one edge more -/
def tke (d : Nat → Option (Int × Nat)) (i : Nat) (e : Eg) (v : Nat) (acc : Option (Int × Nat)) : Option (Int × Nat) :=
  if e.t = v then match d e.f, acc with
    | none, acc => acc
    | some y, none => some (y.1 + e.x, i)
    | some y, some z => if z.1 < y.1 + e.x then some (y.1 + e.x, i) else some z
  else acc
/-- the next row behind i edges -/
def lr (es : List Eg) (d : Nat → Option (Int × Nat)) : Nat → Nat → Option (Int × Nat)
  | 0, _ => none
  | i + 1, v => tke d i (eg es i) v (lr es d i v)
/-- the rows -/
def tb (es : List Eg) : Nat → Nat → Option (Int × Nat)
  | 0, _ => some (0, 0)
  | k + 1, v => lr es (tb es k) es.length v
/-- as they lie in memory -/
def wv : Option (Int × Nat) → Int
  | none => -1152921504606846976
  | some y => y.1
def lv : Option (Int × Nat) → Int
  | none => 0
  | some y => (y.2 : Int)

theorem lr_is (es : List Eg) (d : Nat → Option (Int × Nat)) (i v : Nat) :
    (∀ x j, lr es d i v = some (x, j) → (j < i ∧ (eg es j).t = v ∧ ∃ y, d (eg es j).f = some y ∧ x = y.1 + (eg es j).x) ∧ ∀ j', j' < i → (eg es j').t = v → ∀ y, d (eg es j').f = some y → y.1 + (eg es j').x ≤ x) ∧
    (lr es d i v = none → ∀ j', j' < i → (eg es j').t = v → d (eg es j').f = none) := by
  induction i with
  | zero => exact ⟨fun x j h => (by cases h), fun _ j' h => by omega⟩
  | succ i ih =>
    obtain ⟨h1, h2⟩ := ih
    show (∀ x j, tke d i (eg es i) v (lr es d i v) = some (x, j) → _) ∧ (tke d i (eg es i) v (lr es d i v) = none → _)
    unfold tke
    by_cases ht : (eg es i).t = v
    · rw [if_pos ht]
      cases hd : d (eg es i).f with
      | none =>
        refine ⟨fun x j h => ?_, fun h j' hj' ht' => ?_⟩
        · obtain ⟨⟨g1, g2, g3⟩, g4⟩ := h1 x j h
          refine ⟨⟨by omega, g2, g3⟩, fun j' hj' ht' y hy => ?_⟩
          rcases Nat.lt_succ_iff_lt_or_eq.1 hj' with hj' | rfl
          · exact g4 j' hj' ht' y hy
          · rw [hd] at hy; cases hy
        · rcases Nat.lt_succ_iff_lt_or_eq.1 hj' with hj' | rfl
          · exact h2 h j' hj' ht'
          · exact hd
      | some y0 =>
        cases hl : lr es d i v with
        | none =>
          refine ⟨fun x j h => ?_, fun h => by cases h⟩
          have h' : some (y0.1 + (eg es i).x, i) = some (x, j) := h
          injection h' with h'
          injection h' with e1 e2
          subst e1 e2
          refine ⟨⟨by omega, ht, y0, hd, rfl⟩, fun j' hj' ht' y hy => ?_⟩
          rcases Nat.lt_succ_iff_lt_or_eq.1 hj' with hj' | rfl
          · rw [h2 hl j' hj' ht'] at hy; cases hy
          · rw [hd] at hy; injection hy with hy; subst hy; exact Int.le_refl _
        | some z =>
          obtain ⟨zx, zj⟩ := z
          obtain ⟨⟨g1, g2, g3⟩, g4⟩ := h1 zx zj hl
          refine ⟨fun x j h => ?_, fun h => ?_⟩
          · have h' : (if zx < y0.1 + (eg es i).x then some (y0.1 + (eg es i).x, i) else some (zx, zj)) = some (x, j) := h
            by_cases hc : zx < y0.1 + (eg es i).x
            · rw [if_pos hc] at h'
              injection h' with h'
              injection h' with e1 e2
              subst e1 e2
              refine ⟨⟨by omega, ht, y0, hd, rfl⟩, fun j' hj' ht' y hy => ?_⟩
              rcases Nat.lt_succ_iff_lt_or_eq.1 hj' with hj' | rfl
              · have := g4 j' hj' ht' y hy; omega
              · rw [hd] at hy; injection hy with hy; subst hy; exact Int.le_refl _
            · rw [if_neg hc] at h'
              injection h' with h'
              injection h' with e1 e2
              subst e1 e2
              refine ⟨⟨by omega, g2, g3⟩, fun j' hj' ht' y hy => ?_⟩
              rcases Nat.lt_succ_iff_lt_or_eq.1 hj' with hj' | rfl
              · exact g4 j' hj' ht' y hy
              · rw [hd] at hy; injection hy with hy; subst hy; omega
          · have h' : (if zx < y0.1 + (eg es i).x then some (y0.1 + (eg es i).x, i) else some (zx, zj)) = none := h
            split at h' <;> cases h'
    · rw [if_neg ht]
      refine ⟨fun x j h => ?_, fun h j' hj' ht' => ?_⟩
      · obtain ⟨⟨g1, g2, g3⟩, g4⟩ := h1 x j h
        refine ⟨⟨by omega, g2, g3⟩, fun j' hj' ht' y hy => ?_⟩
        rcases Nat.lt_succ_iff_lt_or_eq.1 hj' with hj' | rfl
        · exact g4 j' hj' ht' y hy
        · exact absurd ht' ht
      · rcases Nat.lt_succ_iff_lt_or_eq.1 hj' with hj' | rfl
        · exact h2 h j' hj' ht'
        · exact absurd ht' ht

/-- what the table says -/
theorem tb_is (es : List Eg) : ∀ k v, (∀ x j, tb es k v = some (x, j) → Dm es k v x) ∧ (tb es k v = none → ∀ x, ¬ Wk es k v x) := by
  intro k
  induction k with
  | zero => exact fun v => ⟨fun x j h => by injection h with h; injection h with h; subst h; exact dm_zero es v, fun h => by cases h⟩
  | succ k ih =>
    intro v
    obtain ⟨h1, h2⟩ := lr_is es (tb es k) es.length v
    refine ⟨fun x j hx => ?_, fun hn x hw => ?_⟩
    · obtain ⟨⟨g1, g2, ⟨y, yj⟩, g3, rfl⟩, g4⟩ := h1 x j hx
      constructor
      · exact wk_succ.2 ⟨eg es j, eg_mem g1, g2, y, ((ih _).1 y yj g3).got, rfl⟩
      · intro z hz
        obtain ⟨e, he, ht, y', hy', rfl⟩ := wk_succ.1 hz
        obtain ⟨j', hj', rfl⟩ := mem_eg he
        cases hd : tb es k (eg es j').f with
        | none => exact absurd hy' ((ih _).2 hd y')
        | some y2 =>
          have := ((ih _).1 y2.1 y2.2 hd).most y' hy'
          have := g4 j' hj' ht y2 hd
          omega
    · obtain ⟨e, he, ht, y, hy, rfl⟩ := wk_succ.1 hw
      obtain ⟨j', hj', rfl⟩ := mem_eg he
      exact (ih _).2 (h2 hn j' hj' ht) y hy
/-- an entry's last edge -/
theorem tb_last {es : List Eg} {k v : Nat} {x : Int} {j : Nat} (h : tb es (k + 1) v = some (x, j)) : j < es.length ∧ (eg es j).t = v ∧ ∃ y, tb es k (eg es j).f = some y ∧ x = y.1 + (eg es j).x := ((lr_is es (tb es k) es.length v).1 x j h).1
theorem tb_some {es : List Eg} {k v : Nat} {x : Int} (h : Wk es k v x) : ∃ y, tb es k v = some y := by
  cases hd : tb es k v with
  | none => exact absurd h ((tb_is es k v).2 hd x)
  | some y => exact ⟨y, rfl⟩
theorem tb_down {es : List Eg} {j k v : Nat} {y : Int × Nat} (hj : j ≤ k) (h : tb es k v = some y) : ∃ z, tb es j v = some z := by
  obtain ⟨x, hx⟩ := wk_down hj ((tb_is es k v).1 y.1 y.2 h).got
  exact tb_some hx
/-- how heavy an entry is -/
theorem tb_range {es : List Eg} (hw : Wgt es) {k v : Nat} {y : Int × Nat} (h : tb es k v = some y) : -(1048576 * (k : Int)) ≤ y.1 ∧ y.1 ≤ 1048576 * (k : Int) := by
  obtain ⟨u, l, h1, h2, h3⟩ := ((tb_is es k v).1 y.1 y.2 h).got
  have a1 := wt_le (fun e he => (hw e he).2) h1
  have a2 := wt_ge (fun e he => (hw e he).1) h1
  rw [h2, h3] at a1 a2
  omega

/-- a slope: rise, edges -/
def sbl (a b : Int × Int) : Prop := a.1 * b.2 < b.1 * a.2
/-- the least slope of a node's longest walk among those to rows below i -/
structure Lsl (es : List Eg) (n v i : Nat) (s : Int × Int) : Prop where
  got : ∃ k y x, k < n ∧ tb es n v = some x ∧ tb es k v = some y ∧ s = (x.1 - y.1, (n : Int) - (k : Int))
  least : ∀ k, k < i → ∀ x y, tb es n v = some x → tb es k v = some y → s.1 * ((n : Int) - (k : Int)) ≤ (x.1 - y.1) * s.2
theorem Lsl.start {es : List Eg} {n v : Nat} {x : Int × Nat} (hx : tb es n v = some x) (hn : 0 < n) : Lsl es n v 0 (x.1 - 0, (n : Int)) :=
  ⟨⟨0, (0, 0), x, hn, hx, rfl, by simp⟩, fun k h => by omega⟩
theorem Lsl.take {es : List Eg} {n v i : Nat} {s : Int × Int} (h : Lsl es n v i s) (hi : i < n) {x y : Int × Nat} (hx : tb es n v = some x) (hy : tb es i v = some y) (hb : sbl (x.1 - y.1, (n : Int) - (i : Int)) s) : Lsl es n v (i + 1) (x.1 - y.1, (n : Int) - (i : Int)) := by
  refine ⟨⟨i, y, x, hi, hx, hy, rfl⟩, fun k hk x' y' hx' hy' => ?_⟩
  rw [hx] at hx'; injection hx' with hx'; subst hx'
  rcases Nat.lt_succ_iff_lt_or_eq.1 hk with hk | rfl
  · have h1 := h.least k hk x y' hx hy'
    obtain ⟨k0, y0, x0, g1, g2, g3, rfl⟩ := h.got
    unfold sbl at hb
    simp only at hb h1 ⊢
    have p1 : (0 : Int) < (n : Int) - (k0 : Int) := by omega
    have p2 : (0 : Int) < (n : Int) - (i : Int) := by omega
    have p3 : (0 : Int) < (n : Int) - (k : Int) := by omega
    refine le_of_mul p1 ?_
    have a1 := mul_le_pos (Int.le_of_lt hb) (Int.le_of_lt p3)
    have a2 := mul_le_pos h1 (Int.le_of_lt p2)
    calc (x.1 - y.1) * ((n : Int) - (k : Int)) * ((n : Int) - (k0 : Int)) = (x.1 - y.1) * ((n : Int) - (k0 : Int)) * ((n : Int) - (k : Int)) := by ac_rfl
      _ ≤ (x0.1 - y0.1) * ((n : Int) - (i : Int)) * ((n : Int) - (k : Int)) := a1
      _ = (x0.1 - y0.1) * ((n : Int) - (k : Int)) * ((n : Int) - (i : Int)) := by ac_rfl
      _ ≤ (x.1 - y'.1) * ((n : Int) - (k0 : Int)) * ((n : Int) - (i : Int)) := a2
      _ = (x.1 - y'.1) * ((n : Int) - (i : Int)) * ((n : Int) - (k0 : Int)) := by ac_rfl
  · rw [hy] at hy'; injection hy' with hy'; subst hy'
    exact Int.le_refl _
theorem Lsl.keep {es : List Eg} {n v i : Nat} {s : Int × Int} (h : Lsl es n v i s) {x y : Int × Nat} (hx : tb es n v = some x) (hy : tb es i v = some y) (hb : ¬ sbl (x.1 - y.1, (n : Int) - (i : Int)) s) : Lsl es n v (i + 1) s := by
  refine ⟨h.got, fun k hk x' y' hx' hy' => ?_⟩
  rcases Nat.lt_succ_iff_lt_or_eq.1 hk with hk | rfl
  · exact h.least k hk x' y' hx' hy'
  · rw [hx] at hx'; injection hx' with hx'; subst hx'
    rw [hy] at hy'; injection hy' with hy'; subst hy'
    unfold sbl at hb
    simp only at hb
    omega
theorem Lsl.range {es : List Eg} (hw : Wgt es) {n v i : Nat} (hn : n ≤ 300) {s : Int × Int} (h : Lsl es n v i s) : (-629145600 ≤ s.1 ∧ s.1 ≤ 629145600) ∧ 1 ≤ s.2 ∧ s.2 ≤ 300 := by
  obtain ⟨k, y, x, h1, h2, h3, rfl⟩ := h.got
  have a1 := tb_range hw h2
  have a2 := tb_range hw h3
  simp only
  omega

/-- the steepest node so far -/
structure Stp (es : List Eg) (n i : Nat) (N : Int) (m : Int × Int) : Prop where
  no : N = -1 → ∀ v, v < i → tb es n v = none
  yes : N ≠ -1 → ∃ v, v < i ∧ N = (v : Int) ∧ Lsl es n v n m ∧ ∀ u, u < i → ∀ s, Lsl es n u n s → ¬ sbl m s
theorem Stp.start (es : List Eg) (n : Nat) (m : Int × Int) : Stp es n 0 (-1) m := ⟨fun _ v h => by omega, fun h => absurd rfl h⟩
theorem Lsl.one {es : List Eg} {n v : Nat} {s s' : Int × Int} (h : Lsl es n v n s) (h' : Lsl es n v n s') : s.1 * s'.2 ≤ s'.1 * s.2 := by
  obtain ⟨k, y, x, h1, h2, h3, rfl⟩ := h'.got
  exact h.least k h1 x y h2 h3
theorem Lsl.in {es : List Eg} {n v i : Nat} {s : Int × Int} (h : Lsl es n v i s) : ∃ x, tb es n v = some x := by
  obtain ⟨k, y, x, h1, h2, h3, rfl⟩ := h.got; exact ⟨x, h2⟩
theorem Lsl.pos {es : List Eg} {n v i : Nat} {s : Int × Int} (h : Lsl es n v i s) : 0 < s.2 := by
  obtain ⟨k, y, x, h1, h2, h3, rfl⟩ := h.got; show (0 : Int) < (n : Int) - (k : Int); omega
theorem Stp.skip {es : List Eg} {n i : Nat} {N : Int} {m : Int × Int} (h : Stp es n i N m) (hi : tb es n i = Option.none) : Stp es n (i + 1) N m := by
  refine ⟨fun e v hv => ?_, fun e => ?_⟩
  · rcases Nat.lt_succ_iff_lt_or_eq.1 hv with hv | rfl
    · exact h.no e v hv
    · exact hi
  · obtain ⟨v, g1, g2, g3, g4⟩ := h.yes e
    refine ⟨v, by omega, g2, g3, fun u hu s hs => ?_⟩
    rcases Nat.lt_succ_iff_lt_or_eq.1 hu with hu | rfl
    · exact g4 u hu s hs
    · obtain ⟨x, hx⟩ := hs.in; rw [hi] at hx; cases hx
theorem Stp.take {es : List Eg} {n i : Nat} {N : Int} {m s : Int × Int} (h : Stp es n i N m) (hs : Lsl es n i n s) (hb : N = -1 ∨ sbl m s) : Stp es n (i + 1) (i : Int) s := by
  refine ⟨fun e => by omega, fun _ => ⟨i, by omega, rfl, hs, fun u hu s' hs' => ?_⟩⟩
  rcases Nat.lt_succ_iff_lt_or_eq.1 hu with hu | rfl
  · rcases hb with hb | hb
    · obtain ⟨x, hx⟩ := hs'.in
      rw [h.no hb u hu] at hx; cases hx
    · by_cases e : N = -1
      · obtain ⟨x, hx⟩ := hs'.in
        rw [h.no e u hu] at hx; cases hx
      · obtain ⟨v, g1, g2, g3, g4⟩ := h.yes e
        have h1 := g4 u hu s' hs'
        intro q
        unfold sbl at hb h1 q
        have p1 := g3.pos
        have p2 := hs.pos
        have p3 := hs'.pos
        have h1' : s'.1 * m.2 ≤ m.1 * s'.2 := by omega
        have a1 := mul_lt_pos q p1
        have a2 := mul_le_pos h1' (Int.le_of_lt p2)
        have a3 := mul_lt_pos hb p3
        have e1 : s.1 * s'.2 * m.2 = s.1 * m.2 * s'.2 := by ac_rfl
        have e2 : s'.1 * s.2 * m.2 = s'.1 * m.2 * s.2 := by ac_rfl
        have e3 : m.1 * s'.2 * s.2 = m.1 * s.2 * s'.2 := by ac_rfl
        omega
  · intro q
    have := hs'.one hs
    unfold sbl at q
    omega
theorem Stp.keep {es : List Eg} {n i : Nat} {N : Int} {m s : Int × Int} (h : Stp es n i N m) (hs : Lsl es n i n s) (hn : N ≠ -1) (hb : ¬ sbl m s) : Stp es n (i + 1) N m := by
  refine ⟨fun e => absurd e hn, fun e => ?_⟩
  obtain ⟨v, g1, g2, g3, g4⟩ := h.yes e
  refine ⟨v, by omega, g2, g3, fun u hu s' hs' => ?_⟩
  rcases Nat.lt_succ_iff_lt_or_eq.1 hu with hu | rfl
  · exact g4 u hu s' hs'
  · intro q
    have h1 := hs'.one hs
    unfold sbl at hb q
    have p1 := g3.pos
    have p2 := hs.pos
    have p3 := hs'.pos
    have hb' : s.1 * m.2 ≤ m.1 * s.2 := by omega
    have a1 := mul_lt_pos q p2
    have a2 := mul_le_pos hb' (Int.le_of_lt p3)
    have a3 := mul_le_pos h1 (Int.le_of_lt p1)
    have e1 : m.1 * s'.2 * s.2 = m.1 * s.2 * s'.2 := by ac_rfl
    have e2 : s'.1 * m.2 * s.2 = s'.1 * s.2 * m.2 := by ac_rfl
    have e3 : s.1 * s'.2 * m.2 = s.1 * m.2 * s'.2 := by ac_rfl
    omega
/-- where there is no way round, no walk is so long -/
theorem tb_none {n : Nat} {es : List Eg} (hn : Inn n es) (h : ¬ ∃ l, Cyc es l) {v : Nat} (hv : v < n) : tb es n v = none := by
  cases hd : tb es n v with
  | none => rfl
  | some y =>
    obtain ⟨u, l, h1, h2, h3⟩ := ((tb_is es n v).1 y.1 y.2 hd).got
    obtain ⟨a, c, b, m, _, hc, _, g2, _⟩ := goes_round hn h1 (by omega) (by omega)
    exact absurd ⟨c, hc, m, g2⟩ h
/-- at the steepest node each quotient is no less than the greatest by the edge -/
theorem Stp.karp {n : Nat} {es : List Eg} (hn : Inn n es) (hw : Wgt es) {p q : Int} (hL : Lam es p q) {N : Int} {m : Int × Int} (h : Stp es n n N m) : ∃ v y, v < n ∧ N = (v : Int) ∧ tb es n v = some y ∧ ∀ k z, k ≤ n → Dm es k v z → p * ((n : Int) - (k : Int)) ≤ q * (y.1 - z) := by
  obtain ⟨v1, x1, a1, a2, a3⟩ := karp_ge hn (show (0 : Int) ≤ 1048576 by omega) (fun e he => (hw e he).2) hL
  obtain ⟨y1, hy1⟩ := tb_some a2.got
  have ey : y1.1 = x1 := ((tb_is es n v1).1 y1.1 y1.2 hy1).same a2
  have hN : N ≠ -1 := fun e => by rw [h.no e v1 a1] at hy1; cases hy1
  obtain ⟨v, g1, g2, g3, g4⟩ := h.yes hN
  obtain ⟨y, hy⟩ := g3.in
  refine ⟨v, y, g1, g2, hy, fun k z hk hz => ?_⟩
  -- the least slope at v1
  have hex : ∀ i, i ≤ n → ∃ s, Lsl es n v1 i s := fun i => by
    induction i with
    | zero => exact fun _ => ⟨_, Lsl.start hy1 (by omega)⟩
    | succ i ih =>
      intro hi
      obtain ⟨s, hs⟩ := ih (by omega)
      obtain ⟨z, hz⟩ := tb_down (show i ≤ n by omega) hy1
      by_cases hb : sbl (y1.1 - z.1, (n : Int) - (i : Int)) s
      · exact ⟨_, hs.take (by omega) hy1 hz hb⟩
      · exact ⟨_, hs.keep hy1 hz hb⟩
  obtain ⟨s1, hs1⟩ := hex n (Nat.le_refl _)
  have h1 := g4 v1 a1 s1 hs1
  obtain ⟨k1, z1, x1', b1, b2, b3, rfl⟩ := hs1.got
  rw [hy1] at b2; injection b2 with b2; subst b2
  have h2 := a3 k1 z1.1 (by omega) ((tb_is es k1 v1).1 z1.1 z1.2 b3)
  rw [← ey] at h2
  unfold sbl at h1
  simp only at h1
  have pm := g3.pos
  have pk : (0 : Int) < (n : Int) - (k1 : Int) := by omega
  -- p through q is no more than m
  have hpm : p * m.2 ≤ q * m.1 := by
    refine le_of_mul pk ?_
    have c1 := mul_le_pos h2 (Int.le_of_lt pm)
    have c2 : (y1.1 - z1.1) * m.2 ≤ m.1 * ((n : Int) - (k1 : Int)) := by omega
    have c3 := mul_le_pos c2 (Int.le_of_lt hL.q1)
    have e1 : p * m.2 * ((n : Int) - (k1 : Int)) = p * ((n : Int) - (k1 : Int)) * m.2 := by ac_rfl
    have e2 : q * (y1.1 - z1.1) * m.2 = (y1.1 - z1.1) * m.2 * q := by ac_rfl
    have e3 : q * m.1 * ((n : Int) - (k1 : Int)) = m.1 * ((n : Int) - (k1 : Int)) * q := by ac_rfl
    omega
  by_cases hkn : k < n
  · obtain ⟨w, hw'⟩ := tb_some hz.got
    have ew : w.1 = z := ((tb_is es k v).1 w.1 w.2 hw').same hz
    have h3 := g3.least k hkn y w hy hw'
    rw [ew] at h3
    refine le_of_mul pm ?_
    have c1 := mul_le_pos hpm (show (0 : Int) ≤ (n : Int) - (k : Int) by omega)
    have c2 := mul_le_pos h3 (Int.le_of_lt hL.q1)
    have e1 : p * ((n : Int) - (k : Int)) * m.2 = p * m.2 * ((n : Int) - (k : Int)) := by ac_rfl
    have e2 : q * m.1 * ((n : Int) - (k : Int)) = m.1 * ((n : Int) - (k : Int)) * q := by ac_rfl
    have e3 : q * (y.1 - z) * m.2 = (y.1 - z) * m.2 * q := by ac_rfl
    omega
  · obtain rfl : k = n := by omega
    have := ((tb_is es k v).1 y.1 y.2 hy).same hz
    rw [this, Int.sub_self, Int.sub_self, Int.mul_zero, Int.mul_zero]
    exact Int.le_refl _

/-- the way back along last edges from the longest walk at v: numbers of edges, nodes -/
def la (es : List Eg) (k v : Nat) : Nat := match tb es k v with
  | none => 0
  | some y => y.2
def bn (es : List Eg) (n v : Nat) : Nat → Nat
  | 0 => v
  | i + 1 => (eg es (la es (n - i) (bn es n v i))).f
def br (es : List Eg) (n v i : Nat) : Nat := la es (n - i) (bn es n v i)
theorem la_lv (es : List Eg) (k v : Nat) : lv (tb es k v) = (la es k v : Int) := by
  unfold la
  cases tb es k v <;> rfl
/-- what it weighs up to there -/
def by' (es : List Eg) (n v i : Nat) : Int := wv (tb es (n - i) (bn es n v i))
theorem bn_some {es : List Eg} {n v : Nat} {y : Int × Nat} (h : tb es n v = some y) : ∀ i, i ≤ n → ∃ z, tb es (n - i) (bn es n v i) = some z := by
  intro i
  induction i with
  | zero => exact fun _ => ⟨y, h⟩
  | succ i ih =>
    intro hi
    obtain ⟨z, hz⟩ := ih (by omega)
    obtain ⟨j, hj⟩ : ∃ j, n - i = j + 1 := ⟨n - i - 1, by omega⟩
    rw [hj] at hz
    obtain ⟨g1, g2, y', g3, g4⟩ := tb_last (x := z.1) (j := z.2) hz
    refine ⟨y', ?_⟩
    rw [show n - (i + 1) = j by omega]
    show tb es j (eg es (la es (n - i) (bn es n v i))).f = some y'
    rw [hj]
    unfold la
    rw [hz]
    exact g3
theorem bn_step {es : List Eg} {n v : Nat} {y : Int × Nat} (h : tb es n v = some y) {i : Nat} (hi : i < n) : br es n v i < es.length ∧ (eg es (br es n v i)).t = bn es n v i ∧ (eg es (br es n v i)).f = bn es n v (i + 1) ∧ by' es n v i = by' es n v (i + 1) + (eg es (br es n v i)).x := by
  obtain ⟨z, hz⟩ := bn_some h i (by omega)
  obtain ⟨j, hj⟩ : ∃ j, n - i = j + 1 := ⟨n - i - 1, by omega⟩
  have hb : br es n v i = z.2 := by unfold br la; rw [hz]
  have e1 : by' es n v i = z.1 := by unfold by'; rw [hz]; rfl
  rw [hj] at hz
  obtain ⟨g1, g2, y', g3, g4⟩ := tb_last (x := z.1) (j := z.2) hz
  rw [hb]
  refine ⟨g1, g2, by show _ = (eg es (br es n v i)).f; rw [hb], ?_⟩
  rw [e1, g4]
  unfold by'
  rw [show n - (i + 1) = j by omega, show bn es n v (i + 1) = (eg es z.2).f by show (eg es (br es n v i)).f = _; rw [hb], g3]
  rfl
theorem bn_in {es : List Eg} {n v : Nat} (hn : Inn n es) (hv : v < n) {y : Int × Nat} (h : tb es n v = some y) : ∀ i, i ≤ n → bn es n v i < n := by
  intro i hi
  cases i with
  | zero => exact hv
  | succ i =>
    obtain ⟨g1, _, g3, _⟩ := bn_step h (show i < n by omega)
    rw [← g3]
    exact (hn _ (eg_mem g1)).1
/-- from node i back to node j: the edges as a walk -/
theorem bn_walk {es : List Eg} {n v : Nat} {y : Int × Nat} (h : tb es n v = some y) (j : Nat) : ∀ d, j + d ≤ n → ∃ l, Path es (bn es n v (j + d)) l (bn es n v j) ∧ l.length = d ∧ wt l = by' es n v j - by' es n v (j + d) := by
  intro d
  induction d with
  | zero => exact fun _ => ⟨[], rfl, rfl, by simp [wt]⟩
  | succ d ih =>
    intro hd
    obtain ⟨l, h1, h2, h3⟩ := ih (by omega)
    obtain ⟨g1, g2, g3, g4⟩ := bn_step h (show j + d < n by omega)
    refine ⟨eg es (br es n v (j + d)) :: l, ⟨eg_mem g1, g3, by rw [g2]; exact h1⟩, by simp [h2], ?_⟩
    show (eg es (br es n v (j + d))).x + wt l = _
    rw [h3, show j + (d + 1) = j + d + 1 by omega]
    omega
theorem nsum_back {es : List Eg} {n v : Nat} {y : Int × Nat} (h : tb es n v = some y) (i : Nat) (hi : i ≤ n) : ∀ d, d ≤ i → nsum es (fun t => br es n v (i - 1 - t)) d = by' es n v (i - d) - by' es n v i := by
  intro d
  induction d with
  | zero => intro _; simp [nsum]
  | succ d ih =>
    intro hd
    have e := ih (by omega)
    show nsum es (fun t => br es n v (i - 1 - t)) d + (eg es (br es n v (i - 1 - d))).x = _
    obtain ⟨g1, g2, g3, g4⟩ := bn_step h (show i - 1 - d < n by omega)
    rw [e, show i - (d + 1) = i - 1 - d by omega]
    rw [show i - 1 - d + 1 = i - d by omega] at g4
    omega
/-- THE WAY ROUND: where node i is node j again, the edges between weigh just the greatest by the edge -/
theorem back_round {n : Nat} {es : List Eg} {p q : Int} (hL : Lam es p q) {v : Nat} {y : Int × Nat} (hy : tb es n v = some y) (hge : ∀ k z, k ≤ n → Dm es k v z → p * ((n : Int) - (k : Int)) ≤ q * (y.1 - z))
    {i j : Nat} (hij : j < i) (hi : i ≤ n) (he : bn es n v i = bn es n v j) : Wok es (fun t => br es n v (i - 1 - t)) (i - j) ∧ (eg es (br es n v (i - 1 - 0))).f = (eg es (br es n v (i - 1 - (i - j - 1)))).t ∧ q * nsum es (fun t => br es n v (i - 1 - t)) (i - j) = p * ((i - j : Nat) : Int) := by
  refine ⟨fun t ht => ?_, ?_, ?_⟩
  · obtain ⟨g1, g2, g3, g4⟩ := bn_step hy (show i - 1 - t < n by omega)
    refine ⟨g1, fun ht0 => ?_⟩
    obtain ⟨a1, a2, a3, a4⟩ := bn_step hy (show i - 1 - (t - 1) < n by omega)
    show (eg es (br es n v (i - 1 - t))).f = (eg es (br es n v (i - 1 - (t - 1)))).t
    rw [g3, a2, show i - 1 - t + 1 = i - 1 - (t - 1) by omega]
  · obtain ⟨g1, g2, g3, g4⟩ := bn_step hy (show i - 1 - 0 < n by omega)
    obtain ⟨a1, a2, a3, a4⟩ := bn_step hy (show i - 1 - (i - j - 1) < n by omega)
    rw [g3, a2, show i - 1 - 0 + 1 = i by omega, show i - 1 - (i - j - 1) = j by omega, he]
  · rw [nsum_back hy i hi (i - j) (by omega), show i - (i - j) = j by omega]
    obtain ⟨z, hz⟩ := bn_some hy i hi
    obtain ⟨u, a, h1, h2, h3⟩ := ((tb_is es _ _).1 z.1 z.2 hz).got
    obtain ⟨c, c1, c2, c3⟩ := bn_walk hy j (i - j) (by omega)
    obtain ⟨b, b1, b2, b3⟩ := bn_walk hy 0 j (by omega)
    rw [show j + (i - j) = i by omega] at c1 c3
    rw [Nat.zero_add] at b1 b3
    have ez : by' es n v i = z.1 := by unfold by'; rw [hz]; rfl
    have e0 : by' es n v 0 = y.1 := by
      show wv (tb es (n - 0) v) = y.1
      rw [Nat.sub_zero, hy]; rfl
    have hk := karp_cycle hL ((tb_is es n v).1 y.1 y.2 hy) hge h1 (c := c) (b := b) (by rw [← he] at c1; exact c1) (by rw [he]; exact b1) (by simp only [List.length_append]; omega) (by rw [wt_append, wt_append]; omega) (fun e => by subst e; simp at c2; omega)
    rw [c3, c2] at hk
    exact hk
/-- so long as all nodes are unlike there are edges left -/
theorem back_room {n : Nat} {es : List Eg} {v : Nat} (hin : ∀ i, i ≤ n → bn es n v i < n) {i : Nat} (hi : i ≤ n) (hne : ∀ a b, a < b → b ≤ i → bn es n v a ≠ bn es n v b) : i < n := by
  have := nodup_len n ((List.range (i + 1)).map (bn es n v)) (by
    rw [List.nodup_iff_pairwise_ne, List.pairwise_map]
    refine List.Pairwise.imp_of_mem ?_ (List.pairwise_lt_range)
    intro a b ha hb hab
    exact hne a b hab (by have := List.mem_range.1 hb; omega)) (fun x hx => by
    obtain ⟨a, ha, rfl⟩ := List.mem_map.1 hx
    exact hin a (by have := List.mem_range.1 ha; omega))
  simp at this
  omega

end Go.Proofs.YtjageagnclmnjaaGreatDoor.Q
