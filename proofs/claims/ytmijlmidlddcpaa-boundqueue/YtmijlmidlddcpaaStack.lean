/- PROVED: the ticks that may still be the first to be enough, on plain integers. CONDITIONS: none beyond each theorem's own. -/
import Derived.Test.YtmijlmidlddcpaaBound
namespace Go.Proofs.Ytmijlmidlddcpaa

/-- the ticks from t on that are above all ahead of them, the nearest last -/
structure Stack (g : List Int) (t : Nat) (S : List Int) : Prop where
  pos : ∀ p, p < S.length → ∃ j : Nat, S.getD p 0 = (j : Int) ∧ t ≤ j ∧ j < g.length
  down : ∀ p q, p < q → q < S.length → S.getD q 0 < S.getD p 0
  less : ∀ p q, p < q → q < S.length → g.getD (S.getD q 0).toNat 0 < g.getD (S.getD p 0).toNat 0
  cover : ∀ j, t ≤ j → j < g.length → ∃ p, p < S.length ∧ S.getD p 0 ≤ (j : Int) ∧ g.getD j 0 ≤ g.getD (S.getD p 0).toNat 0
/-- some of them, while tick t comes -/
structure Half (g : List Int) (t : Nat) (S : List Int) : Prop where
  pos : ∀ p, p < S.length → ∃ j : Nat, S.getD p 0 = (j : Int) ∧ t < j ∧ j < g.length
  down : ∀ p q, p < q → q < S.length → S.getD q 0 < S.getD p 0
  less : ∀ p q, p < q → q < S.length → g.getD (S.getD q 0).toNat 0 < g.getD (S.getD p 0).toNat 0
  cover : ∀ j, t < j → j < g.length → g.getD j 0 ≤ g.getD t 0 ∨ ∃ p, p < S.length ∧ S.getD p 0 ≤ (j : Int) ∧ g.getD j 0 ≤ g.getD (S.getD p 0).toNat 0
theorem Stack.half {g : List Int} {t : Nat} {S : List Int} (h : Stack g (t + 1) S) : Half g t S :=
  ⟨h.pos, h.down, h.less, fun j h1 h2 => .inr (h.cover j h1 h2)⟩
theorem Stack.none (g : List Int) : Stack g g.length [] := ⟨fun p h => by simp at h, fun p q _ h => by simp at h, fun p q _ h => by simp at h, fun j h1 h2 => by omega⟩
theorem take_at (S : List Int) (l p : Nat) (h : p < l) : (S.take l).getD p 0 = S.getD p 0 := by
  rw [List.getD_eq_getElem?_getD, List.getD_eq_getElem?_getD, List.getElem?_take_of_lt h]
theorem Half.pop {g : List Int} {t l : Nat} {S : List Int} (h : Half g t S) (hl : S.length = l + 1) (hg : g.getD (S.getD l 0).toNat 0 ≤ g.getD t 0) : Half g t (S.take l) := by
  have e : (S.take l).length = l := by simp; omega
  refine ⟨fun p hp => ?_, fun p q hpq hq => ?_, fun p q hpq hq => ?_, fun j h1 h2 => ?_⟩
  · rw [take_at _ _ _ (by omega)]; exact h.pos p (by omega)
  · rw [take_at _ _ _ (by omega), take_at _ _ _ (by omega)]; exact h.down p q hpq (by omega)
  · rw [take_at _ _ _ (by omega), take_at _ _ _ (by omega)]; exact h.less p q hpq (by omega)
  · rcases h.cover j h1 h2 with k | ⟨p, hp, k1, k2⟩
    · exact .inl k
    · by_cases c : p = l
      · subst c; exact .inl (Int.le_trans k2 hg)
      · refine .inr ⟨p, by omega, ?_⟩
        rw [take_at _ _ _ (by omega)]; exact ⟨k1, k2⟩
theorem Half.push {g : List Int} {t : Nat} {S : List Int} (h : Half g t S) (ht : t < g.length) (hg : S.length = 0 ∨ g.getD t 0 < g.getD (S.getD (S.length - 1) 0).toNat 0) : Stack g t (S ++ [(t : Int)]) := by
  have e : (S ++ [(t : Int)]).length = S.length + 1 := by simp
  have o : ∀ p, p < S.length → (S ++ [(t : Int)]).getD p 0 = S.getD p 0 := fun p hp => snoc_old _ _ _ hp
  have n : (S ++ [(t : Int)]).getD S.length 0 = (t : Int) := snoc_new _ _ _ rfl
  refine ⟨fun p hp => ?_, fun p q hpq hq => ?_, fun p q hpq hq => ?_, fun j h1 h2 => ?_⟩
  · by_cases c : p = S.length
    · subst c; exact ⟨t, n, Nat.le_refl _, ht⟩
    · rw [o p (by omega)]
      obtain ⟨j, a, b, d⟩ := h.pos p (by omega)
      exact ⟨j, a, by omega, d⟩
  · by_cases c : q = S.length
    · subst c
      rw [n, o p hpq]
      obtain ⟨j, a, b, d⟩ := h.pos p hpq
      omega
    · rw [o p (by omega), o q (by omega)]; exact h.down p q hpq (by omega)
  · by_cases c : q = S.length
    · subst c
      rw [n, o p hpq, Int.toNat_natCast]
      rcases hg with k | k
      · omega
      · by_cases c2 : p = S.length - 1
        · subst c2; exact k
        · have := h.less p (S.length - 1) (by omega) (by omega); omega
    · rw [o p (by omega), o q (by omega)]; exact h.less p q hpq (by omega)
  · by_cases c : j = t
    · subst c
      exact ⟨S.length, by omega, by rw [n]; exact Int.le_refl _, by rw [n, Int.toNat_natCast]; exact Int.le_refl _⟩
    · rcases h.cover j (by omega) h2 with k | ⟨p, hp, k1, k2⟩
      · exact ⟨S.length, by omega, by rw [n]; omega, by rw [n, Int.toNat_natCast]; exact k⟩
      · exact ⟨p, by omega, by rw [o p hp]; exact k1, by rw [o p hp]; exact k2⟩
/-- whether what is at place p is too little -/
def low (g S : List Int) (x : Int) (p : Nat) : Bool := decide (fit (g.getD (S.getD p 0).toNat 0) < fit x)
theorem Stack.mono {g : List Int} {t : Nat} {S : List Int} (h : Stack g t S) (x : Int) (p q : Nat) (hpq : p ≤ q) (hq : q < S.length) (hl : low g S x p = true) : low g S x q = true := by
  unfold low at *
  by_cases c : p = q
  · subst c; exact hl
  · have := h.less p q (by omega) hq
    have m := fit_mono (Int.le_of_lt this)
    have := of_decide_eq_true hl
    exact decide_eq_true (by omega)
theorem Stack.no {g : List Int} {t : Nat} {S : List Int} (h : Stack g t S) (x : Int) (hl : ∀ p, p < S.length → low g S x p = true) : ¬ t + fd x g t < g.length :=
  fd_no x g t fun j h1 h2 => by
    obtain ⟨p, hp, k1, k2⟩ := h.cover j h1 h2
    have m := fit_mono k2
    have := of_decide_eq_true (hl p hp)
    omega
theorem Stack.yes {g : List Int} {t : Nat} {S : List Int} (h : Stack g t S) (x : Int) (e : Nat) (he : e < S.length) (h0 : low g S x e = false) (hl : ∀ p, e < p → p < S.length → low g S x p = true) : S.getD e 0 = (t : Int) + fd x g t ∧ t + fd x g t < g.length := by
  obtain ⟨j, a, b, c⟩ := h.pos e he
  have h0' := of_decide_eq_false h0
  rw [a, Int.toNat_natCast] at h0'
  have k : fd x g t = j - t := fd_is x g t (j - t) (by omega) (fun i hi => by
    obtain ⟨p, hp, k1, k2⟩ := h.cover (t + i) (by omega) (by omega)
    have hep : e < p := by
      rcases Nat.lt_trichotomy p e with q | q | q
      · have := h.down p e q he; omega
      · subst q; omega
      · exact q
    have m := fit_mono k2
    have := of_decide_eq_true (hl p hep hp)
    omega) (by rw [show t + (j - t) = j by omega]; omega)
  rw [k, a]
  omega

end Go.Proofs.Ytmijlmidlddcpaa
