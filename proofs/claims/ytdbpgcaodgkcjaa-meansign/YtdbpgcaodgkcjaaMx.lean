/- PROVED: the greatest that cycles weigh by the edge is one; with each edge so many times as heavy, less so much, it is so many times as much, less so much; it is above nothing just if a way round weighs more than nothing. CONDITIONS: none beyond each theorem's own. -/
import Derived.Test.YtdbpgcaodgkcjaaMn
namespace Go.Proofs.Ytdbpgcaodgkcjaa
set_option linter.unusedVariables false

theorem lam_same {es : List Eg} {p q p' q' : Int} (h : Lam es p q) (h' : Lam es p' q') : p * q' = p' * q := by
  have le : ∀ {p q p' q' : Int}, Lam es p q → Lam es p' q' → p * q' ≤ p' * q := fun {p q p' q'} h h' => by
    obtain ⟨l, hl, he⟩ := h.got
    have hm := h'.most l hl
    have hlen : (0 : Int) < (l.length : Int) := by have := hl.len; omega
    refine le_of_mul hlen ?_
    have h1 := mul_le_pos hm (Int.le_of_lt h.q1)
    calc p * q' * (l.length : Int) = p * (l.length : Int) * q' := by ac_rfl
      _ = q * wt l * q' := by rw [he]
      _ = q' * wt l * q := by ac_rfl
      _ ≤ p' * (l.length : Int) * q := h1
      _ = p' * q * (l.length : Int) := by ac_rfl
  have := le h h'
  have := le h' h
  omega
theorem cyc_sc {es l : List Eg} (a b : Int) (h : Cyc es l) : Cyc (sc es a b) (sc l a b) := by
  obtain ⟨h0, u, hu⟩ := h
  refine ⟨fun e => h0 ?_, u, sc_push a b hu⟩
  unfold sc at e
  exact List.map_eq_nil_iff.1 e
theorem sc_cyc {es l : List Eg} (a b : Int) (h : Cyc (sc es a b) l) : ∃ l', Cyc es l' ∧ l = sc l' a b := by
  obtain ⟨h0, u, hu⟩ := h
  obtain ⟨l', h1, rfl⟩ := sc_pull a b hu
  exact ⟨l', ⟨fun e => h0 (by rw [e]; rfl), u, h1⟩, rfl⟩
/-- so many times as much, less so much -/
theorem lam_sc {es : List Eg} {p q : Int} (h : Lam es p q) (a b : Int) (hb : 0 < b) : Lam (sc es a b) (b * p - a * q) q := by
  refine ⟨h.q1, ?_, fun l hl => ?_⟩
  · obtain ⟨l, hl, he⟩ := h.got
    refine ⟨sc l a b, cyc_sc a b hl, ?_⟩
    rw [wt_sc, sc_len, Int.mul_sub, Int.sub_mul, show q * (b * wt l) = b * (q * wt l) by ac_rfl, he]
    rw [show b * (p * (l.length : Int)) = b * p * (l.length : Int) by ac_rfl, show q * (a * (l.length : Int)) = a * q * (l.length : Int) by ac_rfl]
  · obtain ⟨l', hl', rfl⟩ := sc_cyc a b hl
    rw [wt_sc, sc_len, Int.mul_sub, Int.sub_mul]
    have := mul_le_pos (h.most l' hl') (Int.le_of_lt hb)
    rw [show q * (b * wt l') = q * wt l' * b by ac_rfl, show b * p * (l'.length : Int) = p * (l'.length : Int) * b by ac_rfl, show q * (a * (l'.length : Int)) = a * q * (l'.length : Int) by ac_rfl]
    omega
theorem sc_some (es : List Eg) (a b : Int) : (∃ l, Cyc (sc es a b) l) ↔ ∃ l, Cyc es l := by
  constructor
  · rintro ⟨l, hl⟩; obtain ⟨l', h, _⟩ := sc_cyc a b hl; exact ⟨l', h⟩
  · rintro ⟨l, hl⟩; exact ⟨_, cyc_sc a b hl⟩
theorem sc_one (es : List Eg) : sc es 0 1 = es := by
  unfold sc
  conv => rhs; rw [← List.map_id es]
  refine List.map_congr_left fun e _ => ?_
  simp
/-- above nothing, just if a way round weighs more than nothing -/
theorem lam_sign {es : List Eg} {p q : Int} (h : Lam es p q) : ¬ noPos es ↔ 0 < p := by
  have h1 := abv_sc es 0 1
  rw [sc_one] at h1
  rw [← h1, abv_iff h (by omega)]
  omega
theorem none_noPos {es : List Eg} (h : ¬ ∃ l, Cyc es l) : noPos es := fun u l hl => by
  cases l with
  | nil => exact Int.le_refl _
  | cons e l => exact absurd ⟨e :: l, by simp, u, hl⟩ h
/-- the sign of a quotient -/
theorem low_sign {P Q p : Int} {q : Nat} (hQ : 0 < Q) (hq : 1 ≤ q) (e : P * (q : Int) = p * Q) : 0 < P ↔ 0 < p := by
  constructor
  · intro h
    refine lt_of_mul hQ ?_
    rw [Int.zero_mul, ← e]
    exact Int.mul_pos h (by omega)
  · intro h
    refine lt_of_mul (c := (q : Int)) (by omega) ?_
    rw [Int.zero_mul, e]
    exact Int.mul_pos h hQ

end Go.Proofs.Ytdbpgcaodgkcjaa
