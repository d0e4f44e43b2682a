/- PROVED: states that are found one after another, on plain lists: each is there once, nothing else is come to, what leads to each is the shortest. CONDITIONS: none beyond each theorem's own. -/
namespace Go.Proofs.YtjageagnclmnjaaGreatDoor
set_option linter.unusedVariables false

section
variable {α : Type} [DecidableEq α] (step : α → Nat → α) (E : Nat) (s0 : α)

/-- where y stands among L (behind all, if it does not) -/
def ix : List α → α → Nat
  | [], _ => 0
  | x :: L, y => if x = y then 0 else ix L y + 1
/-- what was not found yet is the next -/
def nx (L : List α) (y : α) : List α := if y ∈ L then L else L ++ [y]
/-- behind t steps: what was found, and where each step led -/
def ex : Nat → List α × List Nat
  | 0 => ([s0], [])
  | t + 1 => match (ex t).1[t / E]? with
    | none => ex t
    | some x => (nx (ex t).1 (step x (t % E)), (ex t).2 ++ [ix (ex t).1 (step x (t % E))])
end
section
variable {α : Type} [DecidableEq α]
theorem ix_mem {L : List α} {y : α} (h : y ∈ L) : ix L y < L.length ∧ L[ix L y]? = some y := by
  induction L with
  | nil => cases h
  | cons x L ih =>
    unfold ix
    by_cases e : x = y
    · rw [if_pos e]; subst e; exact ⟨by simp, rfl⟩
    · rw [if_neg e]
      rcases List.mem_cons.1 h with rfl | h
      · exact absurd rfl e
      · obtain ⟨h1, h2⟩ := ih h
        exact ⟨by simp; omega, by simpa using h2⟩
theorem ix_not {L : List α} {y : α} (h : y ∉ L) : ix L y = L.length := by
  induction L with
  | nil => rfl
  | cons x L ih =>
    unfold ix
    rw [if_neg (fun e => h (by simp [e])), ih (fun q => h (by simp [q]))]
    rfl
/-- where y stands behind it -/
theorem nx_at (L : List α) (y : α) : (nx L y)[ix L y]? = some y := by
  unfold nx
  by_cases h : y ∈ L
  · rw [if_pos h]; exact (ix_mem h).2
  · rw [if_neg h, ix_not h]; simp
theorem nx_nodup {L : List α} (h : L.Nodup) (y : α) : (nx L y).Nodup := by
  unfold nx
  by_cases hy : y ∈ L
  · rw [if_pos hy]; exact h
  · rw [if_neg hy, List.nodup_append]
    exact ⟨h, by simp, fun a ha b hb => by simp at hb; subst hb; exact fun e => hy (e ▸ ha)⟩
theorem nx_old {L : List α} {y x : α} {i : Nat} (h : L[i]? = some x) : (nx L y)[i]? = some x := by
  unfold nx
  by_cases hy : y ∈ L
  · rw [if_pos hy]; exact h
  · rw [if_neg hy, List.getElem?_append_left (List.getElem?_eq_some_iff.1 h).1]; exact h
theorem nx_len (L : List α) (y : α) : L.length ≤ (nx L y).length ∧ (nx L y).length ≤ L.length + 1 := by
  unfold nx
  by_cases hy : y ∈ L
  · rw [if_pos hy]; omega
  · rw [if_neg hy]; simp
end

/-- all of the first t steps went from a state that was there -/
def Live {α : Type} [DecidableEq α] (step : α → Nat → α) (E : Nat) (s0 : α) (t : Nat) : Prop := ∀ t', t' < t → t' < E * (ex step E s0 t').1.length

section
variable {α : Type} [DecidableEq α] {step : α → Nat → α} {E : Nat} {s0 : α}
theorem div_lt {t n : Nat} (h : t < E * n) : t / E < n := Nat.div_lt_of_lt_mul h
theorem ex_succ {t : Nat} (h : t < E * (ex step E s0 t).1.length) : ∃ x, (ex step E s0 t).1[t / E]? = some x ∧ ex step E s0 (t + 1) = (nx (ex step E s0 t).1 (step x (t % E)), (ex step E s0 t).2 ++ [ix (ex step E s0 t).1 (step x (t % E))]) := by
  have h1 := div_lt h
  refine ⟨_, List.getElem?_eq_getElem h1, ?_⟩
  show (match (ex step E s0 t).1[t / E]? with
    | none => ex step E s0 t
    | some x => (nx (ex step E s0 t).1 (step x (t % E)), (ex step E s0 t).2 ++ [ix (ex step E s0 t).1 (step x (t % E))])) = _
  rw [List.getElem?_eq_getElem h1]
theorem Live.less {t t' : Nat} (h : Live step E s0 t) (ht : t' ≤ t) : Live step E s0 t' := fun u hu => h u (by omega)
theorem ex_len {t : Nat} (h : Live step E s0 t) : (ex step E s0 t).2.length = t := by
  induction t with
  | zero => rfl
  | succ t ih =>
    obtain ⟨x, _, e⟩ := ex_succ (h t (by omega))
    rw [e]
    simp [ih (h.less (by omega))]
theorem ex_nodup {t : Nat} (h : Live step E s0 t) : (ex step E s0 t).1.Nodup := by
  induction t with
  | zero => simp [ex]
  | succ t ih =>
    obtain ⟨x, _, e⟩ := ex_succ (h t (by omega))
    rw [e]
    exact nx_nodup (ih (h.less (by omega))) _
/-- what was found stays where it was -/
theorem ex_old {t d : Nat} (h : Live step E s0 (t + d)) {i : Nat} {x : α} (hx : (ex step E s0 t).1[i]? = some x) : (ex step E s0 (t + d)).1[i]? = some x := by
  induction d with
  | zero => exact hx
  | succ d ih =>
    obtain ⟨y, _, e⟩ := ex_succ (h (t + d) (by omega))
    rw [show t + (d + 1) = t + d + 1 by omega, e]
    exact nx_old (ih (h.less (by omega)))
theorem ex_first {t : Nat} (h : Live step E s0 t) : (ex step E s0 t).1[0]? = some s0 := by
  have := ex_old (t := 0) (d := t) (by rw [Nat.zero_add]; exact h) (i := 0) (x := s0) rfl
  rw [Nat.zero_add] at this
  exact this
theorem ex_grows {t d : Nat} (h : Live step E s0 (t + d)) : (ex step E s0 t).1.length ≤ (ex step E s0 (t + d)).1.length := by
  induction d with
  | zero => exact Nat.le_refl _
  | succ d ih =>
    obtain ⟨y, _, e⟩ := ex_succ (h (t + d) (by omega))
    rw [show t + (d + 1) = t + d + 1 by omega, e]
    exact Nat.le_trans (ih (h.less (by omega))) (nx_len _ _).1
theorem ex_to_old {t d : Nat} (h : Live step E s0 (t + d)) {u : Nat} (hu : u < t) : (ex step E s0 (t + d)).2[u]? = (ex step E s0 t).2[u]? := by
  induction d with
  | zero => rfl
  | succ d ih =>
    obtain ⟨y, _, e⟩ := ex_succ (h (t + d) (by omega))
    rw [show t + (d + 1) = t + d + 1 by omega, e]
    have hl := ex_len (h.less (show t + d ≤ t + (d + 1) by omega))
    rw [List.getElem?_append_left (by omega)]
    exact ih (h.less (by omega))
/-- where step u led -/
theorem ex_to {t u : Nat} (h : Live step E s0 t) (hu : u < t) : ∃ x i, (ex step E s0 t).1[u / E]? = some x ∧ (ex step E s0 t).2[u]? = some i ∧ (ex step E s0 t).1[i]? = some (step x (u % E)) ∧ i ≤ (ex step E s0 u).1.length ∧ u / E < (ex step E s0 u).1.length := by
  obtain ⟨d, rfl⟩ : ∃ d, t = u + 1 + d := ⟨t - u - 1, by omega⟩
  have hL := h u (by omega)
  obtain ⟨x, h1, e⟩ := ex_succ hL
  refine ⟨x, ix (ex step E s0 u).1 (step x (u % E)), ?_, ?_, ?_, ?_, div_lt hL⟩
  · have := ex_old (t := u) (d := 1 + d) (by rw [← Nat.add_assoc]; exact h) h1
    rw [← Nat.add_assoc] at this
    exact this
  · rw [ex_to_old h (by omega), e]
    have hl := ex_len (h.less (show u ≤ u + 1 + d by omega))
    rw [List.getElem?_append_right (by omega), hl]
    simp
  · refine ex_old h ?_
    rw [e]
    exact nx_at _ _
  · by_cases hm : step x (u % E) ∈ (ex step E s0 u).1
    · exact Nat.le_of_lt (ix_mem hm).1
    · exact Nat.le_of_eq (ix_not hm)

/-- the step by which state j was found -/
def Fst (step : α → Nat → α) (E : Nat) (s0 : α) (j u : Nat) : Prop := u < E * (ex step E s0 u).1.length ∧ (ex step E s0 u).1.length = j ∧ (ex step E s0 (u + 1)).1.length = j + 1
theorem fst_some {t : Nat} (h : Live step E s0 t) : ∀ j, 1 ≤ j → j < (ex step E s0 t).1.length → ∃ u, u < t ∧ Fst step E s0 j u := by
  induction t with
  | zero => intro j h1 h2; simp [ex] at h2; omega
  | succ t ih =>
    intro j h1 h2
    by_cases hj : j < (ex step E s0 t).1.length
    · obtain ⟨u, hu, hf⟩ := ih (h.less (by omega)) j h1 hj
      exact ⟨u, by omega, hf⟩
    · have hL := h t (by omega)
      obtain ⟨x, _, e⟩ := ex_succ hL
      have hn := nx_len (ex step E s0 t).1 (step x (t % E))
      have e2 : (ex step E s0 (t + 1)).1.length = (nx (ex step E s0 t).1 (step x (t % E))).length := by rw [e]
      exact ⟨t, by omega, hL, by omega, by omega⟩
/-- it led to j, and none ahead of it did -/
theorem fst_to {t : Nat} (h : Live step E s0 t) {j u : Nat} (hu : u < t) (hf : Fst step E s0 j u) : (ex step E s0 t).2[u]? = some j ∧ u / E < j ∧ ∀ u', u' < u → (ex step E s0 t).2[u']? ≠ some j := by
  obtain ⟨f1, f2, f3⟩ := hf
  refine ⟨?_, by rw [← f2]; exact div_lt f1, fun u' hu' q => ?_⟩
  · obtain ⟨d, rfl⟩ : ∃ d, t = u + 1 + d := ⟨t - u - 1, by omega⟩
    obtain ⟨x, h1, e⟩ := ex_succ f1
    rw [ex_to_old h (by omega), e]
    have hl := ex_len (h.less (show u ≤ u + 1 + d by omega))
    rw [List.getElem?_append_right (by omega), hl]
    have hm : step x (u % E) ∉ (ex step E s0 u).1 := fun hm => by
      rw [e] at f3
      simp only [nx, if_pos hm] at f3
      omega
    simp only [Nat.sub_self]
    rw [ix_not hm, f2]
    rfl
  · obtain ⟨x, i, a1, a2, a3, a4, a5⟩ := ex_to h (show u' < t by omega)
    rw [q] at a2
    injection a2 with a2
    subst a2
    -- behind u' there are more than j states already, so u' is not ahead of u
    have g : (ex step E s0 (u' + 1)).1[j]? = some (step x (u' % E)) := by
      obtain ⟨x', b1, e⟩ := ex_succ (h u' (by omega))
      have hx : x' = x := by
        obtain ⟨d, hd⟩ : ∃ d, t = u' + d := ⟨t - u', by omega⟩
        have := ex_old (t := u') (d := d) (by rw [← hd]; exact h) b1
        rw [← hd, a1] at this
        injection this with this; exact this.symm
      subst hx
      have hi : ix (ex step E s0 u').1 (step x' (u' % E)) = j := by
        obtain ⟨d, hd⟩ : ∃ d, t = u' + 1 + d := ⟨t - u' - 1, by omega⟩
        have q2 := ex_to_old (t := u' + 1) (d := d) (by rw [← hd]; exact h) (show u' < u' + 1 by omega)
        rw [← hd, q, e] at q2
        have hl := ex_len (h.less (show u' ≤ t by omega))
        rw [List.getElem?_append_right (by omega), hl] at q2
        simp at q2
        exact q2.symm
      rw [e, ← hi]
      exact nx_at _ _
    have hlen := (List.getElem?_eq_some_iff.1 g).1
    obtain ⟨d, hd⟩ : ∃ d, u = u' + 1 + d := ⟨u - u' - 1, by omega⟩
    have := ex_grows (t := u' + 1) (d := d) (by rw [← hd]; exact h.less (by omega))
    rw [← hd] at this
    omega

/-- what leads to state j -/
inductive Ld (step : α → Nat → α) (E : Nat) (s0 : α) : Nat → List Nat → Prop
  | zero : Ld step E s0 0 []
  | more {j u : Nat} {l : List Nat} (hj : 1 ≤ j) (hf : Fst step E s0 j u) (h : Ld step E s0 (u / E) l) : Ld step E s0 j (l ++ [u % E])
theorem fst_same {t : Nat} (h : Live step E s0 t) {j u u' : Nat} (hu : u < t) (hu' : u' < t) (hf : Fst step E s0 j u) (hf' : Fst step E s0 j u') : u = u' := by
  obtain ⟨a1, _, a3⟩ := fst_to h hu hf
  obtain ⟨b1, _, b3⟩ := fst_to h hu' hf'
  rcases Nat.lt_trichotomy u u' with q | q | q
  · exact absurd a1 (b3 u q)
  · exact q
  · exact absurd b1 (a3 u' q)
theorem ld_some {t : Nat} (h : Live step E s0 t) : ∀ j, j < (ex step E s0 t).1.length → ∃ l, Ld step E s0 j l := by
  intro j
  induction j using Nat.strongRecOn with
  | _ j ih =>
    intro hj
    by_cases h0 : j = 0
    · subst h0; exact ⟨[], .zero⟩
    · obtain ⟨u, hu, hf⟩ := fst_some h j (by omega) hj
      have := (fst_to h hu hf).2.1
      obtain ⟨l, hl⟩ := ih (u / E) this (by omega)
      exact ⟨_, .more (by omega) hf hl⟩
/-- it leads there -/
theorem ld_run {t : Nat} (h : Live step E s0 t) : ∀ j l, Ld step E s0 j l → j < (ex step E s0 t).1.length → (ex step E s0 t).1[j]? = some (l.foldl step s0) := by
  intro j l hl
  induction hl with
  | zero => intro _; exact ex_first h
  | @more j u l hj hf hl ih =>
    intro hjl
    obtain ⟨u', hu', hf'⟩ := fst_some h j hj hjl
    have hu : u < t := by
      rcases Nat.lt_or_ge u t with q | q
      · exact q
      · exfalso
        have g2 : ∀ s, t ≤ s → (ex step E s0 t).1.length ≤ (ex step E s0 s).1.length := fun s hs => by
          induction hs with
          | refl => exact Nat.le_refl _
          | @step s _ ihs =>
            refine Nat.le_trans ihs ?_
            show _ ≤ (match (ex step E s0 s).1[s / E]? with
              | none => ex step E s0 s
              | some x => (nx (ex step E s0 s).1 (step x (s % E)), (ex step E s0 s).2 ++ [ix (ex step E s0 s).1 (step x (s % E))])).1.length
            cases (ex step E s0 s).1[s / E]? with
            | none => exact Nat.le_refl _
            | some x => exact (nx_len _ _).1
        have := g2 u q
        have := hf.2.1
        omega
    obtain ⟨a1, a2, _⟩ := fst_to h hu hf
    obtain ⟨x, i, b1, b2, b3, _, _⟩ := ex_to h hu
    rw [a1] at b2
    injection b2 with b2
    subst b2
    have := ih (by omega)
    rw [b1] at this
    injection this with this
    rw [b3, List.foldl_append, ← this]
    rfl

/-- all steps of all states have been gone -/
def Done (step : α → Nat → α) (E : Nat) (s0 : α) (t : Nat) : Prop := Live step E s0 t ∧ t = E * (ex step E s0 t).1.length
/-- NOTHING ELSE IS COME TO -/
theorem done_closed {t : Nat} (h : Done step E s0 t) {j n : Nat} {x : α} (hx : (ex step E s0 t).1[j]? = some x) (hn : n < E) : ∃ i, (ex step E s0 t).2[E * j + n]? = some i ∧ (ex step E s0 t).1[i]? = some (step x n) := by
  obtain ⟨hL, ht⟩ := h
  have hj := (List.getElem?_eq_some_iff.1 hx).1
  have hu : E * j + n < t := by
    rw [ht]
    have : E * (j + 1) ≤ E * (ex step E s0 t).1.length := Nat.mul_le_mul_left E (by omega)
    rw [Nat.mul_add, Nat.mul_one] at this
    omega
  obtain ⟨y, i, a1, a2, a3, _, _⟩ := ex_to hL hu
  have e1 : (E * j + n) / E = j := by rw [Nat.mul_add_div (by omega), Nat.div_eq_of_lt hn, Nat.add_zero]
  have e2 : (E * j + n) % E = n := by rw [Nat.mul_add_mod, Nat.mod_eq_of_lt hn]
  rw [e1, hx] at a1
  injection a1 with a1
  subst a1
  rw [e2] at a3
  exact ⟨i, a2, a3⟩
theorem done_run {t : Nat} (h : Done step E s0 t) : ∀ l : List Nat, (∀ n ∈ l, n < E) → l.foldl step s0 ∈ (ex step E s0 t).1 := by
  have go : ∀ (l : List Nat) (x : α), x ∈ (ex step E s0 t).1 → (∀ n ∈ l, n < E) → l.foldl step x ∈ (ex step E s0 t).1 := by
    intro l
    induction l with
    | nil => intro x hx _; exact hx
    | cons n l ih =>
      intro x hx hn
      obtain ⟨j, hj, rfl⟩ := List.getElem_of_mem hx
      obtain ⟨i, _, hi⟩ := done_closed h (List.getElem?_eq_getElem hj) (hn n (by simp))
      exact ih _ (List.mem_of_getElem? hi) (fun m hm => hn m (by simp [hm]))
  exact fun l hl => go l s0 (List.mem_of_getElem? (ex_first h.1)) hl
end

end Go.Proofs.YtjageagnclmnjaaGreatDoor
