/- PROVED: states that are found one after another, on plain lists: each is there once, nothing else is come to, what leads to each is the shortest. rows of numbers that a function tells. how rows of integers lie in memory, what keeps them. CONDITIONS: none beyond each theorem's own. -/
import Derived.Test.YtbnofjpiioneiaaRows
import Derived.WalkKit
import Derived.Lib.MinMax
import Derived.Lib.SlicesMore
import Derived.Deep.Draws
import Derived.WalkSpells
import Derived.WalkLawsBesides
import Derived.Deep.QuietTactic
import Derived.BigQuiet
import Derived.ArgAppend
import Derived.Deep.LoopGhost
import Derived.Deep.OwnRows
namespace Go.Proofs.Ytbnofjpiioneiaa
set_option linter.unusedVariables false

section
variable {α : Type} [DecidableEq α] (step : α → Nat → α) (E : Nat) (s0 : α)

/-- where y stands among L (behind all, if it does not) -/
def ix : List α → α → Nat
  | [], _ => 0
  | x :: L, y => if x = y then 0 else ix L y + 1
/-- what was not found yet is the next -/
def nx (L : List α) (y : α) : List α := if y ∈ L then L else L ++ [y]
/-- behind t steps: what was found, and where each step led -/
def ex : Nat → List α × List Nat
  | 0 => ([s0], [])
  | t + 1 => match (ex t).1[t / E]? with
    | none => ex t
    | some x => (nx (ex t).1 (step x (t % E)), (ex t).2 ++ [ix (ex t).1 (step x (t % E))])
end
section
variable {α : Type} [DecidableEq α]
theorem ix_mem {L : List α} {y : α} (h : y ∈ L) : ix L y < L.length ∧ L[ix L y]? = some y := by
  induction L with
  | nil => cases h
  | cons x L ih =>
    unfold ix
    by_cases e : x = y
    · rw [if_pos e]; subst e; exact ⟨by simp, rfl⟩
    · rw [if_neg e]
      rcases List.mem_cons.1 h with rfl | h
      · exact absurd rfl e
      · obtain ⟨h1, h2⟩ := ih h
        exact ⟨by simp; omega, by simpa using h2⟩
theorem ix_not {L : List α} {y : α} (h : y ∉ L) : ix L y = L.length := by
  induction L with
  | nil => rfl
  | cons x L ih =>
    unfold ix
    rw [if_neg (fun e => h (by simp [e])), ih (fun q => h (by simp [q]))]
    rfl
theorem ix_at {L : List α} (hd : L.Nodup) {i : Nat} {y : α} (h : L[i]? = some y) : ix L y = i := by
  have hi := (List.getElem?_eq_some_iff.1 h).1
  obtain ⟨h1, h2⟩ := ix_mem (List.mem_of_getElem? h)
  have e : L[ix L y]'h1 = L[i]'hi := by
    have a := (List.getElem?_eq_some_iff.1 h2).2
    have b := (List.getElem?_eq_some_iff.1 h).2
    rw [a, b]
  exact (List.getElem_inj hd).1 e
/-- where y stands behind it -/
theorem nx_at (L : List α) (y : α) : (nx L y)[ix L y]? = some y := by
  unfold nx
  by_cases h : y ∈ L
  · rw [if_pos h]; exact (ix_mem h).2
  · rw [if_neg h, ix_not h]; simp
theorem nx_nodup {L : List α} (h : L.Nodup) (y : α) : (nx L y).Nodup := by
  unfold nx
  by_cases hy : y ∈ L
  · rw [if_pos hy]; exact h
  · rw [if_neg hy, List.nodup_append]
    exact ⟨h, by simp, fun a ha b hb => by simp at hb; subst hb; exact fun e => hy (e ▸ ha)⟩
theorem nx_old {L : List α} {y x : α} {i : Nat} (h : L[i]? = some x) : (nx L y)[i]? = some x := by
  unfold nx
  by_cases hy : y ∈ L
  · rw [if_pos hy]; exact h
  · rw [if_neg hy, List.getElem?_append_left (List.getElem?_eq_some_iff.1 h).1]; exact h
theorem nx_len (L : List α) (y : α) : L.length ≤ (nx L y).length ∧ (nx L y).length ≤ L.length + 1 := by
  unfold nx
  by_cases hy : y ∈ L
  · rw [if_pos hy]; omega
  · rw [if_neg hy]; simp
end

/-- all of the first t steps went from a state that was there -/
def Live {α : Type} [DecidableEq α] (step : α → Nat → α) (E : Nat) (s0 : α) (t : Nat) : Prop := ∀ t', t' < t → t' < E * (ex step E s0 t').1.length

section
variable {α : Type} [DecidableEq α] {step : α → Nat → α} {E : Nat} {s0 : α}
theorem div_lt {t n : Nat} (h : t < E * n) : t / E < n := Nat.div_lt_of_lt_mul h
theorem ex_succ {t : Nat} (h : t < E * (ex step E s0 t).1.length) : ∃ x, (ex step E s0 t).1[t / E]? = some x ∧ ex step E s0 (t + 1) = (nx (ex step E s0 t).1 (step x (t % E)), (ex step E s0 t).2 ++ [ix (ex step E s0 t).1 (step x (t % E))]) := by
  have h1 := div_lt h
  refine ⟨_, List.getElem?_eq_getElem h1, ?_⟩
  show (match (ex step E s0 t).1[t / E]? with
    | none => ex step E s0 t
    | some x => (nx (ex step E s0 t).1 (step x (t % E)), (ex step E s0 t).2 ++ [ix (ex step E s0 t).1 (step x (t % E))])) = _
  rw [List.getElem?_eq_getElem h1]
theorem Live.less {t t' : Nat} (h : Live step E s0 t) (ht : t' ≤ t) : Live step E s0 t' := fun u hu => h u (by omega)
theorem ex_len {t : Nat} (h : Live step E s0 t) : (ex step E s0 t).2.length = t := by
  induction t with
  | zero => rfl
  | succ t ih =>
    obtain ⟨x, _, e⟩ := ex_succ (h t (by omega))
    rw [e]
    simp [ih (h.less (by omega))]
theorem ex_nodup {t : Nat} (h : Live step E s0 t) : (ex step E s0 t).1.Nodup := by
  induction t with
  | zero => simp [ex]
  | succ t ih =>
    obtain ⟨x, _, e⟩ := ex_succ (h t (by omega))
    rw [e]
    exact nx_nodup (ih (h.less (by omega))) _
/-- what was found stays where it was -/
theorem ex_old {t d : Nat} (h : Live step E s0 (t + d)) {i : Nat} {x : α} (hx : (ex step E s0 t).1[i]? = some x) : (ex step E s0 (t + d)).1[i]? = some x := by
  induction d with
  | zero => exact hx
  | succ d ih =>
    obtain ⟨y, _, e⟩ := ex_succ (h (t + d) (by omega))
    rw [show t + (d + 1) = t + d + 1 by omega, e]
    exact nx_old (ih (h.less (by omega)))
theorem ex_first {t : Nat} (h : Live step E s0 t) : (ex step E s0 t).1[0]? = some s0 := by
  have := ex_old (t := 0) (d := t) (by rw [Nat.zero_add]; exact h) (i := 0) (x := s0) rfl
  rw [Nat.zero_add] at this
  exact this
theorem ex_grows {t d : Nat} (h : Live step E s0 (t + d)) : (ex step E s0 t).1.length ≤ (ex step E s0 (t + d)).1.length := by
  induction d with
  | zero => exact Nat.le_refl _
  | succ d ih =>
    obtain ⟨y, _, e⟩ := ex_succ (h (t + d) (by omega))
    rw [show t + (d + 1) = t + d + 1 by omega, e]
    exact Nat.le_trans (ih (h.less (by omega))) (nx_len _ _).1
theorem ex_to_old {t d : Nat} (h : Live step E s0 (t + d)) {u : Nat} (hu : u < t) : (ex step E s0 (t + d)).2[u]? = (ex step E s0 t).2[u]? := by
  induction d with
  | zero => rfl
  | succ d ih =>
    obtain ⟨y, _, e⟩ := ex_succ (h (t + d) (by omega))
    rw [show t + (d + 1) = t + d + 1 by omega, e]
    have hl := ex_len (h.less (show t + d ≤ t + (d + 1) by omega))
    rw [List.getElem?_append_left (by omega)]
    exact ih (h.less (by omega))
/-- where step u led -/
theorem ex_to {t u : Nat} (h : Live step E s0 t) (hu : u < t) : ∃ x i, (ex step E s0 t).1[u / E]? = some x ∧ (ex step E s0 t).2[u]? = some i ∧ (ex step E s0 t).1[i]? = some (step x (u % E)) ∧ i ≤ (ex step E s0 u).1.length ∧ u / E < (ex step E s0 u).1.length := by
  obtain ⟨d, rfl⟩ : ∃ d, t = u + 1 + d := ⟨t - u - 1, by omega⟩
  have hL := h u (by omega)
  obtain ⟨x, h1, e⟩ := ex_succ hL
  refine ⟨x, ix (ex step E s0 u).1 (step x (u % E)), ?_, ?_, ?_, ?_, div_lt hL⟩
  · have := ex_old (t := u) (d := 1 + d) (by rw [← Nat.add_assoc]; exact h) h1
    rw [← Nat.add_assoc] at this
    exact this
  · rw [ex_to_old h (by omega), e]
    have hl := ex_len (h.less (show u ≤ u + 1 + d by omega))
    rw [List.getElem?_append_right (by omega), hl]
    simp
  · refine ex_old h ?_
    rw [e]
    exact nx_at _ _
  · by_cases hm : step x (u % E) ∈ (ex step E s0 u).1
    · exact Nat.le_of_lt (ix_mem hm).1
    · exact Nat.le_of_eq (ix_not hm)

/-- the step by which state j was found -/
def Fst (step : α → Nat → α) (E : Nat) (s0 : α) (j u : Nat) : Prop := u < E * (ex step E s0 u).1.length ∧ (ex step E s0 u).1.length = j ∧ (ex step E s0 (u + 1)).1.length = j + 1
theorem fst_some {t : Nat} (h : Live step E s0 t) : ∀ j, 1 ≤ j → j < (ex step E s0 t).1.length → ∃ u, u < t ∧ Fst step E s0 j u := by
  induction t with
  | zero => intro j h1 h2; simp [ex] at h2; omega
  | succ t ih =>
    intro j h1 h2
    by_cases hj : j < (ex step E s0 t).1.length
    · obtain ⟨u, hu, hf⟩ := ih (h.less (by omega)) j h1 hj
      exact ⟨u, by omega, hf⟩
    · have hL := h t (by omega)
      obtain ⟨x, _, e⟩ := ex_succ hL
      have hn := nx_len (ex step E s0 t).1 (step x (t % E))
      have e2 : (ex step E s0 (t + 1)).1.length = (nx (ex step E s0 t).1 (step x (t % E))).length := by rw [e]
      exact ⟨t, by omega, hL, by omega, by omega⟩
/-- it led to j, and none ahead of it did -/
theorem fst_to {t : Nat} (h : Live step E s0 t) {j u : Nat} (hu : u < t) (hf : Fst step E s0 j u) : (ex step E s0 t).2[u]? = some j ∧ u / E < j ∧ ∀ u', u' < u → (ex step E s0 t).2[u']? ≠ some j := by
  obtain ⟨f1, f2, f3⟩ := hf
  refine ⟨?_, by rw [← f2]; exact div_lt f1, fun u' hu' q => ?_⟩
  · obtain ⟨d, rfl⟩ : ∃ d, t = u + 1 + d := ⟨t - u - 1, by omega⟩
    obtain ⟨x, h1, e⟩ := ex_succ f1
    rw [ex_to_old h (by omega), e]
    have hl := ex_len (h.less (show u ≤ u + 1 + d by omega))
    rw [List.getElem?_append_right (by omega), hl]
    have hm : step x (u % E) ∉ (ex step E s0 u).1 := fun hm => by
      rw [e] at f3
      simp only [nx, if_pos hm] at f3
      omega
    simp only [Nat.sub_self]
    rw [ix_not hm, f2]
    rfl
  · obtain ⟨x, i, a1, a2, a3, a4, a5⟩ := ex_to h (show u' < t by omega)
    rw [q] at a2
    injection a2 with a2
    subst a2
    -- behind u' there are more than j states already, so u' is not ahead of u
    have g : (ex step E s0 (u' + 1)).1[j]? = some (step x (u' % E)) := by
      obtain ⟨x', b1, e⟩ := ex_succ (h u' (by omega))
      have hx : x' = x := by
        obtain ⟨d, hd⟩ : ∃ d, t = u' + d := ⟨t - u', by omega⟩
        have := ex_old (t := u') (d := d) (by rw [← hd]; exact h) b1
        rw [← hd, a1] at this
        injection this with this; exact this.symm
      subst hx
      have hi : ix (ex step E s0 u').1 (step x' (u' % E)) = j := by
        obtain ⟨d, hd⟩ : ∃ d, t = u' + 1 + d := ⟨t - u' - 1, by omega⟩
        have q2 := ex_to_old (t := u' + 1) (d := d) (by rw [← hd]; exact h) (show u' < u' + 1 by omega)
        rw [← hd, q, e] at q2
        have hl := ex_len (h.less (show u' ≤ t by omega))
        rw [List.getElem?_append_right (by omega), hl] at q2
        simp at q2
        exact q2.symm
      rw [e, ← hi]
      exact nx_at _ _
    have hlen := (List.getElem?_eq_some_iff.1 g).1
    obtain ⟨d, hd⟩ : ∃ d, u = u' + 1 + d := ⟨u - u' - 1, by omega⟩
    have := ex_grows (t := u' + 1) (d := d) (by rw [← hd]; exact h.less (by omega))
    rw [← hd] at this
    omega

/-- what leads to state j -/
inductive Ld (step : α → Nat → α) (E : Nat) (s0 : α) : Nat → List Nat → Prop
  | zero : Ld step E s0 0 []
  | more {j u : Nat} {l : List Nat} (hj : 1 ≤ j) (hf : Fst step E s0 j u) (h : Ld step E s0 (u / E) l) : Ld step E s0 j (l ++ [u % E])
theorem fst_same {t : Nat} (h : Live step E s0 t) {j u u' : Nat} (hu : u < t) (hu' : u' < t) (hf : Fst step E s0 j u) (hf' : Fst step E s0 j u') : u = u' := by
  obtain ⟨a1, _, a3⟩ := fst_to h hu hf
  obtain ⟨b1, _, b3⟩ := fst_to h hu' hf'
  rcases Nat.lt_trichotomy u u' with q | q | q
  · exact absurd a1 (b3 u q)
  · exact q
  · exact absurd b1 (a3 u' q)
/-- a step by which a state was found is later for a later state -/
theorem fst_mono {t : Nat} (h : Live step E s0 t) {i j u v : Nat} (hu : u < t) (hv : v < t) (hf : Fst step E s0 i u) (hg : Fst step E s0 j v) (hij : i < j) : u < v := by
  rcases Nat.lt_or_ge u v with q | q
  · exact q
  · obtain ⟨d, hd⟩ : ∃ d, u = v + d := ⟨u - v, by omega⟩
    have := ex_grows (t := v) (d := d) (by rw [← hd]; exact h.less (by omega))
    rw [← hd, hf.2.1, hg.2.1] at this
    omega
theorem ld_some {t : Nat} (h : Live step E s0 t) : ∀ j, j < (ex step E s0 t).1.length → ∃ l, Ld step E s0 j l := by
  intro j
  induction j using Nat.strongRecOn with
  | _ j ih =>
    intro hj
    by_cases h0 : j = 0
    · subst h0; exact ⟨[], .zero⟩
    · obtain ⟨u, hu, hf⟩ := fst_some h j (by omega) hj
      have := (fst_to h hu hf).2.1
      obtain ⟨l, hl⟩ := ih (u / E) this (by omega)
      exact ⟨_, .more (by omega) hf hl⟩
/-- so long; a later state's is no shorter -/
theorem ld_mono {t : Nat} (h : Live step E s0 t) : ∀ j i l m, i ≤ j → j < (ex step E s0 t).1.length → Ld step E s0 i l → Ld step E s0 j m → l.length ≤ m.length ∧ (i = j → l = m) := by
  intro j
  induction j using Nat.strongRecOn with
  | _ j ih =>
    intro i l m hij hj hl hm
    have bound : ∀ {k u : Nat}, k < (ex step E s0 t).1.length → 1 ≤ k → Fst step E s0 k u → u < t := fun {k u} hk h1 hf => by
      obtain ⟨u', hu', hf'⟩ := fst_some h k h1 hk
      rcases Nat.lt_or_ge u t with q | q
      · exact q
      · obtain ⟨d, hd⟩ : ∃ d, u = u' + 1 + d := ⟨u - u' - 1, by omega⟩
        exfalso
        -- the number of states at u is k, but there were k + 1 behind u'
        have g : (ex step E s0 (u' + 1)).1.length ≤ (ex step E s0 t).1.length := by
          obtain ⟨d2, hd2⟩ : ∃ d2, t = u' + 1 + d2 := ⟨t - u' - 1, by omega⟩
          have := ex_grows (t := u' + 1) (d := d2) (by rw [← hd2]; exact h)
          rw [← hd2] at this; exact this
        have g2 : ∀ s, t ≤ s → (ex step E s0 t).1.length ≤ (ex step E s0 s).1.length := fun s hs => by
          induction hs with
          | refl => exact Nat.le_refl _
          | @step s _ ihs =>
            refine Nat.le_trans ihs ?_
            show _ ≤ (match (ex step E s0 s).1[s / E]? with
              | none => ex step E s0 s
              | some x => (nx (ex step E s0 s).1 (step x (s % E)), (ex step E s0 s).2 ++ [ix (ex step E s0 s).1 (step x (s % E))])).1.length
            cases (ex step E s0 s).1[s / E]? with
            | none => exact Nat.le_refl _
            | some x => exact (nx_len _ _).1
        have := g2 u q
        have := hf.2.1
        have := hf'.2.2
        omega
    cases hm with
    | zero => obtain rfl : i = 0 := by omega
              cases hl with
              | zero => exact ⟨Nat.le_refl _, fun _ => rfl⟩
              | more h1 => omega
    | @more _ v m' hj1 hg hm' =>
      have hv := bound hj hj1 hg
      have hvj := (fst_to h hv hg).2.1
      cases hl with
      | zero => exact ⟨by simp, fun e => by omega⟩
      | @more _ u l' hi1 hf hl' =>
        have hu := bound (by omega) hi1 hf
        by_cases e : i = j
        · subst e
          obtain rfl := fst_same h hu hv hf hg
          have := (ih (u / E) hvj (u / E) l' m' (Nat.le_refl _) (by omega) hl' hm').2 rfl
          subst this
          exact ⟨Nat.le_refl _, fun _ => rfl⟩
        · have huv := fst_mono h hu hv hf hg (by omega)
          have hd : u / E ≤ v / E := Nat.div_le_div_right (by omega)
          have := (ih (v / E) hvj (u / E) l' m' hd (by omega) hl' hm').1
          exact ⟨by simp; omega, fun q => absurd q e⟩
/-- it leads there -/
theorem ld_run {t : Nat} (h : Live step E s0 t) : ∀ j l, Ld step E s0 j l → j < (ex step E s0 t).1.length → (ex step E s0 t).1[j]? = some (l.foldl step s0) := by
  intro j l hl
  induction hl with
  | zero => intro _; exact ex_first h
  | @more j u l hj hf hl ih =>
    intro hjl
    obtain ⟨u', hu', hf'⟩ := fst_some h j hj hjl
    have hu : u < t := by
      rcases Nat.lt_or_ge u t with q | q
      · exact q
      · exfalso
        have g2 : ∀ s, t ≤ s → (ex step E s0 t).1.length ≤ (ex step E s0 s).1.length := fun s hs => by
          induction hs with
          | refl => exact Nat.le_refl _
          | @step s _ ihs =>
            refine Nat.le_trans ihs ?_
            show _ ≤ (match (ex step E s0 s).1[s / E]? with
              | none => ex step E s0 s
              | some x => (nx (ex step E s0 s).1 (step x (s % E)), (ex step E s0 s).2 ++ [ix (ex step E s0 s).1 (step x (s % E))])).1.length
            cases (ex step E s0 s).1[s / E]? with
            | none => exact Nat.le_refl _
            | some x => exact (nx_len _ _).1
        have := g2 u q
        have := hf.2.1
        omega
    obtain ⟨a1, a2, _⟩ := fst_to h hu hf
    obtain ⟨x, i, b1, b2, b3, _, _⟩ := ex_to h hu
    rw [a1] at b2
    injection b2 with b2
    subst b2
    have := ih (by omega)
    rw [b1] at this
    injection this with this
    rw [b3, List.foldl_append, ← this]
    rfl

/-- all steps of all states have been gone -/
def Done (step : α → Nat → α) (E : Nat) (s0 : α) (t : Nat) : Prop := Live step E s0 t ∧ t = E * (ex step E s0 t).1.length
/-- NOTHING ELSE IS COME TO -/
theorem done_closed {t : Nat} (h : Done step E s0 t) {j n : Nat} {x : α} (hx : (ex step E s0 t).1[j]? = some x) (hn : n < E) : ∃ i, (ex step E s0 t).2[E * j + n]? = some i ∧ (ex step E s0 t).1[i]? = some (step x n) := by
  obtain ⟨hL, ht⟩ := h
  have hj := (List.getElem?_eq_some_iff.1 hx).1
  have hu : E * j + n < t := by
    rw [ht]
    have : E * (j + 1) ≤ E * (ex step E s0 t).1.length := Nat.mul_le_mul_left E (by omega)
    rw [Nat.mul_add, Nat.mul_one] at this
    omega
  obtain ⟨y, i, a1, a2, a3, _, _⟩ := ex_to hL hu
  have e1 : (E * j + n) / E = j := by rw [Nat.mul_add_div (by omega), Nat.div_eq_of_lt hn, Nat.add_zero]
  have e2 : (E * j + n) % E = n := by rw [Nat.mul_add_mod, Nat.mod_eq_of_lt hn]
  rw [e1, hx] at a1
  injection a1 with a1
  subst a1
  rw [e2] at a3
  exact ⟨i, a2, a3⟩
theorem done_run {t : Nat} (h : Done step E s0 t) : ∀ l : List Nat, (∀ n ∈ l, n < E) → l.foldl step s0 ∈ (ex step E s0 t).1 := by
  have go : ∀ (l : List Nat) (x : α), x ∈ (ex step E s0 t).1 → (∀ n ∈ l, n < E) → l.foldl step x ∈ (ex step E s0 t).1 := by
    intro l
    induction l with
    | nil => intro x hx _; exact hx
    | cons n l ih =>
      intro x hx hn
      obtain ⟨j, hj, rfl⟩ := List.getElem_of_mem hx
      obtain ⟨i, _, hi⟩ := done_closed h (List.getElem?_eq_getElem hj) (hn n (by simp))
      exact ih _ (List.mem_of_getElem? hi) (fun m hm => hn m (by simp [hm]))
  exact fun l hl => go l s0 (List.mem_of_getElem? (ex_first h.1)) hl
/-- EACH BY NOTHING SHORTER -/
theorem done_short {t : Nat} (h : Done step E s0 t) : ∀ (l : List Nat), (∀ n ∈ l, n < E) → ∀ j m, Ld step E s0 j m → (ex step E s0 t).1[j]? = some (l.foldl step s0) → m.length ≤ l.length := by
  intro l
  have key : ∀ (k : Nat) (l : List Nat), l.length = k → (∀ n ∈ l, n < E) → ∀ j m, Ld step E s0 j m → (ex step E s0 t).1[j]? = some (l.foldl step s0) → m.length ≤ l.length := by
    intro k
    induction k with
    | zero =>
      intro l hk hl j m hm hj
      have : l = [] := List.eq_nil_of_length_eq_zero hk
      subst this
      have e1 := ix_at (ex_nodup h.1) hj
      have e2 := ix_at (ex_nodup h.1) (ex_first h.1)
      have : j = 0 := by rw [← e1, ← e2]; rfl
      subst this
      cases hm with
      | zero => exact Nat.le_refl _
      | more h1 => omega
    | succ k ih =>
      intro l hk hl j m hm hj
      rcases List.eq_nil_or_concat l with rfl | ⟨l', n, rfl⟩
      · simp at hk
      · rw [List.concat_eq_append] at hk hl hj ⊢
        have hmem := done_run h l' (fun n hn => hl n (by simp [hn]))
        obtain ⟨i, hi, hie⟩ := List.getElem_of_mem hmem
        have hi' : (ex step E s0 t).1[i]? = some (l'.foldl step s0) := by rw [List.getElem?_eq_getElem hi, hie]
        obtain ⟨mi, hmi⟩ := ld_some h.1 i hi
        have h1 := ih l' (by simp at hk; omega) (fun n hn => hl n (by simp [hn])) i mi hmi hi'
        obtain ⟨j', b1, b2⟩ := done_closed h hi' (hl n (by simp))
        have hj' : (ex step E s0 t).1[j]? = some (step (l'.foldl step s0) n) := by rw [hj, List.foldl_append]; rfl
        have e : j' = j := by
          have e1 := ix_at (ex_nodup h.1) b2
          have e2 := ix_at (ex_nodup h.1) hj'
          omega
        subst e
        cases hm with
        | zero => simp
        | @more _ u m' hj1 hf hm' =>
          have hjl := (List.getElem?_eq_some_iff.1 hj').1
          obtain ⟨u2, hu2, hf2⟩ := fst_some h.1 j' hj1 hjl
          have hun : E * i + n < t := by
            have := (List.getElem?_eq_some_iff.1 b1).1
            rw [ex_len h.1] at this; exact this
          have huu : u2 ≤ E * i + n := by
            rcases Nat.lt_or_ge (E * i + n) u2 with q | q
            · exact absurd b1 ((fst_to h.1 hu2 hf2).2.2 _ q)
            · exact q
          have hm2 : Ld step E s0 j' (m' ++ [u % E]) := .more hj1 hf hm'
          obtain ⟨l2, hl2⟩ := ld_some h.1 (u2 / E) (by have := (fst_to h.1 hu2 hf2).2.1; omega)
          have hm3 : Ld step E s0 j' (l2 ++ [u2 % E]) := .more hj1 hf2 hl2
          have hsame := (ld_mono h.1 j' j' _ _ (Nat.le_refl _) hjl hm2 hm3).2 rfl
          have hd : u2 / E ≤ i := by
            have hE : 0 < E := by have := hl n (by simp); omega
            have : u2 / E ≤ (E * i + n) / E := Nat.div_le_div_right huu
            rw [Nat.mul_add_div hE, Nat.div_eq_of_lt (hl n (by simp)), Nat.add_zero] at this
            exact this
          have h2 := (ld_mono h.1 i (u2 / E) l2 mi hd hi hl2 hmi).1
          rw [hsame]
          simp
          omega
  exact fun hl => key _ l rfl hl
end

end Go.Proofs.Ytbnofjpiioneiaa

namespace Go.Proofs.Ytbnofjpiioneiaa

/-- the first k of what f tells -/
def outs (f : Nat → Int) (k : Nat) : List Int := (List.range k).map f
theorem outs_len (f : Nat → Int) (k : Nat) : (outs f k).length = k := by simp [outs]
theorem outs_succ (f : Nat → Int) (k : Nat) : outs f (k + 1) = outs f k ++ [f k] := by simp [outs, List.range_succ]
theorem outs_getD (f : Nat → Int) (k j : Nat) (h : j < k) : (outs f k).getD j 0 = f j := by
  simp [outs, List.getD_eq_getElem?_getD, h]
theorem outs_ext {f g : Nat → Int} {k : Nat} (h : ∀ j, j < k → f j = g j) : outs f k = outs g k := by
  unfold outs; apply List.map_congr_left; intro a ha; exact h a (List.mem_range.1 ha)
theorem list_ext {xs ys : List Int} (hl : xs.length = ys.length) (h : ∀ j, j < xs.length → xs.getD j 0 = ys.getD j 0) : xs = ys := by
  apply List.ext_getElem hl
  intro j h1 h2
  have := h j h1
  rw [List.getD_eq_getElem?_getD, List.getD_eq_getElem?_getD, List.getElem?_eq_getElem h1, List.getElem?_eq_getElem h2] at this
  exact this
theorem outs_self (xs : List Int) : outs (fun j => xs.getD j 0) xs.length = xs :=
  list_ext (outs_len _ _) fun j hj => by rw [outs_len] at hj; exact outs_getD _ _ _ hj

end Go.Proofs.Ytbnofjpiioneiaa

namespace Go.Proofs.Ytbnofjpiioneiaa
open Go.RowKit

theorem ret_int {k : IntKind} {a b : Int} (h : a = b) : Ending.returned (.int k a) = .returned (.int k b) := by rw [h]

theorem below_drewN {B : Nat} {w w1 : World} (h : Below B w w1) (n : Nat) : Below B w (w1.drewN n) := by
  induction n with
  | zero => exact h
  | succ n ih => exact Below.drew ih

theorem Try.info3 : (Try.prog.info? 3).map (fun i => (i.zero, i.size, i.bytes)) = some (some (.int .i64 0), 1, 8) := by kernel_rfl

/-- a slice that holds zs -/
def Row (w : World) (ao : Option Addr) (zs : List Int) : Prop :=
  zs = [] ∨ ∃ b off, ao = some ⟨b, off, none⟩ ∧ ∀ j, j < zs.length → w.cell? ⟨b, off + j, none⟩ = some (.int .i64 (zs.getD j 0))

theorem block_lt {w : World} {a : Addr} {v : Value} (h : w.cell? a = some v) : a.block < w.heap.size := by
  rcases Nat.lt_or_ge a.block w.heap.size with k | k
  · exact k
  · simp [World.cell?, Array.getElem?_eq_none k] at h

theorem Row.kept {w w' : World} {ao : Option Addr} {zs : List Int} (h : Row w ao zs) (b : Below w.heap.size w w') : Row w' ao zs := by
  rcases h with h | ⟨g, off, rfl, h⟩
  · exact .inl h
  · exact .inr ⟨g, off, rfl, fun j hj => (b.cell (p := ⟨g, off + j, none⟩) (block_lt (h j hj))).trans (h j hj)⟩

/-- one of its numbers is there -/
theorem Row.at {w : World} {ao : Option Addr} {zs : List Int} (h : Row w ao zs) (hp : 0 < zs.length) : ∃ b off, ao = some ⟨b, off, none⟩ ∧ ∀ j, j < zs.length → w.cell? ⟨b, off + j, none⟩ = some (.int .i64 (zs.getD j 0)) := by
  rcases h with e | e
  · subst e; simp at hp
  · exact e

theorem bthen {w w1 w2 : World} (h : Below w.heap.size w w1) (k : Below w1.heap.size w1 w2) : Below w.heap.size w w2 := h.trans (k.mono h.size)
theorem balloc {w w1 : World} (h : Below w.heap.size w w1) (o : Obj) : Below w.heap.size w (w1.alloc o) := h.alloc h.size o
theorem Row.alloc {w : World} {ao : Option Addr} {zs : List Int} (h : Row w ao zs) (o : Obj) : Row (w.alloc o) ao zs := h.kept (balloc (Below.refl _ _) o)
theorem Row.drewN {w : World} {ao : Option Addr} {zs : List Int} (h : Row w ao zs) (n : Nat) : Row (w.drewN n) ao zs := h

theorem getD_snoc_old (R : List Int) (v : Int) (j : Nat) (h : j < R.length) : (R ++ [v]).getD j 0 = R.getD j 0 := by
  rw [List.getD_eq_getElem?_getD, List.getD_eq_getElem?_getD, List.getElem?_append_left h]
theorem getD_snoc_new (R : List Int) (v : Int) (j : Nat) (h : j = R.length) : (R ++ [v]).getD j 0 = v := by
  subst h; simp [List.getD_eq_getElem?_getD]

/-- what has been answered so far, in block O, that was made for n numbers -/
structure Out (w : World) (O n : Nat) (R : List Int) : Prop where
  c : ∀ j, j < R.length → w.cell? ⟨O, j, none⟩ = some (.int .i64 (R.getD j 0))
  room : ∀ j, j < n → (w.cell? ⟨O, j, none⟩).isSome = true ∧ w.frozen? ⟨O, j, none⟩ = false

theorem Out.start (w : World) (n : Nat) : Out (w.alloc (.cells (madeCells #[.int .i64 0] n) 3)) w.heap.size n [] := by
  refine ⟨fun j h => by simp at h, fun j hj => ?_⟩
  rw [World.cell?_alloc_at _ _ _ _ rfl, World.frozen?_alloc_at _ _ _ _ rfl]
  refine ⟨?_, rfl⟩
  rw [Array.getElem?_eq_getElem (by simp [madeCells]; exact hj)]; rfl

theorem Out.put {w : World} {O n : Nat} {R : List Int} (h : Out w O n R) (hk : R.length < n) (v : Int) : Out (w.setCell ⟨O, R.length, none⟩ (.int .i64 v)) O n (R ++ [v]) := by
  refine ⟨fun j hj => ?_, fun j hj => ?_⟩
  · by_cases e : j = R.length
    · subst e
      rw [getD_snoc_new _ _ _ rfl]
      obtain ⟨u, hu⟩ := Option.isSome_iff_exists.1 (h.room R.length hk).1
      exact World.cell?_setCell_same _ _ _ hu
    · have hj' : j < R.length := by simp at hj; omega
      rw [getD_snoc_old _ _ _ hj', World.cell?_setCell_other _ _ _ _ (fun q => e (by injection q with _ q _; exact q.symm))]
      exact h.c j hj'
  · rw [World.frozen?_setCell]
    refine ⟨?_, (h.room j hj).2⟩
    by_cases e : j = R.length
    · subst e
      obtain ⟨u, hu⟩ := Option.isSome_iff_exists.1 (h.room R.length hk).1
      rw [World.cell?_setCell_same _ _ _ hu]; rfl
    · rw [World.cell?_setCell_other _ _ _ _ (fun q => e (by injection q with _ q _; exact q.symm))]
      exact (h.room j hj).1

theorem Out.drewN {w : World} {O n : Nat} {R : List Int} (h : Out w O n R) (q : Nat) : Out (w.drewN q) O n R := ⟨h.c, h.room⟩
theorem Out.row {w : World} {O n : Nat} {R : List Int} (h : Out w O n R) : Row w (some ⟨O, 0, none⟩) R := .inr ⟨O, 0, rfl, fun j hj => by rw [Nat.zero_add]; exact h.c j hj⟩

theorem owned_row {w : World} {base : Nat} {t : Value} {R : List Int} (h : w.ownsRow base 3 1 t R.length (R.map (Value.int .i64))) : ∃ ao cap, t = .slice ao R.length cap ∧ Row w ao R := by
  obtain ⟨hl, ⟨e, e2⟩ | ⟨g, cap, cur, e, _, hh, _, _, _, htk⟩⟩ := h
  · have hR : R = [] := List.eq_nil_of_length_eq_zero e2
    subst hR
    exact ⟨none, 0, e, .inl rfl⟩
  · refine ⟨_, cap, e, .inr ⟨g, 0, rfl, fun j hj => ?_⟩⟩
    have : (R.map (Value.int .i64))[j]? = some (.int .i64 (R.getD j 0)) := by simp [List.getD_eq_getElem?_getD, hj]
    rw [← htk, List.getElem?_take_of_lt (by omega)] at this
    rw [Nat.zero_add]
    simp [World.cell?, hh]
    simpa using this

theorem own_kept {wr w1 : World} {base : Nat} {t : Value} {n : Nat} {xs : List Value} (h : wr.ownsRow base 3 1 t n xs) (b : Below wr.heap.size wr w1) : w1.ownsRow base 3 1 t n xs := by
  obtain ⟨hl, h2⟩ := h
  refine ⟨hl, ?_⟩
  rcases h2 with e | ⟨g, cap, cur, e, hg, hh, r⟩
  · exact .inl e
  · refine .inr ⟨g, cap, cur, e, hg, ?_, r⟩
    have : g < wr.heap.size := lt_of_block hh
    rw [b.block g this]; exact hh

/-- rows that grow: what has been gathered so far, in a row of the call's own -/
structure Gath (w : World) (t : Value) (wr : World) (R : List Int) : Prop where
  own : wr.ownsRow w.heap.size 3 1 t R.length (R.map (Value.int .i64))
  below : Below w.heap.size w wr
theorem Gath.start (w : World) : Gath w (.slice none 0 0) w [] := ⟨World.ownsRow_nil _ _ _ _, Below.refl _ _⟩
theorem Gath.step {w : World} {t t' : Value} {wr w1 w2 : World} {R : List Int} (h : Gath w t wr R) {x : Int}
    (hb : Below wr.heap.size wr w1) (ho : w2.ownsRow w.heap.size 3 1 t' (R.length + 1) (R.map (Value.int .i64) ++ [.int .i64 x])) {o : Obj} (hg : (w1.alloc o).grownBy w2 t.ownBlock) : Gath w t' w2 (R ++ [x]) := by
  refine ⟨by simpa using ho, ?_⟩
  have b1 := balloc (bthen h.below hb) o
  exact b1.grown hg b1.size (fun q hq => (h.own.lt q hq).1)

end Go.Proofs.Ytbnofjpiioneiaa
