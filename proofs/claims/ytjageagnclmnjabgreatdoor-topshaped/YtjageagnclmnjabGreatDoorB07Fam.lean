/- PROVED: bench.Parse reads just the texts that rules have. states that are found one after another, on plain lists: each is there once, nothing else is come to, what leads to each is the shortest. how rows of pairs and rows of rounds lie in memory, what keeps them; what lies there while Play goes on. a region that draws its order, by what holds of it behind whichever of its operations have come up. five rows of one struct that grow, each in a block of its own, and blocks that they leave alone. CONDITIONS: none beyond each theorem's own. -/
import Derived.Test.YtjageagnclmnjabGreatDoorB06Prs
import Derived.Test.YtjageagnclmnjabGreatDoorB02DMem
import Derived.Test.YtjageagnclmnjabGreatDoorB01Tx
import Derived.Test.YtjageagnclmnjabGreatDoorB00Pw
import Derived.Deep.RegionHeld3
import Derived.Maps.AppendAt
namespace Go.Proofs.YtjageagnclmnjabGreatDoor.D
set_option maxRecDepth 100000
open Go.RowKit K
set_option linter.unusedVariables false

/-- a text is that of rules that hold -/
def Rd (l : List UInt8) (r : Ru) : Prop := wrong r = 0 ∧ tx r = l
theorem kd_nme {k : Int} (h : 1 ≤ k ∧ k ≤ 3) : kd (nme k) = k := by
  rcases (show k = 1 ∨ k = 2 ∨ k = 3 by omega) with rfl | rfl | rfl <;> rfl
theorem nb_of {n : Int} (h : 0 ≤ n ∧ n ≤ 16) : nb (dig n.toNat) = n := by
  have := nb_dig n.toNat (by omega)
  show nb (Lib.decDigits n.toNat) = n
  omega
theorem same_text {l : List UInt8} {s : ByteArray} {b : Bool} (h : decide (l = s.data.toList) = b) : ((ByteArray.mk l.toArray).toList == s.toList) = b := by
  rw [same_is, ← h]
  congr 1
  exact propext ⟨fun e => e.symm, fun e => e.symm⟩

theorem parse_rd (s : ByteArray) (hs : s.size ≤ 140737488355328) (r : Ru) (h : Rd s.data.toList r) (w : World) (L : Lw w) :
    Calls Tryz.prog 43 #[.string s] w fun e w' => e = .returned (.tuple #[.agg #[.int .i64 r.k0, .int .i64 r.k1, .int .i64 r.r, .int .i64 r.m, .int .i64 r.j], .int .i64 0]) ∧ Below w.heap.size w w' := by
  obtain ⟨hk, hr⟩ := rgt_of h.1
  have hw := tx_words hr
  rw [h.2] at hw
  obtain ⟨p0, p1, p2, p3, p4, N, hp, ⟨z0, z1, z2, z3, z4⟩, c⟩ := split_yes s hs (by rw [hw]; rfl)
  rw [hp] at hw
  simp only [List.cons.injEq, and_true] at hw
  obtain ⟨e0, e1, e2, e3, e4⟩ := hw
  unfold kinds at hk
  unfold ranges at hr
  have k0 : ∀ v, Lw v → Calls Tryz.prog 56 #[.string p0] v fun e w' => e = .returned (.int .i64 r.k0) ∧ w' = v := fun v l => by
    have := kindof p0 v l
    rwa [e0, kd_nme hk.1] at this
  have k1 : ∀ v, Lw v → Calls Tryz.prog 56 #[.string p1] v fun e w' => e = .returned (.int .i64 r.k1) ∧ w' = v := fun v l => by
    have := kindof p1 v l
    rwa [e1, kd_nme hk.2] at this
  have m0 : ∀ v, Lw v → Calls Tryz.prog 57 #[.string p2] v fun e w' => e = .returned (.int .i64 r.r) ∧ Below v.heap.size v w' := fun v l => by
    have := numberof p2 (by omega) v l
    rwa [e2, nb_of (by omega)] at this
  have m1 : ∀ v, Lw v → Calls Tryz.prog 57 #[.string p3] v fun e w' => e = .returned (.int .i64 r.m) ∧ Below v.heap.size v w' := fun v l => by
    have := numberof p3 (by omega) v l
    rwa [e3, nb_of (by omega)] at this
  have m2 : ∀ v, Lw v → Calls Tryz.prog 57 #[.string p4] v fun e w' => e = .returned (.int .i64 r.j) ∧ Below v.heap.size v w' := fun v l => by
    have := numberof p4 (by omega) v l
    rwa [e4, nb_of (by omega)] at this
  exact parse_of s p0 p1 p2 p3 p4 ⟨(tx r).toArray⟩ N r.k0 r.k1 r.r r.m r.j 0 w L c k0 k1 m0 m1 m2 (fun v l => print_yes r h.1 v l) false false rfl (same_text (decide_eq_true h.2))

theorem parse_not (s : ByteArray) (hs : s.size ≤ 140737488355328) (h : ∀ r, ¬ Rd s.data.toList r) (w : World) (L : Lw w) :
    Calls Tryz.prog 43 #[.string s] w fun e w' => e = .returned (.tuple #[.agg #[.int .i64 0, .int .i64 0, .int .i64 0, .int .i64 0, .int .i64 0], .int .i64 1]) ∧ Below w.heap.size w w' := by
  by_cases h5 : (wds s.data.toList).length = 5
  · obtain ⟨p0, p1, p2, p3, p4, N, hp, ⟨z0, z1, z2, z3, z4⟩, c⟩ := split_yes s hs h5
    have k0 := fun v l => kindof p0 v l
    have k1 := fun v l => kindof p1 v l
    have m0 := fun v l => numberof p2 (by omega) v l
    have m1 := fun v l => numberof p3 (by omega) v l
    have m2 := fun v l => numberof p4 (by omega) v l
    obtain ⟨r, hr⟩ : ∃ r : Ru, r = ⟨kd p0.data.toList, kd p1.data.toList, nb p2.data.toList, nb p3.data.toList, nb p4.data.toList⟩ := ⟨_, rfl⟩
    by_cases hE : wrong r = 0
    · have hne : ¬ tx r = s.data.toList := fun e => h r ⟨hE, e⟩
      have pr := fun v l => print_yes r hE v l
      subst hr
      exact parse_of s p0 p1 p2 p3 p4 ⟨(tx _).toArray⟩ N _ _ _ _ _ 0 w L c k0 k1 m0 m1 m2 pr false true rfl (same_text (decide_eq_false hne))
    · have he : (wrong r != 0) = true := by simpa using hE
      have pr := fun v (_ : Lw v) => print_no r (wrong r) rfl he v
      subst hr
      have q := parse_of s p0 p1 p2 p3 p4 ⟨#[]⟩ N _ _ _ _ _ _ w L c k0 k1 m0 m1 m2 pr true (!((ByteArray.mk #[]).toList == s.toList)) he (by rw [Bool.not_not])
      simpa using q
  · exact parse_no s hs h5 w
end Go.Proofs.YtjageagnclmnjabGreatDoor.D

namespace Go.Proofs.YtjageagnclmnjabGreatDoor
set_option linter.unusedVariables false

section
variable {α : Type} [DecidableEq α] (step : α → Nat → α) (E : Nat) (s0 : α)

/-- where y stands among L (behind all, if it does not) -/
def ix : List α → α → Nat
  | [], _ => 0
  | x :: L, y => if x = y then 0 else ix L y + 1
/-- what was not found yet is the next -/
def nx (L : List α) (y : α) : List α := if y ∈ L then L else L ++ [y]
/-- behind t steps: what was found, and where each step led -/
def ex : Nat → List α × List Nat
  | 0 => ([s0], [])
  | t + 1 => match (ex t).1[t / E]? with
    | none => ex t
    | some x => (nx (ex t).1 (step x (t % E)), (ex t).2 ++ [ix (ex t).1 (step x (t % E))])
end
section
variable {α : Type} [DecidableEq α]
theorem ix_mem {L : List α} {y : α} (h : y ∈ L) : ix L y < L.length ∧ L[ix L y]? = some y := by
  induction L with
  | nil => cases h
  | cons x L ih =>
    unfold ix
    by_cases e : x = y
    · rw [if_pos e]; subst e; exact ⟨by simp, rfl⟩
    · rw [if_neg e]
      rcases List.mem_cons.1 h with rfl | h
      · exact absurd rfl e
      · obtain ⟨h1, h2⟩ := ih h
        exact ⟨by simp; omega, by simpa using h2⟩
theorem ix_not {L : List α} {y : α} (h : y ∉ L) : ix L y = L.length := by
  induction L with
  | nil => rfl
  | cons x L ih =>
    unfold ix
    rw [if_neg (fun e => h (by simp [e])), ih (fun q => h (by simp [q]))]
    rfl
/-- where y stands behind it -/
theorem nx_at (L : List α) (y : α) : (nx L y)[ix L y]? = some y := by
  unfold nx
  by_cases h : y ∈ L
  · rw [if_pos h]; exact (ix_mem h).2
  · rw [if_neg h, ix_not h]; simp
theorem nx_nodup {L : List α} (h : L.Nodup) (y : α) : (nx L y).Nodup := by
  unfold nx
  by_cases hy : y ∈ L
  · rw [if_pos hy]; exact h
  · rw [if_neg hy, List.nodup_append]
    exact ⟨h, by simp, fun a ha b hb => by simp at hb; subst hb; exact fun e => hy (e ▸ ha)⟩
theorem nx_old {L : List α} {y x : α} {i : Nat} (h : L[i]? = some x) : (nx L y)[i]? = some x := by
  unfold nx
  by_cases hy : y ∈ L
  · rw [if_pos hy]; exact h
  · rw [if_neg hy, List.getElem?_append_left (List.getElem?_eq_some_iff.1 h).1]; exact h
theorem nx_len (L : List α) (y : α) : L.length ≤ (nx L y).length ∧ (nx L y).length ≤ L.length + 1 := by
  unfold nx
  by_cases hy : y ∈ L
  · rw [if_pos hy]; omega
  · rw [if_neg hy]; simp
end

/-- all of the first t steps went from a state that was there -/
def Live {α : Type} [DecidableEq α] (step : α → Nat → α) (E : Nat) (s0 : α) (t : Nat) : Prop := ∀ t', t' < t → t' < E * (ex step E s0 t').1.length

section
variable {α : Type} [DecidableEq α] {step : α → Nat → α} {E : Nat} {s0 : α}
theorem div_lt {t n : Nat} (h : t < E * n) : t / E < n := Nat.div_lt_of_lt_mul h
theorem ex_succ {t : Nat} (h : t < E * (ex step E s0 t).1.length) : ∃ x, (ex step E s0 t).1[t / E]? = some x ∧ ex step E s0 (t + 1) = (nx (ex step E s0 t).1 (step x (t % E)), (ex step E s0 t).2 ++ [ix (ex step E s0 t).1 (step x (t % E))]) := by
  have h1 := div_lt h
  refine ⟨_, List.getElem?_eq_getElem h1, ?_⟩
  show (match (ex step E s0 t).1[t / E]? with
    | none => ex step E s0 t
    | some x => (nx (ex step E s0 t).1 (step x (t % E)), (ex step E s0 t).2 ++ [ix (ex step E s0 t).1 (step x (t % E))])) = _
  rw [List.getElem?_eq_getElem h1]
theorem Live.less {t t' : Nat} (h : Live step E s0 t) (ht : t' ≤ t) : Live step E s0 t' := fun u hu => h u (by omega)
theorem ex_len {t : Nat} (h : Live step E s0 t) : (ex step E s0 t).2.length = t := by
  induction t with
  | zero => rfl
  | succ t ih =>
    obtain ⟨x, _, e⟩ := ex_succ (h t (by omega))
    rw [e]
    simp [ih (h.less (by omega))]
theorem ex_nodup {t : Nat} (h : Live step E s0 t) : (ex step E s0 t).1.Nodup := by
  induction t with
  | zero => simp [ex]
  | succ t ih =>
    obtain ⟨x, _, e⟩ := ex_succ (h t (by omega))
    rw [e]
    exact nx_nodup (ih (h.less (by omega))) _
/-- what was found stays where it was -/
theorem ex_old {t d : Nat} (h : Live step E s0 (t + d)) {i : Nat} {x : α} (hx : (ex step E s0 t).1[i]? = some x) : (ex step E s0 (t + d)).1[i]? = some x := by
  induction d with
  | zero => exact hx
  | succ d ih =>
    obtain ⟨y, _, e⟩ := ex_succ (h (t + d) (by omega))
    rw [show t + (d + 1) = t + d + 1 by omega, e]
    exact nx_old (ih (h.less (by omega)))
theorem ex_first {t : Nat} (h : Live step E s0 t) : (ex step E s0 t).1[0]? = some s0 := by
  have := ex_old (t := 0) (d := t) (by rw [Nat.zero_add]; exact h) (i := 0) (x := s0) rfl
  rw [Nat.zero_add] at this
  exact this
theorem ex_grows {t d : Nat} (h : Live step E s0 (t + d)) : (ex step E s0 t).1.length ≤ (ex step E s0 (t + d)).1.length := by
  induction d with
  | zero => exact Nat.le_refl _
  | succ d ih =>
    obtain ⟨y, _, e⟩ := ex_succ (h (t + d) (by omega))
    rw [show t + (d + 1) = t + d + 1 by omega, e]
    exact Nat.le_trans (ih (h.less (by omega))) (nx_len _ _).1
theorem ex_to_old {t d : Nat} (h : Live step E s0 (t + d)) {u : Nat} (hu : u < t) : (ex step E s0 (t + d)).2[u]? = (ex step E s0 t).2[u]? := by
  induction d with
  | zero => rfl
  | succ d ih =>
    obtain ⟨y, _, e⟩ := ex_succ (h (t + d) (by omega))
    rw [show t + (d + 1) = t + d + 1 by omega, e]
    have hl := ex_len (h.less (show t + d ≤ t + (d + 1) by omega))
    rw [List.getElem?_append_left (by omega)]
    exact ih (h.less (by omega))
/-- where step u led -/
theorem ex_to {t u : Nat} (h : Live step E s0 t) (hu : u < t) : ∃ x i, (ex step E s0 t).1[u / E]? = some x ∧ (ex step E s0 t).2[u]? = some i ∧ (ex step E s0 t).1[i]? = some (step x (u % E)) ∧ i ≤ (ex step E s0 u).1.length ∧ u / E < (ex step E s0 u).1.length := by
  obtain ⟨d, rfl⟩ : ∃ d, t = u + 1 + d := ⟨t - u - 1, by omega⟩
  have hL := h u (by omega)
  obtain ⟨x, h1, e⟩ := ex_succ hL
  refine ⟨x, ix (ex step E s0 u).1 (step x (u % E)), ?_, ?_, ?_, ?_, div_lt hL⟩
  · have := ex_old (t := u) (d := 1 + d) (by rw [← Nat.add_assoc]; exact h) h1
    rw [← Nat.add_assoc] at this
    exact this
  · rw [ex_to_old h (by omega), e]
    have hl := ex_len (h.less (show u ≤ u + 1 + d by omega))
    rw [List.getElem?_append_right (by omega), hl]
    simp
  · refine ex_old h ?_
    rw [e]
    exact nx_at _ _
  · by_cases hm : step x (u % E) ∈ (ex step E s0 u).1
    · exact Nat.le_of_lt (ix_mem hm).1
    · exact Nat.le_of_eq (ix_not hm)

/-- the step by which state j was found -/
def Fst (step : α → Nat → α) (E : Nat) (s0 : α) (j u : Nat) : Prop := u < E * (ex step E s0 u).1.length ∧ (ex step E s0 u).1.length = j ∧ (ex step E s0 (u + 1)).1.length = j + 1
theorem fst_some {t : Nat} (h : Live step E s0 t) : ∀ j, 1 ≤ j → j < (ex step E s0 t).1.length → ∃ u, u < t ∧ Fst step E s0 j u := by
  induction t with
  | zero => intro j h1 h2; simp [ex] at h2; omega
  | succ t ih =>
    intro j h1 h2
    by_cases hj : j < (ex step E s0 t).1.length
    · obtain ⟨u, hu, hf⟩ := ih (h.less (by omega)) j h1 hj
      exact ⟨u, by omega, hf⟩
    · have hL := h t (by omega)
      obtain ⟨x, _, e⟩ := ex_succ hL
      have hn := nx_len (ex step E s0 t).1 (step x (t % E))
      have e2 : (ex step E s0 (t + 1)).1.length = (nx (ex step E s0 t).1 (step x (t % E))).length := by rw [e]
      exact ⟨t, by omega, hL, by omega, by omega⟩
/-- it led to j, and none ahead of it did -/
theorem fst_to {t : Nat} (h : Live step E s0 t) {j u : Nat} (hu : u < t) (hf : Fst step E s0 j u) : (ex step E s0 t).2[u]? = some j ∧ u / E < j ∧ ∀ u', u' < u → (ex step E s0 t).2[u']? ≠ some j := by
  obtain ⟨f1, f2, f3⟩ := hf
  refine ⟨?_, by rw [← f2]; exact div_lt f1, fun u' hu' q => ?_⟩
  · obtain ⟨d, rfl⟩ : ∃ d, t = u + 1 + d := ⟨t - u - 1, by omega⟩
    obtain ⟨x, h1, e⟩ := ex_succ f1
    rw [ex_to_old h (by omega), e]
    have hl := ex_len (h.less (show u ≤ u + 1 + d by omega))
    rw [List.getElem?_append_right (by omega), hl]
    have hm : step x (u % E) ∉ (ex step E s0 u).1 := fun hm => by
      rw [e] at f3
      simp only [nx, if_pos hm] at f3
      omega
    simp only [Nat.sub_self]
    rw [ix_not hm, f2]
    rfl
  · obtain ⟨x, i, a1, a2, a3, a4, a5⟩ := ex_to h (show u' < t by omega)
    rw [q] at a2
    injection a2 with a2
    subst a2
    -- behind u' there are more than j states already, so u' is not ahead of u
    have g : (ex step E s0 (u' + 1)).1[j]? = some (step x (u' % E)) := by
      obtain ⟨x', b1, e⟩ := ex_succ (h u' (by omega))
      have hx : x' = x := by
        obtain ⟨d, hd⟩ : ∃ d, t = u' + d := ⟨t - u', by omega⟩
        have := ex_old (t := u') (d := d) (by rw [← hd]; exact h) b1
        rw [← hd, a1] at this
        injection this with this; exact this.symm
      subst hx
      have hi : ix (ex step E s0 u').1 (step x' (u' % E)) = j := by
        obtain ⟨d, hd⟩ : ∃ d, t = u' + 1 + d := ⟨t - u' - 1, by omega⟩
        have q2 := ex_to_old (t := u' + 1) (d := d) (by rw [← hd]; exact h) (show u' < u' + 1 by omega)
        rw [← hd, q, e] at q2
        have hl := ex_len (h.less (show u' ≤ t by omega))
        rw [List.getElem?_append_right (by omega), hl] at q2
        simp at q2
        exact q2.symm
      rw [e, ← hi]
      exact nx_at _ _
    have hlen := (List.getElem?_eq_some_iff.1 g).1
    obtain ⟨d, hd⟩ : ∃ d, u = u' + 1 + d := ⟨u - u' - 1, by omega⟩
    have := ex_grows (t := u' + 1) (d := d) (by rw [← hd]; exact h.less (by omega))
    rw [← hd] at this
    omega

/-- what leads to state j -/
inductive Ld (step : α → Nat → α) (E : Nat) (s0 : α) : Nat → List Nat → Prop
  | zero : Ld step E s0 0 []
  | more {j u : Nat} {l : List Nat} (hj : 1 ≤ j) (hf : Fst step E s0 j u) (h : Ld step E s0 (u / E) l) : Ld step E s0 j (l ++ [u % E])
theorem fst_same {t : Nat} (h : Live step E s0 t) {j u u' : Nat} (hu : u < t) (hu' : u' < t) (hf : Fst step E s0 j u) (hf' : Fst step E s0 j u') : u = u' := by
  obtain ⟨a1, _, a3⟩ := fst_to h hu hf
  obtain ⟨b1, _, b3⟩ := fst_to h hu' hf'
  rcases Nat.lt_trichotomy u u' with q | q | q
  · exact absurd a1 (b3 u q)
  · exact q
  · exact absurd b1 (a3 u' q)
theorem ld_some {t : Nat} (h : Live step E s0 t) : ∀ j, j < (ex step E s0 t).1.length → ∃ l, Ld step E s0 j l := by
  intro j
  induction j using Nat.strongRecOn with
  | _ j ih =>
    intro hj
    by_cases h0 : j = 0
    · subst h0; exact ⟨[], .zero⟩
    · obtain ⟨u, hu, hf⟩ := fst_some h j (by omega) hj
      have := (fst_to h hu hf).2.1
      obtain ⟨l, hl⟩ := ih (u / E) this (by omega)
      exact ⟨_, .more (by omega) hf hl⟩
/-- it leads there -/
theorem ld_run {t : Nat} (h : Live step E s0 t) : ∀ j l, Ld step E s0 j l → j < (ex step E s0 t).1.length → (ex step E s0 t).1[j]? = some (l.foldl step s0) := by
  intro j l hl
  induction hl with
  | zero => intro _; exact ex_first h
  | @more j u l hj hf hl ih =>
    intro hjl
    obtain ⟨u', hu', hf'⟩ := fst_some h j hj hjl
    have hu : u < t := by
      rcases Nat.lt_or_ge u t with q | q
      · exact q
      · exfalso
        have g2 : ∀ s, t ≤ s → (ex step E s0 t).1.length ≤ (ex step E s0 s).1.length := fun s hs => by
          induction hs with
          | refl => exact Nat.le_refl _
          | @step s _ ihs =>
            refine Nat.le_trans ihs ?_
            show _ ≤ (match (ex step E s0 s).1[s / E]? with
              | none => ex step E s0 s
              | some x => (nx (ex step E s0 s).1 (step x (s % E)), (ex step E s0 s).2 ++ [ix (ex step E s0 s).1 (step x (s % E))])).1.length
            cases (ex step E s0 s).1[s / E]? with
            | none => exact Nat.le_refl _
            | some x => exact (nx_len _ _).1
        have := g2 u q
        have := hf.2.1
        omega
    obtain ⟨a1, a2, _⟩ := fst_to h hu hf
    obtain ⟨x, i, b1, b2, b3, _, _⟩ := ex_to h hu
    rw [a1] at b2
    injection b2 with b2
    subst b2
    have := ih (by omega)
    rw [b1] at this
    injection this with this
    rw [b3, List.foldl_append, ← this]
    rfl

end

end Go.Proofs.YtjageagnclmnjabGreatDoor

namespace Go.Proofs.YtjageagnclmnjabGreatDoor.D
open Go.RowKit K

/-- a row of pairs -/
def VRow (w : World) (ao : Option Addr) (ps : List (Int × Int)) : Prop :=
  ps = [] ∨ ∃ b o, ao = some ⟨b, o, none⟩ ∧ ∀ j, j < ps.length → w.cell? ⟨b, o + j * 2, none⟩ = some (.int .i64 (ps.getD j (0, 0)).1) ∧ w.cell? ⟨b, o + j * 2 + 1, none⟩ = some (.int .i64 (ps.getD j (0, 0)).2)
theorem VRow.kept {w w' : World} {ao : Option Addr} {ps : List (Int × Int)} (h : VRow w ao ps) (g : Below w.heap.size w w') : VRow w' ao ps := by
  rcases h with h | ⟨b, o, e, h⟩
  · exact .inl h
  · refine .inr ⟨b, o, e, fun j hj => ?_⟩
    obtain ⟨h1, h2⟩ := h j hj
    have hl : b < w.heap.size := block_lt h1
    exact ⟨(g.cell (p := ⟨b, o + j * 2, none⟩) hl).trans h1, (g.cell (p := ⟨b, o + j * 2 + 1, none⟩) hl).trans h2⟩
def cellsR (x : Rx) : List Value := [.int .i64 x.s0, .int .i64 x.s1, .int .i64 x.c0, .int .i64 x.c1, .int .i64 x.l0, .int .i64 x.l1]
/-- the cells of rounds, one after another -/
def flatR : List Rx → List Value
  | [] => []
  | x :: l => cellsR x ++ flatR l
end Go.Proofs.YtjageagnclmnjabGreatDoor.D

namespace Go.Proofs.YtjageagnclmnjabGreatDoor
open Go.RowKit
set_option linter.unusedVariables false

theorem count_less {p q : Nat → Bool} : ∀ (l : List Nat), (∀ x ∈ l, q x = true → p x = true) → ∀ y, y ∈ l → p y = true → q y = false → l.countP q < l.countP p
  | [], _, y, hy, _, _ => by cases hy
  | x :: l, h, y, hy, h1, h2 => by
    have le : l.countP q ≤ l.countP p := List.countP_mono_left fun z hz hq => h z (by simp [hz]) hq
    rcases List.mem_cons.1 hy with rfl | hy
    · rw [List.countP_cons_of_pos h1, List.countP_cons_of_neg (by simp [h2])]
      omega
    · have ih := count_less l (fun z hz hq => h z (by simp [hz]) hq) y hy h1 h2
      by_cases hq : q x = true
      · rw [List.countP_cons_of_pos hq, List.countP_cons_of_pos (h x (by simp) hq)]; omega
      · rw [List.countP_cons_of_neg hq]
        by_cases hp : p x = true
        · rw [List.countP_cons_of_pos hp]; omega
        · rw [List.countP_cons_of_neg hp]; exact ih

section
variable {P : Program} {ops : Array Oper} {Q : Exit → Act → World → Prop} {md : Region.Mode}
/-- how many have not come up yet -/
def left (ops : Array Oper) (L : Array Bool) : Nat := (List.range ops.size).countP fun i => !L.getD i true
theorem left_less {L : Array Bool} {i : Nat} (h : i ∈ Region.ready md ops L) : left ops (L.setIfInBounds i true) < left ops L := by
  obtain ⟨h0, o, ho, _⟩ := mem_ready.1 h
  have hi : i < ops.size := (Array.getElem?_eq_some_iff.1 ho).1
  refine count_less _ (fun x _ hx => ?_) i (List.mem_range.2 hi) (by simp [h0]) ?_
  · by_cases e : i = x
    · subst e; simp [h0]
    · rw [getD_set_ne true e] at hx; exact hx
  · by_cases hs : i < L.size
    · simp [hs]
    · simp [Array.getD, hs] at h0
/-- WHAT HOLDS BEHIND WHICHEVER HAVE COME UP: each of those that may come up next keeps it; where none is left it is what was to be shown -/
theorem wpAny_inv (I : Array Bool → Act → World → Prop) (hstep : ∀ L a w, I L a w → ∀ i, i ∈ Region.ready md ops L → wpOp P ops Q i (I (L.setIfInBounds i true)) a w)
    (hend : ∀ L a w, I L a w → Region.ready md ops L = [] → Q .normal a w) : ∀ (fuel : Nat) (L : Array Bool) (a : Act) (w : World), left ops L ≤ fuel → I L a w → wpAny P md ops Q fuel L a w := by
  intro fuel
  induction fuel with
  | zero =>
    intro L a w hf hI
    have hr : Region.ready md ops L = [] := by
      cases hr : Region.ready md ops L with
      | nil => rfl
      | cons i r =>
        have := left_less (md := md) (ops := ops) (L := L) (i := i) (by rw [hr]; simp)
        omega
    exact ⟨hr, hend L a w hI hr⟩
  | succ fuel ih =>
    intro L a w hf hI
    refine ⟨fun hr => hend L a w hI hr, fun i hi => wpOp_mono (fun a' w' h => ih _ a' w' ?_ h) (hstep L a w hI i hi)⟩
    have := left_less hi
    omega
theorem left_all (ops : Array Oper) : left ops (Array.replicate ops.size false) ≤ ops.size := by
  unfold left
  exact Nat.le_trans (List.countP_le_length) (by simp)
theorem wp_region_inv {id : Nat} {a : Act} {w : World} (hm : P.follows .mixedOrders = true) (I : Array Bool → Act → World → Prop) (hI : I (Array.replicate ops.size false) a w.drew)
    (hstep : ∀ L a w, I L a w → ∀ i, i ∈ Region.ready .any ops L → wpOp P ops Q i (I (L.setIfInBounds i true)) a w)
    (hend : ∀ L a w, I L a w → Region.ready .any ops L = [] → Q .normal a w) : (Code.region id ops true).wp P Q a w :=
  wp_region_any hm (wpAny_inv I hstep hend _ _ _ _ (left_all ops) hI)
end

end Go.Proofs.YtjageagnclmnjabGreatDoor

namespace Go.Proofs.YtjageagnclmnjabGreatDoor
open Go.RowKit
set_option linter.unusedVariables false

/-- what the rows are of: states, ints, ints, pairs, rounds: types, cells, bytes, the slices' types -/
def fty : Nat → Nat
  | 0 => 147
  | 1 => 3
  | 2 => 3
  | 3 => 67
  | _ => 3
def fsz : Nat → Nat
  | 0 => 14
  | 1 => 1
  | 2 => 1
  | 3 => 2
  | _ => 1
def fby : Nat → Nat
  | 0 => 112
  | 1 => 8
  | 2 => 8
  | 3 => 16
  | _ => 8
def fsl : Nat → Nat
  | 0 => 115
  | 1 => 24
  | 2 => 24
  | 3 => 72
  | _ => 24
def up {α : Type} (f : Nat → α) (c : Nat) (x : α) : Nat → α := fun d => if d = c then x else f d
theorem up_at {α : Type} (f : Nat → α) (c : Nat) (x : α) : up f c x c = x := if_pos rfl
theorem up_ne {α : Type} (f : Nat → α) (c : Nat) (x : α) {d : Nat} (h : d ≠ c) : up f c x d = f d := if_neg h

/-- five rows in blocks of their own, apart from one another and from the blocks of K -/
structure Fam (B0 : Nat) (K : Nat → Prop) (cur : Nat → Value) (n : Nat → Nat) (xs : Nat → List Value) (wr : World) : Prop where
  own : ∀ c, c < 5 → wr.ownsRow B0 (fty c) (fsz c) (cur c) (n c) (xs c)
  ap : ∀ c d, c < 5 → d < 5 → c ≠ d → ∀ g, (cur c).ownBlock = some g → (cur d).ownBlock ≠ some g
  kb : ∀ g, K g → g < wr.heap.size ∧ ∀ c, c < 5 → (cur c).ownBlock ≠ some g
  sz : B0 ≤ wr.heap.size
theorem own_same {w w' : World} {base e s : Nat} {t : Value} {n : Nat} {xs : List Value} (h : w.ownsRow base e s t n xs) (hb : ∀ g, t.ownBlock = some g → w'.heap[g]? = w.heap[g]?) : w'.ownsRow base e s t n xs := by
  obtain ⟨hl, h2⟩ := h
  refine ⟨hl, ?_⟩
  rcases h2 with e | ⟨g, cap, cur, e, hg, hh, r⟩
  · exact .inl e
  · exact .inr ⟨g, cap, cur, e, hg, by rw [hb g (by rw [e]; rfl)]; exact hh, r⟩
theorem Fam.kept {B0 : Nat} {K : Nat → Prop} {cur : Nat → Value} {n : Nat → Nat} {xs : Nat → List Value} {wr w' : World} (h : Fam B0 K cur n xs wr) (b : Below wr.heap.size wr w') : Fam B0 K cur n xs w' :=
  ⟨fun c hc => own_same (h.own c hc) fun g hg => b.block g ((h.own c hc).lt g hg).2, h.ap, fun g hg => ⟨Nat.lt_of_lt_of_le (h.kb g hg).1 b.size, (h.kb g hg).2⟩, Nat.le_trans h.sz b.size⟩
theorem Fam.less {B0 : Nat} {K K' : Nat → Prop} {cur : Nat → Value} {n : Nat → Nat} {xs : Nat → List Value} {wr : World} (h : Fam B0 K cur n xs wr) (hk : ∀ g, K' g → K g) : Fam B0 K' cur n xs wr :=
  ⟨h.own, h.ap, fun g hg => h.kb g (hk g hg), h.sz⟩
/-- what is made anew is apart from them -/
theorem Fam.alloc {B0 : Nat} {K : Nat → Prop} {cur : Nat → Value} {n : Nat → Nat} {xs : Nat → List Value} {wr : World} (h : Fam B0 K cur n xs wr) (o : Obj) : Fam B0 (fun g => K g ∨ g = wr.heap.size) cur n xs (wr.alloc o) := by
  have k := h.kept (balloc (Below.refl _ _) o)
  refine ⟨k.own, k.ap, fun g hg => ?_, k.sz⟩
  rcases hg with hg | rfl
  · exact k.kb g hg
  · exact ⟨by simp, fun c hc q => by have := ((h.own c hc).lt _ q).2; omega⟩
/-- a block of K is written -/
theorem Fam.put {B0 : Nat} {K : Nat → Prop} {cur : Nat → Value} {n : Nat → Nat} {xs : Nat → List Value} {wr : World} (h : Fam B0 K cur n xs wr) {p : Addr} (hp : K p.block) (x : Value) : Fam B0 K cur n xs (wr.setCell p x) :=
  ⟨fun c hc => own_same (h.own c hc) fun g hg => Below.heap_setCell _ _ _ _ (fun e => (h.kb _ hp).2 c hc (by rw [← e]; exact hg)), h.ap, fun g hg => by have := h.kb g hg; simpa using this, by simpa using h.sz⟩
/-- one row has grown -/
theorem Fam.grow {B0 : Nat} {K : Nat → Prop} {cur : Nat → Value} {n : Nat → Nat} {xs : Nat → List Value} {W w2 : World} (h : Fam B0 K cur n xs W) {c : Nat} (hc : c < 5) {t' : Value} {m : Nat} {zs : List Value}
    (ho : w2.ownsRow B0 (fty c) (fsz c) t' m zs) (hg : W.grownBy w2 (cur c).ownBlock) (hat : t'.ownBlock = (cur c).ownBlock ∨ t'.ownBlock = some W.heap.size) :
    Fam B0 K (up cur c t') (up n c m) (up xs c zs) w2 ∧ ∀ g, K g → w2.heap[g]? = W.heap[g]? := by
  have blk : ∀ g, g < W.heap.size → (cur c).ownBlock ≠ some g → w2.heap[g]? = W.heap[g]? := fun g h1 h2 => hg.block g h1 (fun q => h2 q.symm)
  have hsz := hg.size
  have new : ∀ g, g < W.heap.size → (cur c).ownBlock ≠ some g → t'.ownBlock ≠ some g := fun g h1 h2 q => by
    rcases hat with e | e
    · exact h2 (by rw [← e]; exact q)
    · rw [e] at q; injection q with q; omega
  refine ⟨⟨fun d hd => ?_, fun d e hd he hne g hdg => ?_, fun g hk => ⟨by have := (h.kb g hk).1; omega, fun d hd => ?_⟩, by have := h.sz; omega⟩, fun g hk => blk g (h.kb g hk).1 ((h.kb g hk).2 c hc)⟩
  · by_cases e : d = c
    · subst e; rw [up_at, up_at, up_at]; exact ho
    · rw [up_ne _ _ _ e, up_ne _ _ _ e, up_ne _ _ _ e]
      exact own_same (h.own d hd) fun g hq => blk g ((h.own d hd).lt g hq).2 (fun q => h.ap d c hd hc e g hq q)
  · by_cases e1 : d = c
    · subst e1
      rw [up_at] at hdg
      rw [up_ne _ _ _ (Ne.symm hne)]
      intro q
      exact new g ((h.own e he).lt g q).2 (fun q2 => h.ap d e hd he hne g q2 q) hdg
    · rw [up_ne _ _ _ e1] at hdg
      by_cases e2 : e = c
      · subst e2
        rw [up_at]
        exact new g ((h.own d hd).lt g hdg).2 (fun q => h.ap d e hd he hne g hdg q)
      · rw [up_ne _ _ _ e2]; exact h.ap d e hd he hne g hdg
  · by_cases e : d = c
    · subst e; rw [up_at]; exact new g (h.kb g hk).1 ((h.kb g hk).2 d hd)
    · rw [up_ne _ _ _ e]; exact (h.kb g hk).2 d hd

theorem Tryz.info48 : (Tryz.prog.info? 147).map (fun i => (i.zero, i.size, i.bytes)) = some (some (.agg #[.int .i64 0, .int .i64 0, .int .i64 0, .int .i64 0, .int .i64 0, .int .i64 0, .int .i64 0, .int .i64 0, .int .i64 0, .int .i64 0, .int .i64 0, .int .i64 0, .int .i64 0, .int .i64 0]), 14, 112) := by kernel_rfl
theorem Tryz.inf3 : (Tryz.prog.info? 3).map (fun i => (i.zero, i.size, i.bytes)) = some (some (.int .i64 0), 1, 8) := by kernel_rfl
theorem Tryz.inf22 : (Tryz.prog.info? 67).map (fun i => (i.zero, i.size, i.bytes)) = some (some (.agg #[.int .i64 0, .int .i64 0]), 2, 16) := by kernel_rfl
/-- what is known of the elements -/
theorem fam_info (c : Nat) (hc : c < 5) : ∃ i z, Tryz.prog.underlying (fsl c) = some (.slice (fty c)) ∧ Tryz.prog.info? (fty c) = some i ∧ i.zero = some z ∧ i.size = fsz c ∧ i.bytes = fby c ∧ z.cells.size = fsz c ∧ 0 < fsz c := by
  rcases (show c = 0 ∨ c = 1 ∨ c = 2 ∨ c = 3 ∨ c = 4 by omega) with rfl | rfl | rfl | rfl | rfl
  · obtain ⟨i0, hi, hz0, hz1, hz2⟩ := info_parts Tryz.info48
    exact ⟨i0, _, Tryz.underlying115, hi, hz0, hz1, hz2, rfl, by decide⟩
  · obtain ⟨i0, hi, hz0, hz1, hz2⟩ := info_parts Tryz.inf3
    exact ⟨i0, _, Tryz.underlying24, hi, hz0, hz1, hz2, rfl, by decide⟩
  · obtain ⟨i0, hi, hz0, hz1, hz2⟩ := info_parts Tryz.inf3
    exact ⟨i0, _, Tryz.underlying24, hi, hz0, hz1, hz2, rfl, by decide⟩
  · obtain ⟨i0, hi, hz0, hz1, hz2⟩ := info_parts Tryz.inf22
    exact ⟨i0, _, Tryz.underlying72, hi, hz0, hz1, hz2, rfl, by decide⟩
  · obtain ⟨i0, hi, hz0, hz1, hz2⟩ := info_parts Tryz.inf3
    exact ⟨i0, _, Tryz.underlying24, hi, hz0, hz1, hz2, rfl, by decide⟩
/-- ONE ELEMENT MORE, out of a block of its own -/
theorem Fam.append {B0 : Nat} {K : Nat → Prop} {cur : Nat → Value} {n : Nat → Nat} {xs : Nat → List Value} {W : World} (h : Fam B0 K cur n xs W) {c : Nat} (hc : c < 5) (hn : n c + 1 ≤ 1048576) {b : Nat} {news : List Value} {fr : Nat × Nat} {tb : Nat}
    (hb : W.heap[b]? = some (.cells news.toArray tb fr)) (hl : news.length = fsz c) (h1 : ∀ u ∈ news, u.oneCell' = true) (ty : Nat) :
    ∃ g cap w2, (Builtin.append_ #[fsl c, fsl c] ty #[cur c, .slice (some ⟨b, 0, none⟩) 1 1]).run Tryz.prog W = .ok (.slice (some ⟨g, 0, none⟩) (n c + 1) cap) w2 ∧
      Fam B0 K (up cur c (.slice (some ⟨g, 0, none⟩) (n c + 1) cap)) (up n c (n c + 1)) (up xs c (xs c ++ news)) w2 ∧ (∀ g, K g → w2.heap[g]? = W.heap[g]?) ∧ W.grownBy w2 (cur c).ownBlock := by
  obtain ⟨i, z, ht, hi, hz, hs, hby, hzs, hsz⟩ := fam_info c hc
  have hbytes : (n c + 1) * fby c ≤ 140737488355328 := by
    have : fby c ≤ 112 := by rcases (show c = 0 ∨ c = 1 ∨ c = 2 ∨ c = 3 ∨ c = 4 by omega) with rfl | rfl | rfl | rfl | rfl <;> decide
    exact Nat.le_trans (Nat.mul_le_mul hn this) (by decide)
  obtain ⟨v', w2, hr, h2, h3, _, h5⟩ := run_append_own_at (P := Tryz.prog) W B0 (fsl c) ty (fty c) i z (fsz c) (fby c) ht hi hz hs hby hzs hsz (cur c) (n c) (xs c) (h.own c hc) ⟨b, 0, none⟩ 1 1 news (by rw [hl, Nat.one_mul]) (fun j u hu => by
    rw [Addr.add_lit, Nat.zero_add]
    simp [World.cell?, hb]
    simpa using hu) h1 (by unfold maxLen; omega) hbytes h.sz
  obtain ⟨hl2, ⟨_, e2⟩ | ⟨g, cap, cu, e, _⟩⟩ := id h2
  · omega
  · subst e
    obtain ⟨a1, a2⟩ := h.grow hc h2 h3 h5
    exact ⟨g, cap, w2, hr, a1, a2, h3⟩

end Go.Proofs.YtjageagnclmnjabGreatDoor
