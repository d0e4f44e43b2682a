/- PROVED: a bucket on plain integers: its line, what keeps to it, what it lets through, and what the promises say of one another. CONDITIONS: none beyond each theorem's own. -/
import Derived.Test.YtmijlmidlddcpaaLeast
namespace Go.Proofs.Ytmijlmidlddcpaa
set_option linter.unusedVariables false
set_option linter.unusedSectionVars false

/-- a number from 0 to Most -/
def inr (x : Int) : Prop := 0 ≤ x ∧ x ≤ 1099511627776
instance (x : Int) : Decidable (inr x) := inferInstanceAs (Decidable (_ ∧ _))
def allIn (s : List Int) : Prop := ∀ j, j < s.length → inr (s.getD j 0)
instance (s : List Int) : Decidable (allIn s) := inferInstanceAs (Decidable (∀ j, j < s.length → inr (s.getD j 0)))
def bright (R B : Int) (s : List Int) : Prop := inr R ∧ inr B ∧ s.length < 300 ∧ allIn s
instance (R B : Int) (s : List Int) : Decidable (bright R B s) := inferInstanceAs (Decidable (_ ∧ _ ∧ _ ∧ _))

/-- the line at tick t -/
def lf (R B : Int) (t : Nat) : Int := if t = 0 then 0 else B + ((t : Int) - 1) * min R B
theorem lf_zero (R B : Int) : lf R B 0 = 0 := rfl
theorem lf_succ (R B : Int) (t : Nat) : lf R B (t + 1) = B + (t : Int) * min R B := by
  unfold lf
  rw [if_neg (by omega)]
  congr 2
  omega
theorem lf_next (R B : Int) (t : Nat) : lf R B (t + 1 + 1) = lf R B (t + 1) + min R B := by
  rw [lf_succ, lf_succ]
  have : ((t + 1 : Nat) : Int) * min R B = (t : Int) * min R B + min R B := by
    rw [show ((t + 1 : Nat) : Int) = (t : Int) + 1 by omega, Int.add_mul, Int.one_mul]
  omega
theorem lf_up {R B : Int} (hR : inr R) (hB : inr B) (t : Nat) : lf R B t ≤ lf R B (t + 1) := by
  unfold inr at *
  cases t with
  | zero => rw [lf_zero, lf_succ]; simp; omega
  | succ t => rw [lf_next]; omega
theorem lf_lo {R B : Int} (hR : inr R) (hB : inr B) (t : Nat) : 0 ≤ lf R B t := by
  induction t with
  | zero => exact Int.le_refl _
  | succ t ih => exact Int.le_trans ih (lf_up hR hB t)
theorem lf_hi {R B : Int} (hR : inr R) (hB : inr B) (t : Nat) : lf R B t ≤ t * 1099511627776 := by
  unfold inr at *
  induction t with
  | zero => simp [lf]
  | succ t ih =>
    cases t with
    | zero => rw [lf_succ]; simp; omega
    | succ t => rw [lf_next]; omega
theorem lf_top {R B : Int} (hR : inr R) (hB : inr B) (t : Nat) (h : t ≤ 300) : lf R B t ≤ 329853488332800 := by
  have := lf_hi hR hB t; omega
theorem lf_sub {R B : Int} (hR : inr R) (hB : inr B) (a b : Nat) : lf R B (a + b) ≤ lf R B a + lf R B b := by
  induction b with
  | zero => rw [Nat.add_zero, lf_zero]; omega
  | succ b ih =>
    cases a with
    | zero => rw [Nat.zero_add, lf_zero]; omega
    | succ a =>
      cases b with
      | zero =>
        have : lf R B (0 + 1) = B := by rw [lf_succ]; simp
        rw [this, show a + 1 + (0 + 1) = a + 1 + 1 by omega, lf_next]
        omega
      | succ b =>
        rw [show a + 1 + (b + 1 + 1) = (a + 1 + b) + 1 + 1 by omega, lf_next, lf_next]
        rw [show a + 1 + (b + 1) = a + 1 + b + 1 by omega] at ih
        omega

/-- plain sums -/
def acc (F : Nat → Int) : Nat → Int
  | 0 => 0
  | k + 1 => acc F k + F k
theorem acc_inj {F G : Nat → Int} {n : Nat} (h : ∀ t, t ≤ n → acc F t = acc G t) (j : Nat) (hj : j < n) : F j = G j := by
  have h1 := h j (by omega)
  have h2 := h (j + 1) (by omega)
  simp only [acc] at h2
  omega
theorem acc_ext {F G : Nat → Int} (k : Nat) (h : ∀ j, j < k → F j = G j) : acc F k = acc G k := by
  induction k with
  | zero => rfl
  | succ k ih => simp only [acc]; rw [ih fun j hj => h j (by omega), h k (by omega)]
theorem acc_lo {F : Nat → Int} {n : Nat} (h : ∀ j, j < n → inr (F j)) (k : Nat) (hk : k ≤ n) : 0 ≤ acc F k ∧ acc F k ≤ k * 1099511627776 := by
  induction k with
  | zero => simp [acc]
  | succ k ih =>
    have := ih (by omega)
    have := h k (by omega)
    unfold inr at *
    simp only [acc]
    omega
theorem plus_small {a b : Int} (h0 : 0 ≤ a) (h1 : 0 ≤ b) (h2 : a + b ≤ 1152921504606846976) : plus a b = a + b := by
  unfold plus; rw [fit_of a h0 (by omega), fit_of b h1 (by omega), fit_of _ (by omega) h2]
theorem psum_acc {F : Nat → Int} {n : Nat} (hn : n ≤ 300) (h : ∀ j, j < n → inr (F j)) (k : Nat) (hk : k ≤ n) : psum F k = acc F k := by
  induction k with
  | zero => rfl
  | succ k ih =>
    simp only [psum, acc]
    rw [ih (by omega)]
    have := acc_lo h k (by omega)
    have := h k (by omega)
    unfold inr at *
    exact plus_small (by omega) (by omega) (by omega)

/-- waits, and what the bucket holds, ahead of tick t -/
def st (R B : Int) (F : Nat → Int) : Nat → Int × Int
  | 0 => (0, B)
  | t + 1 => ((st R B F t).1 + F t - min ((st R B F t).1 + F t) (st R B F t).2, min ((st R B F t).2 - min ((st R B F t).1 + F t) (st R B F t).2 + R) B)
def wa (R B : Int) (F : Nat → Int) (t : Nat) : Int := (st R B F t).1
def ho (R B : Int) (F : Nat → Int) (t : Nat) : Int := (st R B F t).2
def go (R B : Int) (F : Nat → Int) (t : Nat) : Int := min (wa R B F t + F t) (ho R B F t)
theorem wa_zero (R B : Int) (F : Nat → Int) : wa R B F 0 = 0 := rfl
theorem ho_zero (R B : Int) (F : Nat → Int) : ho R B F 0 = B := rfl
theorem wa_succ (R B : Int) (F : Nat → Int) (t : Nat) : wa R B F (t + 1) = wa R B F t + F t - go R B F t := rfl
theorem ho_succ (R B : Int) (F : Nat → Int) (t : Nat) : ho R B F (t + 1) = min (ho R B F t - go R B F t + R) B := rfl
def pass (R B : Int) (s : List Int) : List Int := outs (go R B fun j => s.getD j 0) s.length
theorem pass_len (R B : Int) (s : List Int) : (pass R B s).length = s.length := outs_len _ _

section
variable {R B : Int} {F : Nat → Int} {n : Nat} (hR : inr R) (hB : inr B) (hF : ∀ j, j < n → inr (F j))
include hR hB hF
theorem st_in (t : Nat) (ht : t ≤ n) : 0 ≤ wa R B F t ∧ 0 ≤ ho R B F t ∧ ho R B F t ≤ B := by
  unfold inr at *
  induction t with
  | zero => rw [wa_zero, ho_zero]; omega
  | succ t ih =>
    have := ih (by omega)
    have := hF t (by omega)
    rw [wa_succ, ho_succ]
    unfold go
    omega
theorem go_in (t : Nat) (ht : t < n) : inr (go R B F t) := by
  have := st_in hR hB hF t (by omega)
  have := hF t ht
  unfold inr go at *
  omega
theorem wa_acc (t : Nat) (ht : t ≤ n) : wa R B F t = acc F t - acc (go R B F) t := by
  induction t with
  | zero => rfl
  | succ t ih => rw [wa_succ, ih (by omega)]; simp only [acc]; omega
theorem wa_top (t : Nat) (ht : t ≤ n) (hn : n ≤ 300) : wa R B F t ≤ 329853488332800 := by
  rw [wa_acc hR hB hF t ht]
  have := acc_lo hF t ht
  have := acc_lo (go_in hR hB hF) t ht
  omega
theorem ho_le (t : Nat) (ht : t ≤ n) (u : Nat) (hu : u ≤ t) : ho R B F t + acc (go R B F) t ≤ acc (go R B F) u + lf R B (t - u + 1) := by
  induction t with
  | zero =>
    obtain rfl : u = 0 := by omega
    rw [ho_zero, lf_succ]; simp; omega
  | succ t ih =>
    have s := st_in hR hB hF t (by omega)
    have := hF t (by omega)
    rw [ho_succ]
    by_cases e : u = t + 1
    · subst e
      rw [Nat.sub_self, lf_succ]; simp; omega
    · have k := ih (by omega) (by omega)
      rw [show t + 1 - u + 1 = t - u + 1 + 1 by omega, lf_next]
      have : go R B F t ≤ ho R B F t := by unfold go; omega
      unfold inr at *
      simp only [acc]
      omega
theorem ho_is (t : Nat) (ht : t ≤ n) : ∃ u, u ≤ t ∧ ho R B F t + acc (go R B F) t = acc (go R B F) u + lf R B (t - u + 1) := by
  induction t with
  | zero => exact ⟨0, Nat.le_refl _, by rw [ho_zero, lf_succ]; simp; omega⟩
  | succ t ih =>
    obtain ⟨u, hu, k⟩ := ih (by omega)
    have s := st_in hR hB hF t (by omega)
    have g : go R B F t ≤ ho R B F t := by unfold go; omega
    unfold inr at *
    by_cases c : ho R B F t - go R B F t + min R B ≤ B
    · refine ⟨u, by omega, ?_⟩
      rw [show t + 1 - u + 1 = t - u + 1 + 1 by omega, lf_next, ho_succ]
      simp only [acc]
      omega
    · refine ⟨t + 1, Nat.le_refl _, ?_⟩
      rw [Nat.sub_self, lf_succ, ho_succ]
      simp
      omega
theorem sum_le (t : Nat) (ht : t ≤ n) : acc (go R B F) t ≤ acc F t := by
  have := wa_acc hR hB hF t ht
  have := (st_in hR hB hF t ht).1
  omega
theorem sum_keeps (t : Nat) (ht : t ≤ n) (u : Nat) (hu : u ≤ t) : acc (go R B F) t ≤ acc (go R B F) u + lf R B (t - u) := by
  by_cases e : u = t
  · subst e; rw [Nat.sub_self, lf_zero]; omega
  · obtain ⟨v, rfl⟩ : ∃ v, t = v + 1 := ⟨t - 1, by omega⟩
    have := ho_le hR hB hF v (by omega) u (by omega)
    rw [show v + 1 - u = v - u + 1 by omega]
    have g : go R B F v ≤ ho R B F v := by unfold go; omega
    simp only [acc]
    omega
theorem sum_is (t : Nat) (ht : t + 1 ≤ n) : acc (go R B F) (t + 1) = acc F (t + 1) ∨ ∃ u, u ≤ t ∧ acc (go R B F) (t + 1) = acc (go R B F) u + lf R B (t + 1 - u) := by
  have hw := wa_acc hR hB hF t (by omega)
  by_cases c : wa R B F t + F t ≤ ho R B F t
  · left
    simp only [acc]
    unfold go at *
    rw [Int.min_eq_left c]; omega
  · right
    obtain ⟨u, hu, k⟩ := ho_is hR hB hF t (by omega)
    refine ⟨u, hu, ?_⟩
    rw [show t + 1 - u = t - u + 1 by omega]
    have g : go R B F t = ho R B F t := by unfold go; omega
    simp only [acc]
    omega
/-- nobody lets more through -/
theorem greedy {G : Nat → Int} (h1 : ∀ t, t ≤ n → acc G t ≤ acc F t) (h2 : ∀ t, t ≤ n → ∀ u, u ≤ t → acc G t ≤ acc G u + lf R B (t - u)) (t : Nat) (ht : t ≤ n) : acc G t ≤ acc (go R B F) t := by
  induction t using Nat.strongRecOn with
  | ind t ih =>
    cases t with
    | zero => exact Int.le_refl _
    | succ t =>
      rcases sum_is hR hB hF t ht with e | ⟨u, hu, e⟩
      · rw [e]; exact h1 _ ht
      · rw [e]
        have := ih u (by omega) (by omega)
        have := h2 (t + 1) ht u (by omega)
        omega
/-- what goes in all is what comes in all, with the line, in least sums -/
theorem sum_cv (hn : n ≤ 300) {A L : Nat → Int} (hA : ∀ j, j ≤ n → A j = acc F j) (hL : ∀ j, j ≤ n → L j = lf R B j) (t : Nat) (ht : t ≤ n) : cv A L t = acc (go R B F) t := by
  have hs : ∀ s v, s ≤ n → v ≤ n → plus (A s) (L v) = acc F s + lf R B v := fun s v h1 h2 => by
    rw [hA s h1, hL v h2]
    have := acc_lo hF s h1
    have := lf_lo hR hB v
    have := lf_top hR hB v (by omega)
    exact plus_small (by omega) (by omega) (by omega)
  have hg := fun t ht => acc_lo (go_in hR hB hF) t ht
  induction t using Nat.strongRecOn with
  | ind t ih =>
    apply Int.le_antisymm
    · cases t with
      | zero =>
        have := cv_le A L 0 0 (Nat.le_refl _)
        rw [hs _ _ (by omega) (by omega)] at this
        exact this
      | succ t =>
        rcases sum_is hR hB hF t ht with e | ⟨u, hu, e⟩
        · rw [e]
          have := cv_le A L (t + 1) (t + 1) (Nat.le_refl _)
          rw [hs _ _ (by omega) (by omega), Nat.sub_self, lf_zero] at this
          omega
        · rw [e]
          have iu := ih u (by omega) (by omega)
          rcases cv_at A L u with k | ⟨s, hsu, k⟩
          · have := hg u (by omega); omega
          · rw [hs _ _ (by omega) (by omega)] at k
            have c := cv_le A L (t + 1) s (by omega)
            rw [hs _ _ (by omega) (by omega)] at c
            have := lf_sub hR hB (u - s) (t + 1 - u)
            rw [show u - s + (t + 1 - u) = t + 1 - s by omega] at this
            omega
    · refine le_cv _ _ _ _ (by have := hg t ht; omega) fun s hst => ?_
      rw [hs _ _ (by omega) (by omega)]
      have := sum_keeps hR hB hF t ht s hst
      have := sum_le hR hB hF s (by omega)
      omega
end

/-- its sums keep to the line -/
def keepsTo (R B : Int) (F : Nat → Int) (n : Nat) : Prop := ∀ t, t ≤ n → ∀ u, u ≤ t → acc F t ≤ acc F u + lf R B (t - u)

theorem keeps_go {R B : Int} {F : Nat → Int} {n : Nat} (hR : inr R) (hB : inr B) (hF : ∀ j, j < n → inr (F j)) (h : keepsTo R B F n) (j : Nat) (hj : j < n) : go R B F j = F j :=
  acc_inj (n := n) (fun t ht => Int.le_antisymm (sum_le hR hB hF t ht) (greedy hR hB hF (fun _ _ => Int.le_refl _) h t ht)) j hj
theorem go_keeps {R B : Int} {F : Nat → Int} {n : Nat} (hR : inr R) (hB : inr B) (hF : ∀ j, j < n → inr (F j)) : keepsTo R B (go R B F) n := fun t ht u hu => sum_keeps hR hB hF t ht u hu
theorem keepsTo_ext {R B : Int} {F G : Nat → Int} {n : Nat} (h : keepsTo R B F n) (e : ∀ j, j < n → F j = G j) : keepsTo R B G n := fun t ht u hu => by
  rw [← acc_ext t fun j hj => e j (by omega), ← acc_ext u fun j hj => e j (by omega)]
  exact h t ht u hu
/-- two, whichever comes first -/
theorem go_swap {R B Q C : Int} {F : Nat → Int} {n : Nat} (hR : inr R) (hB : inr B) (hQ : inr Q) (hC : inr C) (hF : ∀ j, j < n → inr (F j)) (hn : n ≤ 300) (j : Nat) (hj : j < n) :
    go R B (go Q C F) j = go Q C (go R B F) j := by
  refine acc_inj (n := n) (fun t ht => ?_) j hj
  have g1 := go_in hQ hC hF
  have g2 := go_in hR hB hF
  rw [← sum_cv hR hB g1 hn (A := cv (acc F) (lf Q C)) (L := lf R B) (fun j hj => sum_cv hQ hC hF hn (fun _ _ => rfl) (fun _ _ => rfl) j hj) (fun _ _ => rfl) t ht]
  rw [← sum_cv hQ hC g2 hn (A := cv (acc F) (lf R B)) (L := lf Q C) (fun j hj => sum_cv hR hB hF hn (fun _ _ => rfl) (fun _ _ => rfl) j hj) (fun _ _ => rfl) t ht]
  rw [← cv_assoc, ← cv_assoc]
  exact cv_ext (fun _ _ => rfl) fun j _ => cv_comm _ _ _

/-! Rows. -/
def line (R B : Int) (n : Nat) : List Int := if inr R ∧ inr B then outs (lf R B) n else []
theorem line_right {R B : Int} (hR : inr R) (hB : inr B) (n : Nat) : line R B n = outs (lf R B) n := by unfold line; rw [if_pos ⟨hR, hB⟩]
theorem line_len {R B : Int} (hR : inr R) (hB : inr B) (n : Nat) : (line R B n).length = n := by rw [line_right hR hB, outs_len]
theorem line_getD {R B : Int} (hR : inr R) (hB : inr B) (n j : Nat) (h : j < n) : (line R B n).getD j 0 = lf R B j := by rw [line_right hR hB, outs_getD _ _ _ h]
def keeps (R B : Int) (s : List Int) : Prop := bright R B s ∧ below (of s) (conv (of s) (line R B (s.length + 1)))
instance (R B : Int) (s : List Int) : Decidable (keeps R B s) := inferInstanceAs (Decidable (_ ∧ _))
def let' (R B : Int) (s : List Int) : List Int := if bright R B s then pass R B s else []
theorem getD_in {s : List Int} (h : allIn s) (j : Nat) (hj : j < s.length) : inr (s.getD j 0) := h j hj
theorem of_getD {R B : Int} {s : List Int} (h : bright R B s) (t : Nat) (ht : t ≤ s.length) : (of s).getD t 0 = acc (fun j => s.getD j 0) t := by
  rw [of, outs_getD _ _ _ (by omega)]
  exact psum_acc (n := s.length) (Nat.le_of_lt h.2.2.1) h.2.2.2 t ht
theorem below_keeps {R B : Int} {s : List Int} (h : bright R B s) : below (of s) (conv (of s) (line R B (s.length + 1))) ↔ keepsTo R B (fun j => s.getD j 0) s.length := by
  have hn := h.2.2.1
  have hs : ∀ a v, a ≤ s.length → v ≤ s.length → plus ((of s).getD a 0) ((line R B (s.length + 1)).getD v 0) = acc (fun j => s.getD j 0) a + lf R B v := fun a v h1 h2 => by
    rw [of_getD h a h1, line_getD h.1 h.2.1 _ _ (by omega)]
    have := acc_lo h.2.2.2 a h1
    have := lf_lo h.1 h.2.1 v
    have := lf_top h.1 h.2.1 v (by omega)
    exact plus_small (by omega) (by omega) (by omega)
  constructor
  · intro k t ht u hu
    have := k t (by rw [conv_len, of_len, line_len h.1 h.2.1]; omega)
    rw [conv_getD _ _ _ (by rw [of_len, line_len h.1 h.2.1]; omega), cv_fit, of_getD h t ht, fit_of _ (acc_lo h.2.2.2 t ht).1 (by have := acc_lo h.2.2.2 t ht; omega)] at this
    refine Int.le_trans this ?_
    rw [← hs u (t - u) (by omega) (by omega)]
    exact cv_le _ _ t u hu
  · intro k t ht
    rw [conv_len, of_len, line_len h.1 h.2.1] at ht
    rw [conv_getD _ _ _ (by rw [of_len, line_len h.1 h.2.1]; omega), cv_fit]
    refine le_cv _ _ _ _ (fit_hi _) fun u hu => ?_
    rw [hs u (t - u) (by omega) (by omega), of_getD h t (by omega), fit_of _ (acc_lo h.2.2.2 t (by omega)).1 (by have := acc_lo h.2.2.2 t (by omega); omega)]
    exact k t (by omega) u hu
theorem keeps_iff {R B : Int} {s : List Int} (h : bright R B s) : keeps R B s ↔ keepsTo R B (fun j => s.getD j 0) s.length := by
  unfold keeps; rw [below_keeps h]; exact ⟨fun k => k.2, fun k => ⟨h, k⟩⟩
theorem pass_getD (R B : Int) (s : List Int) (j : Nat) (h : j < s.length) : (pass R B s).getD j 0 = go R B (fun j => s.getD j 0) j := outs_getD _ _ _ h
theorem pass_bright {R B Q C : Int} {s : List Int} (h : bright R B s) (hQ : inr Q) (hC : inr C) : bright Q C (pass R B s) := by
  refine ⟨hQ, hC, by rw [pass_len]; exact h.2.2.1, fun j hj => ?_⟩
  rw [pass_len] at hj
  rw [pass_getD _ _ _ _ hj]
  exact go_in h.1 h.2.1 h.2.2.2 j hj
theorem pass_keeps {R B : Int} {s : List Int} (h : bright R B s) : keeps R B (pass R B s) := by
  rw [keeps_iff (pass_bright h h.1 h.2.1), pass_len]
  exact keepsTo_ext (go_keeps h.1 h.2.1 h.2.2.2) fun j hj => (pass_getD _ _ _ _ hj).symm
theorem pass_self {R B : Int} {s : List Int} (h : bright R B s) : keeps R B s ↔ pass R B s = s := by
  constructor
  · intro k
    rw [keeps_iff h] at k
    refine list_ext (pass_len _ _ _) fun j hj => ?_
    rw [pass_len] at hj
    rw [pass_getD _ _ _ _ hj]
    exact keeps_go h.1 h.2.1 h.2.2.2 k j hj
  · intro k
    have := pass_keeps h
    rw [k] at this; exact this
theorem of_pass {R B : Int} {s : List Int} (h : bright R B s) (t : Nat) (ht : t ≤ s.length) : (of (pass R B s)).getD t 0 = acc (go R B fun j => s.getD j 0) t := by
  rw [of_getD (pass_bright h h.1 h.2.1) t (by rw [pass_len]; exact ht)]
  exact acc_ext t fun j hj => pass_getD _ _ _ _ (by omega)
theorem pass_below {R B : Int} {s : List Int} (h : bright R B s) : below (of (pass R B s)) (of s) := by
  intro t ht
  rw [of_len, of_len, pass_len] at ht
  rw [of_pass h t (by omega), of_getD h t (by omega)]
  exact fit_mono (sum_le h.1 h.2.1 h.2.2.2 t (by omega))
theorem fit_le {a b : Int} (ha : a ≤ 1152921504606846975) (hb : 0 ≤ b) (h : fit a ≤ fit b) : a ≤ b := by
  unfold fit at h; omega
theorem pass_most {R B : Int} {s o : List Int} (h : bright R B s) (hl : o.length = s.length) (hk : keeps R B o) (hb : below (of o) (of s)) : below (of o) (of (pass R B s)) := by
  have ho := hk.1
  rw [keeps_iff ho] at hk
  intro t ht
  rw [of_len, of_len, pass_len] at ht
  rw [of_pass h t (by omega), of_getD ho t (by omega)]
  refine fit_mono (greedy h.1 h.2.1 h.2.2.2 (fun v hv => ?_) (fun v hv u hu => hk v (by omega) u hu) t (by omega))
  have := hb v (by rw [of_len, of_len]; omega)
  rw [of_getD ho v (by omega), of_getD h v hv] at this
  have a := acc_lo ho.2.2.2 v (by omega)
  have b := acc_lo h.2.2.2 v (by omega)
  have l := ho.2.2.1
  exact fit_le (by omega) (by omega) this
theorem pass_conv {R B : Int} {s : List Int} (h : bright R B s) : of (pass R B s) = conv (of s) (line R B (s.length + 1)) := by
  refine list_ext (by rw [of_len, conv_len, of_len, pass_len, line_len h.1 h.2.1]; omega) fun t ht => ?_
  rw [of_len, pass_len] at ht
  rw [of_pass h t (by omega), conv_getD _ _ _ (by rw [of_len, line_len h.1 h.2.1]; omega)]
  exact (sum_cv h.1 h.2.1 h.2.2.2 (Nat.le_of_lt h.2.2.1) (fun j hj => of_getD h j hj) (fun j hj => line_getD h.1 h.2.1 _ _ (by omega)) t (by omega)).symm
theorem go_ext {R B : Int} {F G : Nat → Int} (j : Nat) (h : ∀ i, i ≤ j → F i = G i) : go R B F j = go R B G j ∧ st R B F j = st R B G j := by
  induction j with
  | zero => exact ⟨by unfold go wa ho st; rw [h 0 (by omega)], rfl⟩
  | succ j ih =>
    have k := (ih fun i hi => h i (by omega)).2
    have e : st R B F (j + 1) = st R B G (j + 1) := by simp only [st]; rw [k, h j (by omega)]
    exact ⟨by unfold go wa ho; rw [e, h (j + 1) (by omega)], e⟩
theorem pass_swap {R B Q C : Int} {s : List Int} (h : bright R B s) (hQ : inr Q) (hC : inr C) : pass R B (pass Q C s) = pass Q C (pass R B s) := by
  refine list_ext (by rw [pass_len, pass_len, pass_len, pass_len]) fun j hj => ?_
  rw [pass_len, pass_len] at hj
  rw [pass_getD _ _ _ _ (by rw [pass_len]; exact hj), pass_getD _ _ _ _ (by rw [pass_len]; exact hj)]
  rw [(go_ext j fun i hi => pass_getD Q C s i (by omega)).1, (go_ext j fun i hi => pass_getD R B s i (by omega)).1]
  exact go_swap h.1 h.2.1 hQ hC h.2.2.2 (Nat.le_of_lt h.2.2.1) j hj
theorem pass_pass {R B : Int} {s : List Int} (h : bright R B s) : pass R B (pass R B s) = pass R B s := (pass_self (pass_bright h h.1 h.2.1)).1 (pass_keeps h)
theorem keeps_first {R B Q C : Int} {s : List Int} (h : bright R B s) (hQ : inr Q) (hC : inr C) : keeps R B (pass R B (pass Q C s)) := pass_keeps (pass_bright ⟨hQ, hC, h.2.2⟩ h.1 h.2.1)
theorem keeps_second {R B Q C : Int} {s : List Int} (h : bright R B s) (hQ : inr Q) (hC : inr C) : keeps Q C (pass R B (pass Q C s)) := by
  rw [pass_swap h hQ hC]; exact pass_keeps (pass_bright h hQ hC)

/-! A line is never more than its parts. -/
theorem line_fits (R B : Int) (n : Nat) (hn : n ≤ 300) : fits2 (line R B n) := fun t ht => by
  by_cases h : inr R ∧ inr B
  · rw [line_len h.1 h.2] at ht
    rw [line_getD h.1 h.2 _ _ ht]
    have := lf_lo h.1 h.2 t
    have := lf_top h.1 h.2 t (by omega)
    exact fit_of _ (by omega) (by omega)
  · rw [line, if_neg h] at ht; simp at ht
theorem line_parts (R B : Int) (n : Nat) (hn : n ≤ 300) : parts (line R B n) := by
  have hf := line_fits R B n hn
  by_cases h : inr R ∧ inr B
  · have l := line_len h.1 h.2 n
    refine ⟨?_, fun t ht s hs => ?_⟩
    · by_cases c : n = 0
      · left; omega
      · right; rw [line_getD h.1 h.2 _ _ (by omega)]; rfl
    · rw [hf t ht]
      rw [l] at ht
      rw [line_getD h.1 h.2 _ _ (by omega), line_getD h.1 h.2 _ _ (by omega), line_getD h.1 h.2 _ _ (by omega)]
      have := lf_lo h.1 h.2 s
      have := lf_lo h.1 h.2 (t - s)
      have := lf_top h.1 h.2 s (by omega)
      have := lf_top h.1 h.2 (t - s) (by omega)
      rw [plus_small (by omega) (by omega) (by omega)]
      have := lf_sub h.1 h.2 s (t - s)
      rw [show s + (t - s) = t by omega] at this
      exact this
  · unfold line; rw [if_neg h]; exact ⟨.inl rfl, fun t ht => by simp at ht⟩
theorem line_close (R B : Int) (n : Nat) (hn : n ≤ 300) : close (line R B n) = line R B n := close_self _ (line_parts R B n hn) (line_fits R B n hn)
theorem line_curve (R B : Int) (n : Nat) (hn : n ≤ 300) (h0 : (line R B n).length ≠ 0) : right (line R B n) := by
  by_cases h : inr R ∧ inr B
  · have l := line_len h.1 h.2 n
    refine ⟨by omega, by rw [line_getD h.1 h.2 _ _ (by omega)]; rfl, fun j hj => ?_, ?_⟩
    · rw [l] at hj
      rw [line_getD h.1 h.2 _ _ (by omega), line_getD h.1 h.2 _ _ (by omega)]
      exact lf_up h.1 h.2 j
    · rw [l, line_getD h.1 h.2 _ _ (by omega)]
      have := lf_top h.1 h.2 (n - 1) (by omega)
      omega
  · unfold line at h0; rw [if_neg h] at h0; exact absurd rfl h0

/-! The document's own way. -/
/-- the most that may go at tick t: by what went ahead -/
def may (R B : Int) (D : Nat → Int) (w : Int) (t : Nat) : Nat → Int
  | 0 => w
  | k + 1 => min (may R B D w t k) (B + (k : Int) * min R B - (D t - D (t - k)))
theorem may_le (R B : Int) (D : Nat → Int) (w : Int) (t k : Nat) : may R B D w t k ≤ w ∧ ∀ i, i < k → may R B D w t k ≤ B + (i : Int) * min R B - (D t - D (t - i)) := by
  induction k with
  | zero => exact ⟨Int.le_refl _, fun i hi => by omega⟩
  | succ k ih =>
    simp only [may]
    refine ⟨by omega, fun i hi => ?_⟩
    by_cases e : i = k
    · subst e; omega
    · have := ih.2 i (by omega); omega
theorem le_may (R B : Int) (D : Nat → Int) (w : Int) (t k : Nat) (x : Int) (h0 : x ≤ w) (h : ∀ i, i < k → x ≤ B + (i : Int) * min R B - (D t - D (t - i))) : x ≤ may R B D w t k := by
  induction k with
  | zero => exact h0
  | succ k ih =>
    have := ih fun i hi => h i (by omega)
    have := h k (by omega)
    simp only [may]; omega
theorem may_go {R B : Int} {F : Nat → Int} {n : Nat} (hR : inr R) (hB : inr B) (hF : ∀ j, j < n → inr (F j)) (t : Nat) (ht : t < n) :
    may R B (acc (go R B F)) (wa R B F t + F t) t (t + 1) = go R B F t := by
  have a := may_le R B (acc (go R B F)) (wa R B F t + F t) t (t + 1)
  obtain ⟨u, hu, k⟩ := ho_is hR hB hF t (by omega)
  apply Int.le_antisymm
  · have b := a.2 (t - u) (by omega)
    rw [← lf_succ, show t - (t - u) = u by omega] at b
    have := a.1
    unfold go at *
    omega
  · refine le_may _ _ _ _ _ _ _ (by unfold go; omega) fun i hi => ?_
    have := ho_le hR hB hF t (by omega) (t - i) (by omega)
    rw [show t - (t - i) + 1 = i + 1 by omega] at this
    rw [← lf_succ]
    have : go R B F t ≤ ho R B F t := by unfold go; omega
    omega

end Go.Proofs.Ytmijlmidlddcpaa
