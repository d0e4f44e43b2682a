/- PROVED: on plain integers: what a bucket lets through never fills a faster queue; a queue behind a queue is one. CONDITIONS: none beyond each theorem's own. -/
import Derived.Test.YtjageagnclmnjabGreatDoorW46BBound
namespace Go.Proofs.YtjageagnclmnjabGreatDoor.B
set_option maxRecDepth 100000
set_option linter.unusedVariables false
set_option linter.unusedSectionVars false

/-! TopShaped -/
section
variable {R B Q M : Int} {F : Nat → Int} {n : Nat} (hR : inr R) (hB : inr B) (hQ : inr Q) (hM : inr M) (hF : ∀ j, j < n → inr (F j)) (hRQ : R ≤ Q) (hBM : B ≤ M)
include hR hB hQ hM hF hRQ hBM
end

/-! TopTwo -/
theorem acc_rise {F : Nat → Int} {n : Nat} (h : ∀ j, j < n → inr (F j)) (t d : Nat) (ht : t + d ≤ n) : acc F t ≤ acc F (t + d) := by
  induction d with
  | zero => exact Int.le_refl _
  | succ d ih =>
    have i := ih (by omega)
    have e : acc F (t + (d + 1)) = acc F (t + d) + F (t + d) := rfl
    have := h (t + d) (by omega)
    unfold inr at this
    omega
/-- where there is room for all that comes nothing is lost -/
theorem room_all {R M : Int} {F : Nat → Int} {n : Nat} (hR : inr R) (hM : inr M) (hF : ∀ j, j < n → inr (F j)) (hs : acc F n ≤ M) (t : Nat) (ht : t < n) : ql R M F t = 0 := by
  have h1 := qu_sum hR hM hF (t + 1) (by omega)
  have h2 := qu_sum hR hM hF t (by omega)
  have i1 := qu_in hR hM hF t (by omega)
  have g := (acc_lo (F := qg R M F) (n := n) (fun j hj => qg_in hR hM hF j hj) t (by omega)).1
  have l := (acc_lo (F := ql R M F) (n := n) (fun j hj => ql_in hR hM hF j hj) t (by omega)).1
  have up : acc F (t + 1) ≤ acc F n := by
    have := acc_rise hF (t + 1) (n - (t + 1)) (by omega)
    rwa [show t + 1 + (n - (t + 1)) = n by omega] at this
  have e : acc F (t + 1) = acc F t + F t := rfl
  have q := qg_in hR hM hF t ht
  unfold ql
  unfold inr at *
  omega
theorem lf_self (R : Int) (t : Nat) : lf R R t = (t : Int) * R := by
  cases t with
  | zero => show (0 : Int) = _; simp
  | succ t =>
    rw [lf_succ, Int.min_self, show ((t + 1 : Nat) : Int) = (t : Int) + 1 by omega, Int.add_mul, Int.one_mul]; omega
theorem cv_lines {a b : Int} (ha : inr a) (hb : inr b) (t : Nat) (ht : t ≤ 300) : cv (lf a a) (lf b b) t = lf (min a b) (min a b) t := by
  have hm : inr (min a b) := by unfold inr at *; omega
  have pl : ∀ s, s ≤ t → plus (lf a a s) (lf b b (t - s)) = lf a a s + lf b b (t - s) := fun s hs => by
    have := lf_lo ha ha s
    have := lf_lo hb hb (t - s)
    have := lf_top ha ha s (by omega)
    have := lf_top hb hb (t - s) (by omega)
    exact plus_small (by omega) (by omega) (by omega)
  apply Int.le_antisymm
  · by_cases h : a ≤ b
    · have := cv_le (lf a a) (lf b b) t t (Nat.le_refl _)
      rw [pl t (Nat.le_refl _), Nat.sub_self, lf_zero] at this
      rw [show min a b = a by omega]; omega
    · have := cv_le (lf a a) (lf b b) t 0 (Nat.zero_le _)
      rw [pl 0 (Nat.zero_le _), Nat.sub_zero, lf_zero] at this
      rw [show min a b = b by omega]; omega
  · refine le_cv _ _ _ _ ?_ fun s hs => ?_
    · have := lf_top hm hm t ht; omega
    · rw [pl s hs, lf_self, lf_self, lf_self]
      have h1 : (s : Int) * min a b ≤ (s : Int) * a := Int.mul_le_mul_of_nonneg_left (by omega) (by omega)
      have h2 : ((t - s : Nat) : Int) * min a b ≤ ((t - s : Nat) : Int) * b := Int.mul_le_mul_of_nonneg_left (by omega) (by omega)
      have e : (t : Int) = (s : Int) + ((t - s : Nat) : Int) := by omega
      rw [e, Int.add_mul]; omega
section
variable {a b : Int} {F : Nat → Int} {n : Nat} (ha : inr a) (hb : inr b) (hF : ∀ j, j < n → inr (F j)) (hn : n < 300)
include ha hb hF hn
/-- one behind the other, in all -/
theorem two_sums (t : Nat) (ht : t ≤ n) : acc (go b b (go a a F)) t = cv (acc F) (cv (lf a a) (lf b b)) t ∧ acc (go b b (go a a F)) t = acc (go (min a b) (min a b) F) t := by
  have hm : inr (min a b) := by unfold inr at *; omega
  have hG : ∀ j, j < n → inr (go a a F j) := fun j hj => go_in ha ha hF j hj
  have e1 : ∀ t, t ≤ n → cv (acc F) (lf a a) t = acc (go a a F) t := fun t ht => sum_cv ha ha hF (by omega) (fun j _ => rfl) (fun j _ => rfl) t ht
  have e2 : cv (acc (go a a F)) (lf b b) t = acc (go b b (go a a F)) t := sum_cv hb hb hG (by omega) (fun j _ => rfl) (fun j _ => rfl) t ht
  have e3 : cv (acc F) (lf (min a b) (min a b)) t = acc (go (min a b) (min a b) F) t := sum_cv hm hm hF (by omega) (fun j _ => rfl) (fun j _ => rfl) t ht
  have e4 : cv (acc F) (cv (lf a a) (lf b b)) t = acc (go b b (go a a F)) t := by
    rw [cv_assoc, ← e2]
    exact cv_ext (fun j hj => e1 j (by omega)) (fun _ _ => rfl)
  refine ⟨e4.symm, ?_⟩
  rw [← e4, ← e3]
  exact cv_ext (fun _ _ => rfl) (fun j hj => cv_lines ha hb j (by omega))
/-- one behind the other, tick by tick: as the slower one -/
theorem two_one (j : Nat) (hj : j < n) : go b b (go a a F) j = go (min a b) (min a b) F j :=
  acc_inj (n := n) (fun t ht => (two_sums ha hb hF hn t ht).2) j hj
theorem two_queues {M : Int} (hM : inr M) (hs : acc F n ≤ M) (j : Nat) (hj : j < n) : qg b M (qg a M F) j = qg (min a b) M F j ∧ qg b M (qg a M F) j = go b b (go a a F) j := by
  have hm : inr (min a b) := by unfold inr at *; omega
  have l1 := fun j hj => room_all ha hM hF hs j hj
  have hG : ∀ j, j < n → inr (qg a M F j) := fun j hj => qg_in ha hM hF j hj
  have e1 : ∀ j, j < n → qg a M F j = go a a F j := fun j hj => queue_go ha hM hF l1 j hj
  have hle : acc (qg a M F) n ≤ M := by
    have := qu_sum ha hM hF n (Nat.le_refl _)
    have := (qu_in ha hM hF n (Nat.le_refl _)).1
    have := (acc_lo (F := ql a M F) (n := n) (fun j hj => ql_in ha hM hF j hj) n (Nat.le_refl _)).1
    omega
  have l2 := fun j hj => room_all hb hM hG hle j hj
  have e2 : qg b M (qg a M F) j = go b b (qg a M F) j := queue_go hb hM hG l2 j hj
  have e3 : go b b (qg a M F) j = go b b (go a a F) j := (go_ext j fun i hi => e1 i (by omega)).1
  have e4 : qg (min a b) M F j = go (min a b) (min a b) F j := queue_go hm hM hF (fun j hj => room_all hm hM hF hs j hj) j hj
  rw [e2, e3, e4]
  exact ⟨two_one ha hb hF hn j hj, rfl⟩
end

end Go.Proofs.YtjageagnclmnjabGreatDoor.B
