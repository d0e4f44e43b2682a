/- PROVED: what can't be more, on plain integers: High, Far, Serves, Keeps, and what the promises say of them. on plain integers: what a bucket lets through never fills a faster queue; a queue behind a queue is one. CONDITIONS: none beyond each theorem's own. -/
import Derived.Test.YtjageagnclmnjabGreatDoorV44BQueue
section
namespace Go.Proofs.YtjageagnclmnjabGreatDoor.B
set_option maxRecDepth 100000

/-! High. -/
/-! Far. -/
/-- by how many ticks row g is behind the number x of tick t -/
def fd (x : Int) (g : List Int) (t : Nat) : Nat := later (fit x) (fun j => fit (g.getD (j - 1) 0)) t (g.length - t)
/-- the tick's own -/
def fdt (f g : List Int) (t : Nat) : Nat := fd (f.getD t 0) g t
def reach (f g : List Int) : Prop := ∀ t, t < f.length → t + fdt f g t < g.length
instance (f g : List Int) : Decidable (reach f g) := inferInstanceAs (Decidable (∀ t, t < f.length → t + fdt f g t < g.length))
/-! Serves. -/
/-! Keeps. -/
def holds (f row : List Int) : Prop := ∀ t, t < f.length → ov (fun j => f.getD j 0) (fun j => f.getD j 0) f.length f.length t ≤ att row t
instance (f row : List Int) : Decidable (holds f row) := inferInstanceAs (Decidable (∀ t, t < f.length → _))
set_option linter.unusedSectionVars false
/-! What the promises say of rows. -/
section
variable {i o r s : List Int} {n : Nat} (li : i.length = n) (lo : o.length = n) (lr : r.length = n) (ls : s.length = n) (ri : right i) (ai : allIn i) (ao : allIn o) (ar : allIn r) (azs : allIn s) (hk : holds i r) (hb : below (conv i s) o)
include li lo lr ls ri ai ao ar azs hk hb
end

/-! A queue. -/
section
variable {R B Q M : Int} {F : Nat → Int} {n : Nat} (hR : inr R) (hB : inr B) (hQ : inr Q) (hM : inr M) (hF : ∀ j, j < n → inr (F j)) (h0 : ∀ j, j < n → ql Q M F j = 0) (hk : keepsTo R B F n) (hRQ : R ≤ Q)
include hR hB hQ hM hF h0 hk hRQ
theorem waits_burst (t : Nat) (ht : t < n) : qw Q M F t ≤ max (B - Q) 0 := by
  unfold qw
  obtain ⟨k, hkt, e⟩ := reich_is hQ hM hF h0 (t + 1) (by omega)
  rw [e]
  cases k with
  | zero => simp; omega
  | succ k =>
    have a := hk (t + 1) (by omega) (t + 1 - (k + 1)) (by omega)
    rw [show t + 1 - (t + 1 - (k + 1)) = k + 1 by omega, lf_succ] at a
    have b : (k : Int) * min R B ≤ (k : Int) * Q := Int.mul_le_mul_of_nonneg_left (by omega) (by omega)
    have c : ((k + 1 : Nat) : Int) * Q = (k : Int) * Q + Q := by rw [show ((k + 1 : Nat) : Int) = (k : Int) + 1 by omega, Int.add_mul, Int.one_mul]
    rw [c]
    omega
theorem delay_burst (hp : 0 < Q) (t : Nat) (ht : t < n) : delay (acc F) (acc (qg Q M F)) n t ≤ (B + Q - 1).tdiv Q := by
  have hw := waits_burst hR hB hQ hM hF h0 hk hRQ t ht
  unfold inr at hB
  have e : (B + Q - 1).tdiv Q = (B + Q - 1) / Q := Int.tdiv_eq_ediv_of_nonneg (by omega)
  have hnn : 0 ≤ (B + Q - 1) / Q := Int.ediv_nonneg (by omega) (by omega)
  rw [e]
  have i := qw_in hQ hM hF t ht
  unfold inr at i
  by_cases c : qw Q M F t = 0
  · rw [delay_none hQ hM hF h0 t ht c]; exact hnn
  · obtain ⟨m, _, m1, m2, _⟩ := ceil_is (qw Q M F t) Q (by omega) hp
    rw [delay_ceil hQ hM hF h0 t ht (by omega) hp m m1 m2]
    split
    · omega
    · rw [Int.le_ediv_iff_mul_le hp]
      rw [Int.sub_mul, Int.one_mul] at m2
      omega
end

end Go.Proofs.YtjageagnclmnjabGreatDoor.B

end

section
namespace Go.Proofs.YtjageagnclmnjabGreatDoor.B
set_option maxRecDepth 100000
set_option linter.unusedVariables false
set_option linter.unusedSectionVars false

/-! TopShaped -/
section
variable {R B Q M : Int} {F : Nat → Int} {n : Nat} (hR : inr R) (hB : inr B) (hQ : inr Q) (hM : inr M) (hF : ∀ j, j < n → inr (F j)) (hRQ : R ≤ Q) (hBM : B ≤ M)
include hR hB hQ hM hF hRQ hBM
/-- what waits behind a bucket, and what it holds: never more than its burst -/
theorem shaped_in (t : Nat) (ht : t ≤ n) : qu Q M (go R B F) t + ho R B F t ≤ B ∧ 0 ≤ qu Q M (go R B F) t := by
  induction t with
  | zero => exact ⟨by show 0 + B ≤ B; omega, Int.le_refl _⟩
  | succ t ih =>
    obtain ⟨i1, i2⟩ := ih (by omega)
    have s := st_in hR hB hF t (by omega)
    have hf := hF t (by omega)
    have hg := go_in hR hB hF t (by omega)
    have hle : go R B F t ≤ ho R B F t := by unfold go; omega
    rw [qu_succ, ho_succ]
    unfold ql qg
    unfold inr at *
    omega
theorem shaped_lost (t : Nat) (ht : t < n) : ql Q M (go R B F) t = 0 := by
  obtain ⟨i1, i2⟩ := shaped_in hR hB hQ hM hF hRQ hBM t (by omega)
  have hle : go R B F t ≤ ho R B F t := by unfold go; omega
  unfold ql qg
  unfold inr at *
  omega
theorem shaped_waits (t : Nat) (ht : t < n) : qw Q M (go R B F) t ≤ max (B - Q) 0 :=
  waits_burst hR hB hQ hM (fun j hj => go_in hR hB hF j hj) (fun j hj => shaped_lost hR hB hQ hM hF hRQ hBM j hj) (go_keeps hR hB hF) hRQ t ht
theorem shaped_delay (hp : 0 < Q) (t : Nat) (ht : t < n) : delay (acc (go R B F)) (acc (qg Q M (go R B F))) n t ≤ (B + Q - 1).tdiv Q :=
  delay_burst hR hB hQ hM (fun j hj => go_in hR hB hF j hj) (fun j hj => shaped_lost hR hB hQ hM hF hRQ hBM j hj) (go_keeps hR hB hF) hRQ hp t ht
end

/-! TopTwo -/
section
variable {a b : Int} {F : Nat → Int} {n : Nat} (ha : inr a) (hb : inr b) (hF : ∀ j, j < n → inr (F j)) (hn : n < 300)
include ha hb hF hn
end

end Go.Proofs.YtjageagnclmnjabGreatDoor.B

end
