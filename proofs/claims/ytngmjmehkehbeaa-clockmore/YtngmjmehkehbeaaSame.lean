/- PROVED: what slices.Equal answers. CONDITIONS: none beyond each theorem's own. -/
import Derived.Test.YtngmjmehkehbeaaShelf
import Derived.Test.YtngmjmehkehbeaaAns
namespace Go.Proofs.Ytngmjmehkehbeaa
open Go.RowKit

theorem equal_any (a1 a2 : Option Addr) (c1 c2 : Nat) (xs ys : List Int) (w : World) (h1 : Row w a1 xs) (h2 : Row w a2 ys) (b1 : xs.length ≤ 35184372088832) (b2 : ys.length ≤ 35184372088832) :
    Calls Try.prog 9 #[.slice a1 xs.length c1, .slice a2 ys.length c2] w fun e w' => e = .returned (.bool (decide (xs = ys))) ∧ ∃ q, w' = w.drewN q := by
  by_cases hl : xs.length = ys.length
  · rcases h1 with e | ⟨g1, o1, rfl, k1⟩
    · subst e
      have hy : ys = [] := List.eq_nil_of_length_eq_zero (by simpa using hl.symm)
      subst hy
      exact (Try.slices_Equal_int_empty a1 a2 c1 0 c2 w (by omega)).mono fun e w' ⟨he, hw⟩ => ⟨by rw [he]; rfl, 0, hw⟩
    · rcases h2 with e | ⟨g2, o2, rfl, k2⟩
      · subst e
        have hx : xs = [] := List.eq_nil_of_length_eq_zero (by simpa using hl)
        subst hx
        exact (Try.slices_Equal_int_empty _ a2 c1 0 c2 w (by omega)).mono fun e w' ⟨he, hw⟩ => ⟨by rw [he]; rfl, 0, hw⟩
      · refine (Try.slices_Equal_int g1 o1 xs.length c1 g2 o2 ys.length c2 xs ys w (Nat.le_refl _) (Nat.le_refl _) (by omega) (by omega) k1 k2).mono fun e w' ⟨he, hw⟩ => ⟨?_, hw⟩
        rw [he, List.take_length, List.take_length]
        congr 2
        rw [Bool.eq_iff_iff]; simp
  · refine (Try.slices_Equal_int_lens a1 a2 xs.length c1 ys.length c2 w hl).mono fun e w' ⟨he, hw⟩ => ⟨?_, 0, hw⟩
    have hne : xs ≠ ys := fun q => hl (by rw [q])
    rw [he, decide_eq_false hne]

/-- the same, how long each is said apart -/
theorem equal_at (a1 a2 : Option Addr) (c1 c2 n : Nat) (xs : List Int) (w : World) (h1 : Row w a1 xs) (h2 : Row w a2 xs) (hn : xs.length = n) (b1 : n ≤ 35184372088832) :
    Calls Try.prog 9 #[.slice a1 n c1, .slice a2 n c2] w fun e w' => e = .returned (.bool true) ∧ ∃ q, w' = w.drewN q := by
  subst hn
  exact (equal_any a1 a2 c1 c2 xs xs w h1 h2 b1 b1).mono fun e w' ⟨he, hw⟩ => ⟨by rw [he, decide_eq_true rfl], hw⟩

end Go.Proofs.Ytngmjmehkehbeaa
