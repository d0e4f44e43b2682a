/- PROVED: the contracts of chapter 8 with how long each row is said apart. CONDITIONS: none beyond each theorem's own. -/
import Derived.Test.YtmijlmidlddcpaaTold
import Derived.Test.YtmijlmidlddcpaaBHigh
import Derived.Test.YtmijlmidlddcpaaBFar
import Derived.Test.YtmijlmidlddcpaaRight
namespace Go.Proofs.Ytmijlmidlddcpaa
open Go.RowKit

theorem high_n (a1 a2 : Option Addr) (c1 c2 n m : Nat) (f g : List Int) (w : World) (k1 : Row w a1 f) (k2 : Row w a2 g) (e1 : f.length = n) (e2 : g.length = m) (h : n ≤ 17592186044415) (h2 : m ≤ 17592186044415) (X : Int) (hX : high f g = X) :
    Calls Try.prog 10 #[.slice a1 n c1, .slice a2 m c2] w fun e w' => e = .returned (.int .i64 X) ∧ Below w.heap.size w w' := by
  subst e1; subst e2; subst hX
  exact (high_any a1 a2 c1 c2 f g w k1 k2 (by omega) (by omega)).mono fun _ _ ⟨he, q, hw⟩ => ⟨he, hw ▸ below_drewN (Below.refl _ _) q⟩
theorem far_n (a1 a2 : Option Addr) (c1 c2 n m : Nat) (f g : List Int) (w : World) (k1 : Row w a1 f) (k2 : Row w a2 g) (e1 : f.length = n) (e2 : g.length = m) (h : n ≤ 17592186044415) (h2 : m ≤ 17592186044415) (X : Nat) (hX : far f g = X) (b : Bool) (hb : decide (reach f g) = b) :
    Calls Try.prog 8 #[.slice a1 n c1, .slice a2 m c2] w fun e w' => e = .returned (.tuple #[.int .i64 X, .bool b]) ∧ Below w.heap.size w w' := by
  subst e1; subst e2; subst hX; subst hb
  exact far_any a1 a2 c1 c2 f g w k1 k2 h h2
theorem serves_n (R L n : Int) (hR : -9223372036854775808 ≤ R ∧ R ≤ 9223372036854775807) (hL : -9223372036854775808 ≤ L ∧ L ≤ 9223372036854775807) (hn : -9223372036854775808 ≤ n ∧ n ≤ 9223372036854775807) (S : List Int) (l : Nat) (hS : serves R L n = S) (hl : S.length = l) (w : World) :
    Calls Try.prog 13 #[.int .i64 R, .int .i64 L, .int .i64 n] w (AnsN w l S) :=
  (serves_any R L n hR hL hn w).mono fun e w' q => q.told (by rw [hS]; exact hl) hS
theorem holds_n (a1 a2 : Option Addr) (c1 c2 n m : Nat) (f g : List Int) (w : World) (k1 : Row w a1 f) (k2 : Row w a2 g) (e1 : f.length = n) (e2 : g.length = m) (h : n ≤ 17592186044415) (h2 : m ≤ 17592186044415) (hc : n ≤ c1) (b : Bool) (hb : decide (holds f g) = b) :
    Calls Try.prog 15 #[.slice a1 n c1, .slice a2 m c2] w fun e w' => e = .returned (.bool b) ∧ Below w.heap.size w w' := by
  subst e1; subst e2; subst hb
  exact holds_any a1 a2 c1 c2 f g w k1 k2 (by omega) (by omega) hc
theorem right_n (a : Option Addr) (c n : Nat) (f : List Int) (w : World) (k : Row w a f) (e1 : f.length = n) (h : n ≤ 17592186044416) (b : Bool) (hb : decide (right f) = b) :
    Calls Try.prog 22 #[.slice a n c] w fun e w' => e = .returned (.bool b) ∧ Below w.heap.size w w' := by
  subst e1; subst hb
  exact (right_any a c f w k h).mono fun _ _ ⟨he, q, hw⟩ => ⟨he, hw ▸ below_drewN (Below.refl _ _) q⟩

/-- slices that are written out -/
theorem lit1 (w : World) (A : Array Value) (X : List Int) (h : A = (X.map (Value.int .i64)).toArray) : Row (w.alloc (.cells A 3)) (some ⟨w.heap.size, 0, none⟩) X := by
  subst h
  refine .inr ⟨w.heap.size, 0, rfl, fun j hj => ?_⟩
  rw [Nat.zero_add, World.cell?_alloc_at _ _ _ _ rfl]
  simp [hj]
theorem lit2 (w : World) (A B : Array Value) (X Y : List Int) (h : A = (X.map (Value.int .i64)).toArray) (k : B = (Y.map (Value.int .i64)).toArray) :
    Row ((w.alloc (.cells A 3)).alloc (.cells B 3)) (some ⟨w.heap.size, 0, none⟩) X ∧ Row ((w.alloc (.cells A 3)).alloc (.cells B 3)) (some ⟨w.heap.size + 1, 0, none⟩) Y := by
  refine ⟨(lit1 w A X h).alloc _, ?_⟩
  have := lit1 (w.alloc (.cells A 3)) B Y k
  rw [show (w.alloc (.cells A 3)).heap.size = w.heap.size + 1 by simp] at this
  exact this

theorem al_far : far [0, 3, 4] [0, 0, 3, 5] = 1 := by decide +kernel
theorem al_reach : decide (reach [0, 3, 4] [0, 0, 3, 5]) = true := by decide +kernel
theorem al_far2 : far [9] [3] = 0 := by decide +kernel
theorem al_reach2 : decide (reach [9] [3]) = false := by decide +kernel
theorem al_high : high [0, 3, 4] [0, 0, 3] = 3 := by decide +kernel
theorem al_serves : serves 2 1 4 = [0, 0, 2, 4] := by decide +kernel
theorem al_holds : decide (holds [0, 3, 5] [0, 3, 5]) = true := by decide +kernel
theorem al_holds2 : decide (holds [0, 3, 9] [0, 3, 5]) = false := by decide +kernel
theorem eqRow (x : List Int) : decide (x = x) = true := decide_eq_true rfl

end Go.Proofs.Ytmijlmidlddcpaa
