/- PROVED: the contracts with how long each row is said apart; the greatest of a row; slices that are written out. CONDITIONS: none beyond each theorem's own. -/
import Derived.Test.YtolijbhokaieeaaSame
import Derived.Test.YtolijbhokaieeaaPass
import Derived.Test.YtolijbhokaieeaaFar
namespace Go.Proofs.Ytolijbhokaieeaa
open Go.RowKit

/-- one step of a walk that is not taken yet -/
theorem tok : Hid True := trivial
/-- what a call answers: n numbers -/
def AnsN (w : World) (n : Nat) (R : List Int) (e : Ending) (w' : World) : Prop :=
  ∃ ao cap, e = .returned (.slice ao n cap) ∧ n ≤ cap ∧ Row w' ao R ∧ Below w.heap.size w w'
theorem Ans.told {w : World} {R S : List Int} {n : Nat} {e : Ending} {w' : World} (h : Ans w R e w') (hl : R.length = n) (hS : R = S) : AnsN w n S e w' := by
  subst hS; subst hl; exact h
theorem equal_n (a1 a2 : Option Addr) (c1 c2 n m : Nat) (f g : List Int) (w : World) (k1 : Row w a1 f) (k2 : Row w a2 g) (e1 : f.length = n) (e2 : g.length = m) (h : n ≤ 35184372088832) (h2 : m ≤ 35184372088832) (b : Bool) (hb : decide (f = g) = b) :
    Calls Try.prog 9 #[.slice a1 n c1, .slice a2 m c2] w fun e w' => e = .returned (.bool b) ∧ Below w.heap.size w w' := by
  subst e1; subst e2; subst hb
  exact (equal_any a1 a2 c1 c2 f g w k1 k2 h h2).mono fun _ _ ⟨he, q, hw⟩ => ⟨he, hw ▸ below_drewN (Below.refl _ _) q⟩
theorem right_n (a1 a2 : Option Addr) (c1 c2 n m : Nat) (f g : List Int) (w : World) (k1 : Row w a1 f) (k2 : Row w a2 g) (e1 : f.length = n) (e2 : g.length = m) (h : n ≤ 17592186044415) (h2 : m ≤ 17592186044415) (b : Bool) (hb : decide (jright f g) = b) :
    Calls Try.prog 7 #[.slice a1 n c1, .slice a2 m c2] w fun e w' => e = .returned (.bool b) ∧ Below w.heap.size w w' := by
  subst e1; subst e2; subst hb
  exact (right_any a1 a2 c1 c2 f g w k1 k2 (by omega) (by omega)).mono fun _ _ ⟨he, q, hw⟩ => ⟨he, hw ▸ below_drewN (Below.refl _ _) q⟩
theorem pass_n (a1 a2 : Option Addr) (c1 c2 n m : Nat) (f g R : List Int) (r : Nat) (w : World) (k1 : Row w a1 f) (k2 : Row w a2 g) (e1 : f.length = n) (e2 : g.length = m) (h : n ≤ 17592186044415) (h2 : m ≤ 17592186044415) (hR : pass f g = R) (hl : R.length = r) :
    Calls Try.prog 10 #[.slice a1 n c1, .slice a2 m c2] w (AnsN w r R) := by
  subst e1; subst e2
  exact (pass_any a1 a2 c1 c2 f g w k1 k2 (by omega) (by omega)).mono fun e w' q => q.told (by rw [hR]; exact hl) hR
theorem delays_n (a1 a2 : Option Addr) (c1 c2 n m : Nat) (f g R : List Int) (r : Nat) (w : World) (k1 : Row w a1 f) (k2 : Row w a2 g) (e1 : f.length = n) (e2 : g.length = m) (h : n ≤ 17592186044415) (h2 : m ≤ 17592186044415) (hR : dl f g = R) (hl : R.length = r) :
    Calls Try.prog 12 #[.slice a1 n c1, .slice a2 m c2] w (AnsN w r R) := by
  subst e1; subst e2
  exact (delays_any a1 a2 c1 c2 f g w k1 k2 (by omega) (by omega)).mono fun e w' q => q.told (by rw [hR]; exact hl) hR
theorem sorted_n (a : Option Addr) (c n : Nat) (f : List Int) (w : World) (k : Row w a f) (e1 : f.length = n) (h : n ≤ 17592186044415) (b : Bool) (hb : decide (up f) = b) :
    Calls Try.prog 14 #[.slice a n c] w fun e w' => e = .returned (.bool b) ∧ Below w.heap.size w w' := by
  subst e1; subst hb
  exact (sorted_all a c f w k (by omega)).mono fun _ _ ⟨he, q, hw⟩ => ⟨he, hw ▸ below_drewN (Below.refl _ _) q⟩

theorem maxOf_is (zs : List Int) (k : Nat) (h0 : 0 < k) (hk : k ≤ zs.length) : (∀ j, j < k → zs.getD j 0 ≤ Lib.maxOf (zs.take k)) ∧ ∃ j, j < k ∧ Lib.maxOf (zs.take k) = zs.getD j 0 := by
  induction k with
  | zero => omega
  | succ k ih =>
    by_cases e : k = 0
    · subst e
      rw [Lib.maxOf_one]
      exact ⟨fun j hj => by obtain rfl : j = 0 := by omega
                            exact Int.le_refl _, 0, by omega, rfl⟩
    · obtain ⟨a, j, hj, b⟩ := ih (by omega) (by omega)
      rw [Lib.maxOf_step zs k (by omega) (by omega)]
      refine ⟨fun i hi => ?_, ?_⟩
      · by_cases c : i = k
        · subst c; omega
        · have := a i (by omega); omega
      · by_cases c : Lib.maxOf (zs.take k) ≤ zs.getD k 0
        · exact ⟨k, by omega, by omega⟩
        · exact ⟨j, by omega, by omega⟩
/-- the greatest of a row that is not empty -/
theorem max_n (a : Option Addr) (c n : Nat) (f : List Int) (w : World) (k : Row w a f) (e1 : f.length = n) (h0 : 0 < n) (h : n ≤ 17592186044415) (M : Int) (hM : Lib.maxOf (f.take f.length) = M) :
    Calls Try.prog 15 #[.slice a n c] w fun e w' => e = .returned (.int .i64 M) ∧ w' = w := by
  subst e1; subst hM
  obtain ⟨b, o, rfl, hc⟩ := k.at h0
  exact Try.slices_Max_int b o f.length c f w h0 (Nat.le_refl _) (by omega) hc

/-- slices that are written out -/
theorem lit1 (w : World) (A : Array Value) (X : List Int) (h : A = (X.map (Value.int .i64)).toArray) : Row (w.alloc (.cells A 3)) (some ⟨w.heap.size, 0, none⟩) X := by
  subst h
  refine .inr ⟨w.heap.size, 0, rfl, fun j hj => ?_⟩
  rw [Nat.zero_add, World.cell?_alloc_at _ _ _ _ rfl]
  simp [hj]
theorem lit2 (w : World) (A B : Array Value) (X Y : List Int) (h : A = (X.map (Value.int .i64)).toArray) (k : B = (Y.map (Value.int .i64)).toArray) :
    Row ((w.alloc (.cells A 3)).alloc (.cells B 3)) (some ⟨w.heap.size, 0, none⟩) X ∧ Row ((w.alloc (.cells A 3)).alloc (.cells B 3)) (some ⟨w.heap.size + 1, 0, none⟩) Y := by
  refine ⟨(lit1 w A X h).alloc _, ?_⟩
  have := lit1 (w.alloc (.cells A 3)) B Y k
  rw [show (w.alloc (.cells A 3)).heap.size = w.heap.size + 1 by simp] at this
  exact this

theorem eqRow (x : List Int) : decide (x = x) = true := decide_eq_true rfl

theorem al_pass : pass [1, 2, 9] [5, 0, 1] = [6, 6, 10] := by decide +kernel
theorem al_dl : dl [1, 2, 9] [6, 6, 10] = [5, 4, 1] := by
  show [wrap64 5, wrap64 4, wrap64 1] = _
  rw [IntWalk.wrap64_in 5 (by omega), IntWalk.wrap64_in 4 (by omega), IntWalk.wrap64_in 1 (by omega)]
theorem al_right : decide (jright [2, 1] [0, 0]) = false := by decide +kernel

end Go.Proofs.Ytolijbhokaieeaa
