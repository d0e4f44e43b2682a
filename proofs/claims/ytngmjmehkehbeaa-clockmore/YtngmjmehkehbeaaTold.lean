/- PROVED: the contracts with how long each row is said apart; the least of a row; slices that are written out. CONDITIONS: none beyond each theorem's own. -/
import Derived.Test.YtngmjmehkehbeaaSame
import Derived.Test.YtngmjmehkehbeaaWaits
import Derived.Test.YtngmjmehkehbeaaFar
namespace Go.Proofs.Ytngmjmehkehbeaa
open Go.RowKit

/-- one step of a walk that is not taken yet -/
theorem tok : Hid True := trivial
/-- what a call answers: n numbers -/
def AnsN (w : World) (n : Nat) (R : List Int) (e : Ending) (w' : World) : Prop :=
  ∃ ao cap, e = .returned (.slice ao n cap) ∧ n ≤ cap ∧ Row w' ao R ∧ Below w.heap.size w w'
theorem Ans.told {w : World} {R S : List Int} {n : Nat} {e : Ending} {w' : World} (h : Ans w R e w') (hl : R.length = n) (hS : R = S) : AnsN w n S e w' := by
  subst hS; subst hl; exact h
theorem equal_n (a1 a2 : Option Addr) (c1 c2 n m : Nat) (f g : List Int) (w : World) (k1 : Row w a1 f) (k2 : Row w a2 g) (e1 : f.length = n) (e2 : g.length = m) (h : n ≤ 35184372088832) (h2 : m ≤ 35184372088832) (b : Bool) (hb : decide (f = g) = b) :
    Calls Try.prog 9 #[.slice a1 n c1, .slice a2 m c2] w fun e w' => e = .returned (.bool b) ∧ Below w.heap.size w w' := by
  subst e1; subst e2; subst hb
  exact (equal_any a1 a2 c1 c2 f g w k1 k2 h h2).mono fun _ _ ⟨he, q, hw⟩ => ⟨he, hw ▸ below_drewN (Below.refl _ _) q⟩
theorem equal_q (a1 a2 : Option Addr) (c1 c2 n m : Nat) (f g : List Int) (w : World) (k1 : Row w a1 f) (k2 : Row w a2 g) (e1 : f.length = n) (e2 : g.length = m) (h : n ≤ 35184372088832) (h2 : m ≤ 35184372088832) (b : Bool) (hb : decide (f = g) = b) :
    Calls Try.prog 9 #[.slice a1 n c1, .slice a2 m c2] w fun e w' => e = .returned (.bool b) ∧ ∃ q, w' = w.drewN q := by
  subst e1; subst e2; subst hb
  exact equal_any a1 a2 c1 c2 f g w k1 k2 h h2
theorem right_n (a : Option Addr) (c n : Nat) (ps : Rs) (w : World) (k : PRow w a ps) (e1 : ps.length = n) (h : n ≤ 8796093022206) (b : Bool) (hb : decide (cright ps) = b) :
    Calls Try.prog 8 #[.slice a n c] w fun e w' => e = .returned (.bool b) ∧ Below w.heap.size w w' := by
  subst e1; subst hb
  exact right_any a c ps w k (by omega)
theorem ways_n (a : Option Addr) (c n : Nat) (ps : Rs) (R : List Int) (r : Nat) (w : World) (k : PRow w a ps) (e1 : ps.length = n) (h : n ≤ 8796093022206) (hR : ways ps = R) (hl : R.length = r) :
    Calls Try.prog 10 #[.slice a n c] w (AnsN w r R) := by
  subst e1
  exact (ways_any a c ps w k h).mono fun e w' q => q.told (by rw [hR]; exact hl) hR
theorem waits_n (a : Option Addr) (c n : Nat) (ps : Rs) (u v : Int) (R : List Int) (r : Nat) (w : World) (k : PRow w a ps) (e1 : ps.length = n) (h : n ≤ 8796093022206) (hu : u ≤ 9223372036854775807) (hv : v ≤ 9223372036854775807) (hR : waits ps u v = R) (hl : R.length = r) :
    Calls Try.prog 11 #[.slice a n c, .int .i64 u, .int .i64 v] w (AnsN w r R) := by
  subst e1
  exact (waits_any a c ps u v w k h hu hv).mono fun e w' q => q.told (by rw [hR]; exact hl) hR

theorem minOf_is (zs : List Int) (k : Nat) (h0 : 0 < k) (hk : k ≤ zs.length) : (∀ j, j < k → Lib.minOf (zs.take k) ≤ zs.getD j 0) ∧ ∃ j, j < k ∧ Lib.minOf (zs.take k) = zs.getD j 0 := by
  induction k with
  | zero => omega
  | succ k ih =>
    by_cases e : k = 0
    · subst e
      rw [Lib.minOf_one]
      exact ⟨fun j hj => by obtain rfl : j = 0 := by omega
                            exact Int.le_refl _, 0, by omega, rfl⟩
    · obtain ⟨a, j, hj, b⟩ := ih (by omega) (by omega)
      rw [Lib.minOf_step zs k (by omega) (by omega)]
      refine ⟨fun i hi => ?_, ?_⟩
      · by_cases c : i = k
        · subst c; omega
        · have := a i (by omega); omega
      · by_cases c : zs.getD k 0 ≤ Lib.minOf (zs.take k)
        · exact ⟨k, by omega, by omega⟩
        · exact ⟨j, by omega, by omega⟩
/-- the least of the first k of a row -/
theorem min_n (b o c : Nat) (f : List Int) (k : Nat) (w : World) (hc : ∀ j, j < f.length → w.cell? ⟨b, o + j, none⟩ = some (.int .i64 (f.getD j 0))) (h0 : 0 < k) (hk : k ≤ f.length) (h : f.length ≤ 17592186044415) (M : Int) (hM : Lib.minOf (f.take k) = M) :
    Calls Try.prog 14 #[.slice (some ⟨b, o, none⟩) k c] w fun e w' => e = .returned (.int .i64 M) ∧ w' = w := by
  subst hM
  exact Try.slices_Min_int b o k c f w h0 hk (by omega) hc

/-- slices that are written out -/
theorem lit1 (w : World) (A : Array Value) (X : List Int) (h : A = (X.map (Value.int .i64)).toArray) : Row (w.alloc (.cells A 3)) (some ⟨w.heap.size, 0, none⟩) X := by
  subst h
  refine .inr ⟨w.heap.size, 0, rfl, fun j hj => ?_⟩
  rw [Nat.zero_add, World.cell?_alloc_at _ _ _ _ rfl]
  simp [hj]
theorem litP (w : World) (A : Array Value) (ps : Rs) (h : A = (flat ps).toArray) : PRow (w.alloc (.cells A 31)) (some ⟨w.heap.size, 0, none⟩) ps := by
  subst h
  refine .inr ⟨w.heap.size, 0, rfl, fun j hj => ?_⟩
  obtain ⟨f1, f2⟩ := flat_get ps j hj
  rw [Nat.zero_add, World.cell?_alloc_at _ _ _ _ rfl, World.cell?_alloc_at _ _ _ _ rfl]
  exact ⟨by simpa using f1, by simpa using f2⟩

theorem eqRow (x : List Int) : decide (x = x) = true := decide_eq_true rfl

theorem al_ways : ways [(5, 2), (6, 7), (7, 4)] = [-3, 1, -3] := by decide +kernel
theorem al_waits : waits [(5, 2), (6, 7), (7, 4)] 2 2 = [0, 4, 0] := by decide +kernel
theorem al_right : decide (cright [(5, 2), (6, 7), (7, 4)]) = true := by decide +kernel

set_option maxHeartbeats 1600000 in
theorem alive_any (w : World) : Calls Try.prog 13 #[] w fun e w' => e = .returned (.bool true) ∧ Below w.heap.size w w' := by
  have B := balloc (Below.refl w.heap.size w) (.cells #[.int .i64 5, .int .i64 2, .int .i64 6, .int .i64 7, .int .i64 7, .int .i64 4] 31)
  have p := litP w #[.int .i64 5, .int .i64 2, .int .i64 6, .int .i64 7, .int .i64 7, .int .i64 4] [(5, 2), (6, 7), (7, 4)] rfl
  have T1 := tok
  have T2 := tok
  have T3 := tok
  have T4 := tok
  have T5 := tok
  go_enter Try.func13, Try.ntmps13
  go_wp2_with (first
    | (clear T1; go_at_call 10; refine (ways_n _ _ 3 _ _ 3 _ p rfl (by omega) al_ways rfl).mono ?_; rintro e v1 ⟨a1, c1, rfl, _, y, b1⟩; replace B := balloc (bthen B b1) (.cells #[.int .i64 (-3), .int .i64 1, .int .i64 (-3)] 3); replace p := (p.kept b1).kept (balloc (Below.refl _ _) (.cells #[.int .i64 (-3), .int .i64 1, .int .i64 (-3)] 3)); clear b1; replace y := y.alloc (.cells #[.int .i64 (-3), .int .i64 1, .int .i64 (-3)] 3); have l := lit1 v1 #[.int .i64 (-3), .int .i64 1, .int .i64 (-3)] [-3, 1, -3] rfl)
    | (clear T2; go_at_call 9; refine (equal_n _ _ _ _ 3 3 _ _ _ y l rfl rfl (by omega) (by omega) true (eqRow _)).mono ?_; rintro e v2 ⟨rfl, b2⟩; replace B := bthen B b2; replace p := p.kept b2; clear l y b2)
    | (clear T3; go_at_call 11; refine (waits_n _ _ 3 _ 2 2 _ 3 _ p rfl (by omega) (by omega) (by omega) al_waits rfl).mono ?_; rintro e v3 ⟨a3, c3, rfl, _, y, b3⟩; replace B := balloc (bthen B b3) (.cells #[.int .i64 0, .int .i64 4, .int .i64 0] 3); replace p := (p.kept b3).kept (balloc (Below.refl _ _) (.cells #[.int .i64 0, .int .i64 4, .int .i64 0] 3)); clear b3; replace y := y.alloc (.cells #[.int .i64 0, .int .i64 4, .int .i64 0] 3); have l := lit1 v3 #[.int .i64 0, .int .i64 4, .int .i64 0] [0, 4, 0] rfl)
    | (clear T4; go_at_call 9; refine (equal_n _ _ _ _ 3 3 _ _ _ y l rfl rfl (by omega) (by omega) true (eqRow _)).mono ?_; rintro e v4 ⟨rfl, b4⟩; replace B := bthen B b4; replace p := p.kept b4; clear l y b4)
    | (clear T5; go_at_call 8; refine (right_n _ _ 3 _ _ p rfl (by omega) true al_right).mono ?_; rintro e v5 ⟨rfl, b5⟩; replace B := bthen B b5; clear p b5))
  go_ret
  exact ⟨rfl, B⟩

end Go.Proofs.Ytngmjmehkehbeaa
