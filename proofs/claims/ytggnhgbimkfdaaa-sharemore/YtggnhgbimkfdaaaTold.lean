/- PROVED: the contracts with how long each row is said apart; slices that are written out; what the laws' own sum and slices.Clone answer; alive14 answers true. CONDITIONS: none beyond each theorem's own. -/
import Derived.Test.YtggnhgbimkfdaaaSame
import Derived.Test.YtggnhgbimkfdaaaShare
import Derived.Test.YtggnhgbimkfdaaaEven
import Derived.Test.YtggnhgbimkfdaaaFar
namespace Go.Proofs.Ytggnhgbimkfdaaa
open Go.RowKit

/-- one step of a walk that is not taken yet -/
theorem tok : Hid True := trivial
/-- what a call answers: n numbers -/
def AnsN (w : World) (n : Nat) (R : List Int) (e : Ending) (w' : World) : Prop :=
  ∃ ao cap, e = .returned (.slice ao n cap) ∧ n ≤ cap ∧ Row w' ao R ∧ Below w.heap.size w w'
theorem Ans.told {w : World} {R S : List Int} {n : Nat} {e : Ending} {w' : World} (h : Ans w R e w') (hl : R.length = n) (hS : R = S) : AnsN w n S e w' := by
  subst hS; subst hl; exact h
theorem equal_n (a1 a2 : Option Addr) (c1 c2 n m : Nat) (f g : List Int) (w : World) (k1 : Row w a1 f) (k2 : Row w a2 g) (e1 : f.length = n) (e2 : g.length = m) (h : n ≤ 35184372088832) (b : Bool) (hb : decide (f = g) = b) :
    Calls Try.prog 11 #[.slice a1 n c1, .slice a2 m c2] w fun e w' => e = .returned (.bool b) ∧ Below w.heap.size w w' := by
  subst e1; subst e2; subst hb
  exact (equal_any a1 a2 c1 c2 f g w k1 k2 h).mono fun _ _ ⟨he, q, hw⟩ => ⟨he, hw ▸ below_drewN (Below.refl _ _) q⟩
theorem right_n (a : Option Addr) (c n : Nat) (f : List Int) (w : World) (k : Row w a f) (e1 : f.length = n) (h : n ≤ 17592186044415) (b : Bool) (hb : decide (sright f) = b) :
    Calls Try.prog 9 #[.slice a n c] w fun e w' => e = .returned (.bool b) ∧ w' = w := by
  subst e1; subst hb
  exact right_any a c f w k (by omega)
theorem share_n (all : Int) (a : Option Addr) (c n : Nat) (f S : List Int) (R : Nat) (w : World) (k : Row w a f) (e1 : f.length = n) (hr : sright f) (hR : Rounds f (fit all) R) (hS : outs (got f (fit all) R) n = S) :
    Calls Try.prog 12 #[.int .i64 all, .slice a n c] w (AnsN w n S) := by
  subst e1
  exact (share_yes all a c f R w k hr hR).mono fun e w' q => q.told (outs_len _ _) hS
theorem share_non (all : Int) (a : Option Addr) (c n : Nat) (f : List Int) (w : World) (k : Row w a f) (e1 : f.length = n) (hr : ¬ sright f) (h : n ≤ 17592186044415) :
    Calls Try.prog 12 #[.int .i64 all, .slice a n c] w (AnsN w 0 []) := by
  subst e1
  exact (share_no all a c f w k hr (by omega)).mono fun e w' q => q.told rfl rfl
theorem even_n (a : Option Addr) (c n : Nat) (f : List Int) (x y z : Int) (w : World) (k : Row w a f) (e1 : f.length = n) (h : n ≤ 17592186044415) (hv : even f = (x, y, z)) :
    Calls Try.prog 7 #[.slice a n c] w fun e w' => e = .returned (.tuple #[.agg #[.int .i64 x, .int .i64 y], .int .i64 z]) ∧ Below w.heap.size w w' := by
  subst e1
  have := even_any a c f w k (by omega)
  rw [hv] at this
  exact this

/-- slices that are written out -/
theorem lit1 (w : World) (A : Array Value) (X : List Int) (h : A = (X.map (Value.int .i64)).toArray) : Row (w.alloc (.cells A 3)) (some ⟨w.heap.size, 0, none⟩) X := by
  subst h
  refine .inr ⟨w.heap.size, 0, rfl, fun j hj => ?_⟩
  rw [Nat.zero_add, World.cell?_alloc_at _ _ _ _ rfl]
  simp [hj]
theorem litAt (w : World) (k : Nat) (A : Array Value) (X : List Int) (hk : k = w.heap.size) (h : A = (X.map (Value.int .i64)).toArray) : Row (w.alloc (.cells A 3)) (some ⟨k, 0, none⟩) X := by
  subst hk; exact lit1 w A X h
theorem eqRow (x : List Int) : decide (x = x) = true := decide_eq_true rfl

theorem al_even : even [1, 1, 4] = (2, 3, 0) := by decide +kernel
theorem al_r1 : sright [9, 1, 9, 4] := by decide +kernel
theorem al_r2 : sright [1, 2] := by decide +kernel
theorem al_g3 : gv (wt [9, 1, 9, 4]) 3 4 = 10 := by decide +kernel
theorem al_g4 : gv (wt [9, 1, 9, 4]) 4 4 = 13 := by decide +kernel
theorem al_g : gv (wt [1, 2]) 1048576 2 = 3 := by decide +kernel
theorem al_fit1 : fit 10 = 10 := by decide +kernel
theorem al_fit2 : fit 99 = 99 := by decide +kernel
theorem al_rounds1 : Rounds [9, 1, 9, 4] (fit 10) 3 := by
  rw [al_fit1]
  refine ⟨by omega, ?_, fun p hp => ?_, fun p h1 h2 => ?_⟩
  · show gv _ 3 4 ≤ 10; rw [al_g3]; omega
  · have := gv_mono (wt [9, 1, 9, 4]) (r := (p : Int) + 1) (s := 3) (by omega) 4
    rw [al_g3] at this; exact this
  · have := gv_mono (wt [9, 1, 9, 4]) (r := 4) (s := (p : Int) + 1) (by omega) 4
    rw [al_g4] at this
    show 10 < gv _ _ 4
    omega
theorem al_rounds2 : Rounds [1, 2] (fit 99) 1048576 := by
  rw [al_fit2]
  refine ⟨by omega, ?_, fun p hp => ?_, fun p h1 h2 => by omega⟩
  · show gv _ 1048576 2 ≤ 99; rw [al_g]; omega
  · have := gv_mono (wt [1, 2]) (r := (p : Int) + 1) (s := 1048576) (by omega) 2
    rw [al_g] at this
    show gv _ _ 2 ≤ 99
    omega
theorem al_s1 : outs (got [9, 1, 9, 4] (fit 10) (3 : Nat)) 4 = [3, 1, 3, 3] := by decide +kernel
theorem al_s2 : outs (got [1, 2] (fit 99) (1048576 : Nat)) 2 = [1, 2] := by decide +kernel
theorem al_same : sameF 2 3 2 3 = true := same_self 2 3


attribute [local go_sem ↓] eqF
set_option maxHeartbeats 1600000 in
theorem alive_any (w : World) : Calls Try.prog 14 #[] w fun e w' => e = .returned (.bool true) ∧ Below w.heap.size w w' := by
  have B := balloc (Below.refl w.heap.size w) (.cells #[.int .i64 1, .int .i64 1, .int .i64 4] 3)
  have l := lit1 w #[.int .i64 1, .int .i64 1, .int .i64 4] [1, 1, 4] rfl
  have T1 := tok
  have T2 := tok
  have T3 := tok
  have T4 := tok
  have T5 := tok
  have d := al_same
  go_enter Try.func14, Try.ntmps14
  go_wp2_with (first
    | (clear T1; go_at_call 7; refine (even_n _ _ 3 _ 2 3 0 _ l rfl (by omega) al_even).mono ?_; rintro e v1 ⟨rfl, b1⟩; replace B := balloc (balloc (bthen B b1) (.cells #[.int .i64 2, .int .i64 3] 24)) (.cells #[.int .i64 9, .int .i64 1, .int .i64 9, .int .i64 4] 3); clear l b1; have l := litAt (v1.alloc (.cells #[.int .i64 2, .int .i64 3] 24)) (v1.heap.size + 1) #[.int .i64 9, .int .i64 1, .int .i64 9, .int .i64 4] [9, 1, 9, 4] (by simp) rfl)
    | (clear T2; go_at_call 12; refine (share_n 10 _ _ 4 _ _ 3 _ l rfl al_r1 al_rounds1 al_s1).mono ?_; rintro e v2 ⟨a2, c2, rfl, _, p, b2⟩; replace B := balloc (bthen B b2) (.cells #[.int .i64 3, .int .i64 1, .int .i64 3, .int .i64 3] 3); clear l b2; replace p := p.alloc (.cells #[.int .i64 3, .int .i64 1, .int .i64 3, .int .i64 3] 3); have l := lit1 v2 #[.int .i64 3, .int .i64 1, .int .i64 3, .int .i64 3] [3, 1, 3, 3] rfl)
    | (clear T3; go_at_call 11; refine (equal_n _ _ _ _ 4 4 _ _ _ p l rfl rfl (by omega) true (eqRow _)).mono ?_; rintro e v3 ⟨rfl, b3⟩; replace B := balloc (bthen B b3) (.cells #[.int .i64 1, .int .i64 2] 3); clear p l b3; have l := lit1 v3 #[.int .i64 1, .int .i64 2] [1, 2] rfl)
    | (clear T4; go_at_call 12; refine (share_n 99 _ _ 2 _ _ 1048576 _ l rfl al_r2 al_rounds2 al_s2).mono ?_; rintro e v4 ⟨a4, c4, rfl, _, p, b4⟩; replace B := balloc (bthen B b4) (.cells #[.int .i64 1, .int .i64 2] 3); clear l b4; replace p := p.alloc (.cells #[.int .i64 1, .int .i64 2] 3); have l := lit1 v4 #[.int .i64 1, .int .i64 2] [1, 2] rfl)
    | (clear T5; go_at_call 11; refine (equal_n _ _ _ _ 2 2 _ _ _ p l rfl rfl (by omega) true (eqRow _)).mono ?_; rintro e v5 ⟨rfl, b5⟩; replace B := bthen B b5; clear p l b5))
  go_ret
  exact ⟨rfl, B⟩

end Go.Proofs.Ytggnhgbimkfdaaa
