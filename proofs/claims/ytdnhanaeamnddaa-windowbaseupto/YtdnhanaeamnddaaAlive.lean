/- PROVED: alive2 answers true. CONDITIONS: none. -/
import Derived.Test.YtdnhanaeamnddaaWin
namespace Go.Proofs.Ytdnhanaeamnddaa
open Go.RowKit

theorem bthen {w w1 w2 : World} (h : Below w.heap.size w w1) (k : Below w1.heap.size w1 w2) : Below w.heap.size w w2 := h.trans (k.mono h.size)
theorem balloc {w w1 : World} (h : Below w.heap.size w w1) (o : Obj) : Below w.heap.size w (w1.alloc o) := h.alloc h.size o
theorem Row.alloc {w : World} {ao : Option Addr} {zs : List Int} (h : Row w ao zs) (o : Obj) : Row (w.alloc o) ao zs := h.kept (balloc (Below.refl _ _) o)
theorem Row.drewN {w : World} {ao : Option Addr} {zs : List Int} (h : Row w ao zs) (n : Nat) : Row (w.drewN n) ao zs := h

theorem row5 (w : World) (a b c d e : Int) : Row (w.alloc (.cells #[.int .i64 a, .int .i64 b, .int .i64 c, .int .i64 d, .int .i64 e] 3)) (some ⟨w.heap.size, 0, none⟩) [a, b, c, d, e] := by
  refine .inr ⟨w.heap.size, 0, rfl, fun j hj => ?_⟩
  rw [Nat.zero_add, World.cell?_alloc_at _ _ _ _ rfl]
  simp only [List.length_cons, List.length_nil] at hj
  match j, hj with
  | 0, _ => rfl
  | 1, _ => rfl
  | 2, _ => rfl
  | 3, _ => rfl
  | 4, _ => rfl

theorem equal_same (a1 a2 : Option Addr) (c1 c2 : Nat) (xs : List Int) (w : World) (h1 : Row w a1 xs) (h2 : Row w a2 xs) (b1 : xs.length ≤ 35184372088832) :
    Calls Try.prog 8 #[.slice a1 xs.length c1, .slice a2 xs.length c2] w fun e w' => e = .returned (.bool true) ∧ ∃ q, w' = w.drewN q :=
  (equal_any a1 a2 c1 c2 xs xs w h1 h2 b1 b1).mono fun e w' ⟨he, hw⟩ => ⟨by rw [he, decide_eq_true rfl], hw⟩

/-- by looking at each -/
def bestB (low : Bool) (f : Nat → Int) (a b : Nat) (v : Int) : Bool :=
  (List.range b).any (fun j => decide (a ≤ j) && f j == v) && (List.range b).all (fun j => !decide (a ≤ j) || !bt low (f j) v)

theorem best_of {low : Bool} {f : Nat → Int} {a b : Nat} {v : Int} (h : bestB low f a b v = true) : Best low f a b v := by
  simp only [bestB, Bool.and_eq_true, List.any_eq_true, List.all_eq_true, List.mem_range, decide_eq_true_eq, beq_iff_eq, Bool.or_eq_true, Bool.not_eq_true', decide_eq_false_iff_not] at h
  obtain ⟨⟨j, h1, h2, h3⟩, h4⟩ := h
  refine ⟨⟨j, h2, h1, h3⟩, fun i ha hb => ?_⟩
  rcases h4 i hb with e | e
  · exact absurd ha e
  · exact e

/-- one answer alone fits -/
theorem told_eq {low : Bool} {f : Nat → Int} {fr : Nat → Nat} {R S : List Int} {n : Nat} (h1 : R.length = n) (h2 : S.length = n) (hR : ∀ k, k < n → Best low f (fr k) (k + 1) (R.getD k 0)) (hS : ∀ k, k < n → Best low f (fr k) (k + 1) (S.getD k 0)) : R = S := by
  refine List.ext_getElem (by omega) fun k a b => ?_
  have e := (hR k (by omega)).uniq (hS k (by omega))
  rw [List.getD_eq_getElem?_getD, List.getD_eq_getElem?_getD, List.getElem?_eq_getElem a, List.getElem?_eq_getElem b] at e
  exact e

theorem alive_min {R : List Int} (h1 : R.length = [5, 3, 4, 9, (1 : Int)].length) (h2 : ∀ k, k < [5, 3, 4, 9, (1 : Int)].length → Best true (fun j => [5, 3, 4, 9, (1 : Int)].getD j 0) (frL 2 k) (k + 1) (R.getD k 0)) : R = [5, 3, 3, 4, 1] :=
  told_eq h1 rfl h2 fun k hk => best_of ((by decide +kernel : ∀ k, k < 5 → bestB true (fun j => [5, 3, 4, 9, (1 : Int)].getD j 0) (frL 2 k) (k + 1) ([5, 3, 3, 4, (1 : Int)].getD k 0) = true) k hk)
theorem alive_max {R : List Int} (h1 : R.length = [5, 3, 4, 9, (1 : Int)].length) (h2 : ∀ k, k < [5, 3, 4, 9, (1 : Int)].length → Best false (fun j => [5, 3, 4, 9, (1 : Int)].getD j 0) (frL 3 k) (k + 1) (R.getD k 0)) : R = [5, 5, 5, 9, 9] :=
  told_eq h1 rfl h2 fun k hk => best_of ((by decide +kernel : ∀ k, k < 5 → bestB false (fun j => [5, 3, 4, 9, (1 : Int)].getD j 0) (frL 3 k) (k + 1) ([5, 5, 5, 9, (9 : Int)].getD k 0) = true) k hk)
theorem alive_base {R : List Int} (h1 : R.length = [5, 3, 4, 9, (1 : Int)].length) (h2 : ∀ k, k < [5, 3, 4, 9, (1 : Int)].length → Best true (fun j => [5, 3, 4, 9, (1 : Int)].getD j 0) (frB 2 1 k) (k + 1) (R.getD k 0)) : R = [5, 3, 4, 4, 1] :=
  told_eq h1 rfl h2 fun k hk => best_of ((by decide +kernel : ∀ k, k < 5 → bestB true (fun j => [5, 3, 4, 9, (1 : Int)].getD j 0) (frB 2 1 k) (k + 1) ([5, 3, 4, 4, (1 : Int)].getD k 0) = true) k hk)

/-- the same, how long each is said apart -/
theorem equal_at (a1 a2 : Option Addr) (c1 c2 n : Nat) (xs : List Int) (w : World) (h1 : Row w a1 xs) (h2 : Row w a2 xs) (hn : xs.length = n) (b1 : n ≤ 35184372088832) :
    Calls Try.prog 8 #[.slice a1 n c1, .slice a2 n c2] w fun e w' => e = .returned (.bool true) ∧ ∃ q, w' = w.drewN q := by
  subst hn; exact equal_same a1 a2 c1 c2 xs w h1 h2 b1

/-- what a call answers at the five -/
def Five (w : World) (S : List Int) (e : Ending) (w' : World) : Prop :=
  ∃ O, e = .returned (.slice (some ⟨O, 0, none⟩) 5 5) ∧ Row w' (some ⟨O, 0, none⟩) S ∧ Below w.heap.size w w'
theorem min5 (ao : Option Addr) (w : World) (h : Row w ao [5, 3, 4, 9, 1]) : Calls Try.prog 9 #[.slice ao 5 5, .int .i64 2] w (Five w [5, 3, 3, 4, 1]) :=
  (min_any ao 5 [5, 3, 4, 9, 1] 2 w h (by simp) (by omega) (by omega)).mono fun e w' ⟨R, O, n, he, hR, hB, b⟩ => by
    obtain rfl := alive_min n hB
    exact ⟨O, he, hR, b⟩
theorem max5 (ao : Option Addr) (w : World) (h : Row w ao [5, 3, 4, 9, 1]) : Calls Try.prog 11 #[.slice ao 5 5, .int .i64 3] w (Five w [5, 5, 5, 9, 9]) :=
  (max_any ao 5 [5, 3, 4, 9, 1] 3 w h (by simp) (by omega) (by omega)).mono fun e w' ⟨R, O, n, he, hR, hB, b⟩ => by
    obtain rfl := alive_max n hB
    exact ⟨O, he, hR, b⟩
theorem base5 (ao : Option Addr) (w : World) (h : Row w ao [5, 3, 4, 9, 1]) : Calls Try.prog 12 #[.slice ao 5 5, .int .i64 2, .int .i64 1] w (Five w [5, 3, 4, 4, 1]) :=
  (base_any ao 5 [5, 3, 4, 9, 1] 2 1 w h (by simp) (by omega) (by omega) (by omega) (by omega)).mono fun e w' ⟨R, O, n, he, hR, hB, b⟩ => by
    obtain rfl := alive_base n hB
    exact ⟨O, he, hR, b⟩

set_option maxHeartbeats 1600000 in
theorem alive_any (w : World) : Calls Try.prog 14 #[] w fun e w' => e = .returned (.bool true) ∧ Below w.heap.size w w' := by
  have hl0 := row5 w 5 3 4 9 1
  have B0 : Below w.heap.size w (w.alloc (.cells #[.int .i64 5, .int .i64 3, .int .i64 4, .int .i64 9, .int .i64 1] 3)) := balloc (Below.refl _ _) _
  go_enter Try.func14, Try.ntmps14
  go_wp2_with (first
    | (go_at_call 9; refine (min5 _ _ hl0).mono ?_; rintro e w1 ⟨O1, rfl, hR1, b1⟩; have hl1 := hl0.kept b1; have B1 := bthen B0 b1; clear hl0 B0 b1)
    | (go_at_call 8; refine (equal_at _ _ 5 5 5 [5, 3, 3, 4, 1] _ (hR1.alloc _) (row5 w1 5 3 3 4 1) rfl (by omega)).mono ?_; rintro e w2 ⟨rfl, q2, rfl⟩; clear hR1)
    | (go_at_call 11; refine (max5 _ _ ((hl1.alloc _).drewN _)).mono ?_; rintro e w3 ⟨O3, rfl, hR3, b3⟩; have hl3 := ((hl1.alloc _).drewN _).kept b3; have B3 := bthen (below_drewN (balloc B1 _) _) b3; clear hl1 B1 b3)
    | (go_at_call 8; refine (equal_at _ _ 5 5 5 [5, 5, 5, 9, 9] _ (hR3.alloc _) (row5 w3 5 5 5 9 9) rfl (by omega)).mono ?_; rintro e w4 ⟨rfl, q4, rfl⟩; clear hR3)
    | (go_at_call 12; refine (base5 _ _ ((hl3.alloc _).drewN _)).mono ?_; rintro e w5 ⟨O5, rfl, hR5, b5⟩; have B5 := bthen (below_drewN (balloc B3 _) _) b5; clear hl3 B3 b5)
    | (go_at_call 8; refine (equal_at _ _ 5 5 5 [5, 3, 4, 4, 1] _ (hR5.alloc _) (row5 w5 5 3 4 4 1) rfl (by omega)).mono ?_; rintro e w6 ⟨rfl, q6, rfl⟩; clear hR5)
    | (go_at_call 9; refine (min_none _ _ _ _ _ (by omega)).mono ?_; rintro e w' ⟨rfl, rfl⟩))
  go_ret
  exact ⟨rfl, below_drewN (balloc B5 _) _⟩

end Go.Proofs.Ytdnhanaeamnddaa
