/- PROVED: what '==' tells of two controls. a control on plain integers: its window, its part and its base, the next one; who is later sends no more; how long the way is is no matter; who waits longer gives way. what ledbat.within, bounded, growth, New and rightPart answer. what ledbat.Right answers. what duel.Right answers, at every argument. CONDITIONS: none beyond each theorem's own. -/
import Derived.Test.YtjageagnclmnjabGreatDoorB00Pw
import Derived.Laws.StructEq
import Derived.Test.YtjageagnclmnjabGreatDoorB17LCtl
import Derived.Deep.RegionWith
import Derived.Deep.CutRange
import Derived.Deep.RegionHeld3
import Derived.Test.YtjageagnclmnjabGreatDoorB03DOwn
import Derived.Test.YtjageagnclmnjabGreatDoorB16CSame
import Derived.Shelf.Abstract
namespace Go.Proofs.YtjageagnclmnjabGreatDoor.L
open Go.RowKit

theorem partC (xs : Array Value) (i : Nat) (v : Int) (h : xs[i]? = some (.int .i64 v)) (w : World) : (part 3 xs i).run Tryz.prog w = .ok (.int .i64 v) w := by
  simp [part, go_sem, h]

theorem eqField (xs ys : Array Value) (f : Field) (fs : List Field) (i : Nat) (x y : Int) (w : World) (hn : (f.name == "_") = false) (ht : f.type = 3) (ho : f.offset = i) (hx : xs[i]? = some (.int .i64 x)) (hy : ys[i]? = some (.int .i64 y)) (B : Bool)
    (hr : (Op.eqFields 9999 xs ys fs).run Tryz.prog w = .ok B w) :
    (Op.eqFields 9999 xs ys (f :: fs)).run Tryz.prog w = .ok (decide (x = y) && B) w := by
  have hn' : f.name ≠ "_" := by simpa using hn
  rw [Op.eqFields, if_pos hn', ht, ho]
  simp only [Sem.run_bind, partC xs i x hx, partC ys i y hy, Result.andThen_ok, run_equalIn_int w 9998 3 .i64 .i64 x y Tryz.underlying3]
  by_cases h : x = y
  · simp [h, hr]
  · simp [h]

theorem six {xs : List Field} (h : xs.map (fun f => (f.name == "_", f.type, f.offset)) = [(false, 3, 0), (false, 3, 1), (false, 3, 2), (false, 3, 3), (false, 3, 4), (false, 3, 5)]) :
    ∃ f0 f1 f2 f3 f4 f5, xs = [f0, f1, f2, f3, f4, f5] := by
  have hl : xs.length = 6 := by simpa using congrArg List.length h
  match xs, hl with
  | [f0, f1, f2, f3, f4, f5], _ => exact ⟨f0, f1, f2, f3, f4, f5, rfl⟩
theorem Tryz.fields23 : (Tryz.prog.fieldsOf 45).toList.map (fun f => (f.name == "_", f.type, f.offset)) = [(false, 3, 0), (false, 3, 1), (false, 3, 2), (false, 3, 3), (false, 3, 4), (false, 3, 5)] := by kernel_rfl

theorem eqC (k n b a s q k' n' b' a' s' q' : Int) (w : World) :
    (binOp .eql 45 (.agg #[.int .i64 k, .int .i64 n, .int .i64 b, .int .i64 a, .int .i64 s, .int .i64 q]) (.agg #[.int .i64 k', .int .i64 n', .int .i64 b', .int .i64 a', .int .i64 s', .int .i64 q'])).run Tryz.prog w
      = .ok (.bool (decide (k = k') && (decide (n = n') && (decide (b = b') && (decide (a = a') && (decide (s = s') && (decide (q = q') && true))))))) w := by
  rw [run_eql_struct, run_equalIn_agg (d := 9999) _ _ _ _ (by kernel_rfl) (by kernel_rfl)]
  have hf := Tryz.fields23
  obtain ⟨f0, f1, f2, f3, f4, f5, e⟩ := six hf
  rw [e] at hf ⊢
  simp only [List.map_cons, List.map_nil, List.cons.injEq, Prod.mk.injEq, and_true] at hf
  obtain ⟨⟨a0, b0, c0⟩, ⟨a1, b1, c1⟩, ⟨a2, b2, c2⟩, ⟨a3, b3, c3⟩, ⟨a4, b4, c4⟩, ⟨a5, b5, c5⟩⟩ := hf
  rw [eqField _ _ f0 _ 0 k k' w a0 b0 c0 rfl rfl _ (eqField _ _ f1 _ 1 n n' w a1 b1 c1 rfl rfl _ (eqField _ _ f2 _ 2 b b' w a2 b2 c2 rfl rfl _ (eqField _ _ f3 _ 3 a a' w a3 b3 c3 rfl rfl _ (eqField _ _ f4 _ 4 s s' w a4 b4 c4 rfl rfl _ (eqField _ _ f5 _ 5 q q' w a5 b5 c5 rfl rfl true (by simp [Op.eqFields]))))))]
  rfl

/-- whether they are the same -/
def sameC (k n b a s q k' n' b' a' s' q' : Int) : Bool := decide (k = k') && (decide (n = n') && (decide (b = b') && (decide (a = a') && (decide (s = s') && (decide (q = q') && true)))))
theorem eqS (k n b a s q k' n' b' a' s' q' : Int) (w : World) :
    (binOp .eql 45 (.agg #[.int .i64 k, .int .i64 n, .int .i64 b, .int .i64 a, .int .i64 s, .int .i64 q]) (.agg #[.int .i64 k', .int .i64 n', .int .i64 b', .int .i64 a', .int .i64 s', .int .i64 q'])).run Tryz.prog w = .ok (.bool (sameC k n b a s q k' n' b' a' s' q')) w := eqC k n b a s q k' n' b' a' s' q' w
theorem same_is {k n b a s q k' n' b' a' s' q' : Int} : sameC k n b a s q k' n' b' a' s' q' = true ↔ k = k' ∧ n = n' ∧ b = b' ∧ a = a' ∧ s = s' ∧ q = q' := by
  unfold sameC; simp
end Go.Proofs.YtjageagnclmnjabGreatDoor.L

namespace Go.Proofs.YtjageagnclmnjabGreatDoor.L

/-- a window that may be -/
def clip (n : Int) : Int := min (max n 1) 12
theorem clip_in (n : Int) : 1 ≤ clip n ∧ clip n ≤ 12 := by unfold clip; omega

/-- may it be? -/
def mright (k n b a s q : Int) : Prop := k = 3 ∧ (1 ≤ n ∧ n ≤ 12) ∧ (-1 ≤ b ∧ b ≤ 1099511627776) ∧ a = 0 ∧ s = 0 ∧ (0 ≤ q ∧ q ≤ 3) ∧ (n < 12 ∨ q = 0)
instance (k n b a s q : Int) : Decidable (mright k n b a s q) := by unfold mright; infer_instance
/-- may such a delay be? -/
def inr (x : Int) : Prop := 0 ≤ x ∧ x ≤ 1099511627776
instance (x : Int) : Decidable (inr x) := by unfold inr; infer_instance

/-- the base behind a delay -/
def nb (b d : Int) : Int := if b < 0 ∨ d < b then d else b
/-- by how many fourths it becomes more, behind a wait -/
def gr (x : Int) : Int := max (2 - x) (-2)
/-- how many fourths there may be -/
def bd (c : Int) : Int := min (max c 4) 48
/-- how many fourths it has then -/
def ct (n q x : Int) : Int := bd (4 * n + q + gr x)

theorem nb_in {b d : Int} (hd : inr d) : 0 ≤ nb b d ∧ nb b d ≤ d ∧ nb b d ≤ 1099511627776 ∧ 0 ≤ d - nb b d ∧ d - nb b d ≤ 1099511627776 := by
  unfold inr at hd; unfold nb; split <;> omega
theorem gr_in {x : Int} (hx : 0 ≤ x) : -2 ≤ gr x ∧ gr x ≤ 2 := by unfold gr; omega
theorem bd_in (c : Int) : 4 ≤ bd c ∧ bd c ≤ 48 := by unfold bd; omega
theorem ct_in (n q x : Int) : 4 ≤ ct n q x ∧ ct n q x ≤ 48 := bd_in _
end Go.Proofs.YtjageagnclmnjabGreatDoor.L

namespace Go.Proofs.YtjageagnclmnjabGreatDoor.L
open Go.RowKit

theorem within_any (n : Int) (w : World) :
    Calls Tryz.prog 39 #[.int .i64 n] w fun e w' => e = .returned (.int .i64 (clip n)) ∧ w' = w := by
  go_enter Tryz.func39, Tryz.ntmps39
  go_wp2
  go_ret
  exact ⟨rfl, rfl⟩

theorem bounded_any (n : Int) (w : World) :
    Calls Tryz.prog 41 #[.int .i64 n] w fun e w' => e = .returned (.int .i64 (bd n)) ∧ w' = w := by
  go_enter Tryz.func41, Tryz.ntmps41
  go_wp2
  go_ret
  exact ⟨rfl, rfl⟩

theorem growth_any (x : Int) (w : World) (h0 : 0 ≤ x) (h1 : x ≤ 1099511627776) :
    Calls Tryz.prog 42 #[.int .i64 x] w fun e w' => e = .returned (.int .i64 (gr x)) ∧ w' = w := by
  go_enter Tryz.func42, Tryz.ntmps42
  go_wp2
  go_ret
  exact ⟨rfl, rfl⟩

theorem new_any (n : Int) (w : World) :
    Calls Tryz.prog 25 #[.int .i64 n] w fun e w' => e = .returned (.agg #[.int .i64 3, .int .i64 (clip n), .int .i64 (-1), .int .i64 0, .int .i64 0, .int .i64 0]) ∧ Below w.heap.size w w' := by
  have c := fun v => within_any n v
  generalize clip n = m at c ⊢
  go_enter Tryz.func25, Tryz.ntmps25
  go_wp2_with (go_at_call 39; refine (c _).mono ?_; rintro e w'' ⟨rfl, rfl⟩)
  exact bodyPost_ret (v := .agg #[.int .i64 3, .int .i64 m, .int .i64 (-1), .int .i64 0, .int .i64 0, .int .i64 0]) (by simp [results, Tryz.results25, go_sem]) rfl ⟨rfl, (Below.refl _ _).alloc (Nat.le_refl _) _⟩

/-- may such a part be? -/
def rpart (n q : Int) : Prop := n = 12 ∧ q = 0 ∨ n ≠ 12 ∧ 0 ≤ q ∧ q < 4
instance (n q : Int) : Decidable (rpart n q) := by unfold rpart; infer_instance

set_option maxHeartbeats 1600000 in
theorem part_any (k n b a s q : Int) (w : World) :
    Calls Tryz.prog 54 #[.agg #[.int .i64 k, .int .i64 n, .int .i64 b, .int .i64 a, .int .i64 s, .int .i64 q]] w fun e w' => e = .returned (.bool (decide (rpart n q))) ∧ Below w.heap.size w w' := by
  by_cases h : n = 12
  · rw [show decide (rpart n q) = (q == 0) by rw [Bool.eq_iff_iff, decide_eq_true_iff, beq_iff_eq]; unfold rpart; omega]
    subst h
    go_enter Tryz.func54, Tryz.ntmps54
    go_wp2
    go_ret
    exact ⟨rfl, balloc (Below.refl _ _) _⟩
  · by_cases h2 : 0 ≤ q
    · rw [show decide (rpart n q) = decide (q < 4) by rw [Bool.eq_iff_iff, decide_eq_true_iff, decide_eq_true_iff]; unfold rpart; omega]
      have h2 : decide (0 ≤ q) = true := decide_eq_true h2
      go_enter Tryz.func54, Tryz.ntmps54
      go_wp2
      go_ret
      exact ⟨rfl, balloc (Below.refl _ _) _⟩
    · rw [show decide (rpart n q) = false by rw [decide_eq_false_iff_not]; unfold rpart; omega]
      have h2 : decide (0 ≤ q) = false := decide_eq_false h2
      go_enter Tryz.func54, Tryz.ntmps54
      go_wp2
      go_ret
      exact ⟨rfl, balloc (Below.refl _ _) _⟩

end Go.Proofs.YtjageagnclmnjabGreatDoor.L

namespace Go.Proofs.YtjageagnclmnjabGreatDoor.L
open Go.RowKit

set_option maxHeartbeats 4000000 in
theorem right_no (k n b a s q m : Int) (w : World) (c : ∀ v, Calls Tryz.prog 39 #[.int .i64 n] v fun e w' => e = .returned (.int .i64 m) ∧ w' = v) (t0 t1 t2 t3 t4 t5 : Bool) (h0 : (k == 3) = t0) (h1 : (n == m) = t1) (h2 : decide (-1 ≤ b) = t2) (h3 : decide (b ≤ 1099511627776) = t3) (h4 : (a == 0) = t4) (h5 : (s == 0) = t5) (hf : (t0 && (t1 && (t2 && (t3 && (t4 && t5))))) = false) :
    Calls Tryz.prog 40 #[.agg #[.int .i64 k, .int .i64 n, .int .i64 b, .int .i64 a, .int .i64 s, .int .i64 q]] w fun e w' => e = .returned (.bool false) ∧ Below w.heap.size w w' := by
  obtain ⟨c0, c1, c2, c3, c4, c5, f0, f1, f2, f3, f4, f5⟩ := Ctl.new w _ rfl k n b a s q
  have bb : Below w.heap.size w (w.alloc (.cells #[.int .i64 k, .int .i64 n, .int .i64 b, .int .i64 a, .int .i64 s, .int .i64 q] 45)) := balloc (Below.refl _ _) _
  cases t0
  case' true => cases t1
  case' true.true => cases t2
  case' true.true.true => cases t3
  case' true.true.true.true => cases t4
  case' true.true.true.true.true => cases t5
  case' true.true.true.true.true.true => exact absurd hf (by decide)
  all_goals
    clear hf
    go_enter Tryz.func40, Tryz.ntmps40
    go_wp2
    go_quiet ((go_at_call 39; refine (c _).mono ?_; rintro e w'' ⟨rfl, rfl⟩; exact ⟨rfl, _, rfl⟩))
    go_wp2
    go_ret
    exact ⟨rfl, below_drewN bb _⟩

set_option maxHeartbeats 4000000 in
theorem right_part (k n b a s q m : Int) (t : Bool) (w : World) (c : ∀ v, Calls Tryz.prog 39 #[.int .i64 n] v fun e w' => e = .returned (.int .i64 m) ∧ w' = v) (p : ∀ v, Calls Tryz.prog 54 #[.agg #[.int .i64 k, .int .i64 n, .int .i64 b, .int .i64 a, .int .i64 s, .int .i64 q]] v fun e w' => e = .returned (.bool t) ∧ Below v.heap.size v w') (h0 : (k == 3) = true) (h1 : (n == m) = true) (h2 : decide (-1 ≤ b) = true) (h3 : decide (b ≤ 1099511627776) = true) (h4 : (a == 0) = true) (h5 : (s == 0) = true) :
    Calls Tryz.prog 40 #[.agg #[.int .i64 k, .int .i64 n, .int .i64 b, .int .i64 a, .int .i64 s, .int .i64 q]] w fun e w' => e = .returned (.bool t) ∧ Below w.heap.size w w' := by
  have X := Ctl.new w _ rfl k n b a s q
  have bb : Below w.heap.size w (w.alloc (.cells #[.int .i64 k, .int .i64 n, .int .i64 b, .int .i64 a, .int .i64 s, .int .i64 q] 45)) := balloc (Below.refl _ _) _
  go_enter Tryz.func40, Tryz.ntmps40
  go_wp2
  generalize w.alloc (.cells #[.int .i64 k, .int .i64 n, .int .i64 b, .int .i64 a, .int .i64 s, .int .i64 q] 45) = v0 at X bb ⊢
  go_region_held3 (fun w' => w'.cell? ⟨w.heap.size, 0, none⟩ = some (.int .i64 k) ∧ w'.cell? ⟨w.heap.size, 1, none⟩ = some (.int .i64 n) ∧ w'.cell? ⟨w.heap.size, 2, none⟩ = some (.int .i64 b) ∧ w'.cell? ⟨w.heap.size, 3, none⟩ = some (.int .i64 a) ∧ w'.cell? ⟨w.heap.size, 4, none⟩ = some (.int .i64 s) ∧ w'.cell? ⟨w.heap.size, 5, none⟩ = some (.int .i64 q)) (exact ⟨X.c0, X.c1, X.c2, X.c3, X.c4, X.c5⟩) (first
    | (go_at_call 39; refine (c _).mono ?_; rintro e v4 ⟨rfl, rfl⟩; clear c; replace bb := Below.drew bb; replace X := X.drew)
    | (go_at_call 54; refine (p _).mono ?_; rintro e v5 ⟨rfl, b5⟩; clear p; replace bb := bthen bb b5; replace X := X.kept b5; clear b5))
  all_goals go_wp2
  all_goals go_ret
  all_goals exact ⟨rfl, bb⟩

theorem right_any (k n b a s q : Int) (w : World) :
    Calls Tryz.prog 40 #[.agg #[.int .i64 k, .int .i64 n, .int .i64 b, .int .i64 a, .int .i64 s, .int .i64 q]] w fun e w' => e = .returned (.bool (decide (mright k n b a s q))) ∧ Below w.heap.size w w' := by
  by_cases h : k = 3 ∧ n = clip n ∧ -1 ≤ b ∧ b ≤ 1099511627776 ∧ a = 0 ∧ s = 0
  · have := right_part k n b a s q (clip n) _ w (within_any n) (part_any k n b a s q) (by simp [h.1]) (by simp [← h.2.1]) (decide_eq_true h.2.2.1) (decide_eq_true h.2.2.2.1) (by simp [h.2.2.2.2.1]) (by simp [h.2.2.2.2.2])
    rw [show decide (mright k n b a s q) = decide (rpart n q) by
      rw [Bool.eq_iff_iff, decide_eq_true_iff, decide_eq_true_iff]
      unfold mright rpart; unfold clip at h; omega]
    exact this
  · rw [show decide (mright k n b a s q) = false by
      rw [decide_eq_false_iff_not]
      unfold mright; unfold clip at h; omega]
    refine right_no k n b a s q (clip n) w (within_any n) _ _ _ _ _ _ rfl rfl rfl rfl rfl rfl ?_
    rw [← Bool.not_eq_true]
    simp only [Bool.and_eq_true, decide_eq_true_iff, beq_iff_eq]
    exact h

end Go.Proofs.YtjageagnclmnjabGreatDoor.L

namespace Go.Proofs.YtjageagnclmnjabGreatDoor.D
set_option maxRecDepth 100000
open Go.RowKit K
attribute [local go_sem] idx0 idx1

set_option maxHeartbeats 3200000 in
theorem right_wrong (p0 p1 r m j k0 n0 b0 a0 c0 q0 k1 n1 b1 a1 c1 q1 w0 w1 E : Int) (he : (E != 0) = true) (w : World)
    (p : ∀ v, Calls Tryz.prog 70 #[.agg #[.int .i64 p0, .int .i64 p1, .int .i64 r, .int .i64 m, .int .i64 j]] v fun e w' => e = .returned (.int .i64 E) ∧ Below v.heap.size v w') :
    Calls Tryz.prog 138 #[.agg #[.int .i64 p0, .int .i64 p1, .int .i64 r, .int .i64 m, .int .i64 j], .agg #[.int .i64 k0, .int .i64 n0, .int .i64 b0, .int .i64 a0, .int .i64 c0, .int .i64 q0, .int .i64 k1, .int .i64 n1, .int .i64 b1, .int .i64 a1, .int .i64 c1, .int .i64 q1, .int .i64 w0, .int .i64 w1]] w fun x w' => x = .returned (.bool false) ∧ Below w.heap.size w w' := by
  have X := (Rul.new w _ rfl p0 p1 r m j).alloc (.cells #[.int .i64 k0, .int .i64 n0, .int .i64 b0, .int .i64 a0, .int .i64 c0, .int .i64 q0, .int .i64 k1, .int .i64 n1, .int .i64 b1, .int .i64 a1, .int .i64 c1, .int .i64 q1, .int .i64 w0, .int .i64 w1] 147)
  have B : Below w.heap.size w ((w.alloc (.cells #[.int .i64 p0, .int .i64 p1, .int .i64 r, .int .i64 m, .int .i64 j] 69)).alloc (.cells #[.int .i64 k0, .int .i64 n0, .int .i64 b0, .int .i64 a0, .int .i64 c0, .int .i64 q0, .int .i64 k1, .int .i64 n1, .int .i64 b1, .int .i64 a1, .int .i64 c1, .int .i64 q1, .int .i64 w0, .int .i64 w1] 147)) := balloc (balloc (Below.refl _ _) _) _
  obtain ⟨x0, x1, x2, x3, x4, _, _, _, _, _⟩ := id X
  go_enter Tryz.func138, Tryz.ntmps138
  go_wp2_with (go_at_call 70; refine (p _).mono ?_; clear p x0 x1 x2 x3 x4; rintro x v ⟨rfl, b⟩; replace B := bthen B b)
  go_ret
  exact ⟨rfl, B⟩

set_option maxHeartbeats 6400000 in
theorem right_of (p0 p1 r m j k0 n0 b0 a0 c0 q0 k1 n1 b1 a1 c1 q1 w0 w1 : Int) (t0 t1 t2 t3 : Bool) (P0 Q0 S0 P1 Q1 S1 : Nat) (w : World)
    (p : ∀ v, Calls Tryz.prog 70 #[.agg #[.int .i64 p0, .int .i64 p1, .int .i64 r, .int .i64 m, .int .i64 j]] v fun e w' => e = .returned (.int .i64 0) ∧ Below v.heap.size v w')
    (s0 : ∀ v, Calls Tryz.prog 85 #[.int .i64 p0] v fun e w' => e = .returned (.tuple #[.agg #[.func (.func P0) #[] #[], .func (.func Q0) #[] #[], .func (.func S0) #[] #[]], .bool true]) ∧ Below v.heap.size v w')
    (s1 : ∀ v, Calls Tryz.prog 85 #[.int .i64 p1] v fun e w' => e = .returned (.tuple #[.agg #[.func (.func P1) #[] #[], .func (.func Q1) #[] #[], .func (.func S1) #[] #[]], .bool true]) ∧ Below v.heap.size v w')
    (e0 : ∀ args w, (callFunc Q0 args).run Tryz.prog w = .ok (.enter Q0 args) w) (e1 : ∀ args w, (callFunc Q1 args).run Tryz.prog w = .ok (.enter Q1 args) w)
    (g0 : ∀ v, Calls Tryz.prog Q0 #[.agg #[.int .i64 k0, .int .i64 n0, .int .i64 b0, .int .i64 a0, .int .i64 c0, .int .i64 q0]] v fun e w' => e = .returned (.bool t0) ∧ Below v.heap.size v w')
    (g1 : ∀ v, Calls Tryz.prog Q1 #[.agg #[.int .i64 k1, .int .i64 n1, .int .i64 b1, .int .i64 a1, .int .i64 c1, .int .i64 q1]] v fun e w' => e = .returned (.bool t1) ∧ Below v.heap.size v w')
    (h2 : ∀ v, Calls Tryz.prog 86 #[.int .i64 w0, .int .i64 0, .int .i64 m] v fun e w' => e = .returned (.bool t2) ∧ w' = v)
    (h3 : ∀ v, Calls Tryz.prog 86 #[.int .i64 w1, .int .i64 0, .int .i64 (m - w0)] v fun e w' => e = .returned (.bool t3) ∧ w' = v)
    (hb : t2 = true → (0 ≤ w0 ∧ w0 ≤ 16) ∧ (0 ≤ m ∧ m ≤ 16)) :
    Calls Tryz.prog 138 #[.agg #[.int .i64 p0, .int .i64 p1, .int .i64 r, .int .i64 m, .int .i64 j], .agg #[.int .i64 k0, .int .i64 n0, .int .i64 b0, .int .i64 a0, .int .i64 c0, .int .i64 q0, .int .i64 k1, .int .i64 n1, .int .i64 b1, .int .i64 a1, .int .i64 c1, .int .i64 q1, .int .i64 w0, .int .i64 w1]] w fun x w' => x = .returned (.bool (t0 && (t1 && (t2 && t3)))) ∧ Below w.heap.size w w' := by
  have X := (Rul.new w _ rfl p0 p1 r m j).alloc (.cells #[.int .i64 k0, .int .i64 n0, .int .i64 b0, .int .i64 a0, .int .i64 c0, .int .i64 q0, .int .i64 k1, .int .i64 n1, .int .i64 b1, .int .i64 a1, .int .i64 c1, .int .i64 q1, .int .i64 w0, .int .i64 w1] 147)
  have Y := Sta.new (w.alloc (.cells #[.int .i64 p0, .int .i64 p1, .int .i64 r, .int .i64 m, .int .i64 j] 69)) (w.heap.size + 1) (by simp) k0 n0 b0 a0 c0 q0 k1 n1 b1 a1 c1 q1 w0 w1
  have B : Below w.heap.size w ((w.alloc (.cells #[.int .i64 p0, .int .i64 p1, .int .i64 r, .int .i64 m, .int .i64 j] 69)).alloc (.cells #[.int .i64 k0, .int .i64 n0, .int .i64 b0, .int .i64 a0, .int .i64 c0, .int .i64 q0, .int .i64 k1, .int .i64 n1, .int .i64 b1, .int .i64 a1, .int .i64 c1, .int .i64 q1, .int .i64 w0, .int .i64 w1] 147)) := balloc (balloc (Below.refl _ _) _) _
  obtain ⟨x0, x1, x2, x3, x4, _, _, _, _, _⟩ := id X
  go_enter Tryz.func138, Tryz.ntmps138
  go_wp2_with (go_at_call 70; refine (p _).mono ?_; clear p x0 x1 x2 x3 x4; rintro x v ⟨rfl, b⟩; replace X := X.kept b; replace Y := Y.kept b; replace B := bthen B b; obtain ⟨x0, x1, x2, x3, x4, _, _, _, _, _⟩ := id X)
  clear x0 x1 x2 x3 x4
  go_loopw [14] (fun i wr => (i = .int .i64 0 ∨ i = .int .i64 1 ∧ t0 = true ∨ i = .int .i64 2 ∧ t0 = true ∧ t1 = true) ∧ Rul wr w.heap.size p0 p1 r m j ∧ Sta wr (w.heap.size + 1) k0 n0 b0 a0 c0 q0 k1 n1 b1 a1 c1 q1 w0 w1 ∧ Below w.heap.size w wr) (fun i _ => 2 - (intOf i).toNat)
  case atStart => exact ⟨.inl rfl, X, Y, B⟩
  case round =>
    clear X Y B
    obtain ⟨rfl | ⟨rfl, rfl⟩ | ⟨rfl, rfl, rfl⟩, X, Y, B⟩ := hrel
    · clear s1 e1 g1 h2 h3 hb
      go_wp2_with (go_at_call 85; refine (s0 _).mono ?_; clear s0; rintro x v1 ⟨rfl, b⟩; replace X := (X.kept b).alloc (.cells #[.func (.func P0) #[] #[], .func (.func Q0) #[] #[], .func (.func S0) #[] #[]] 135); replace Y := (Y.kept b).alloc (.cells #[.func (.func P0) #[] #[], .func (.func Q0) #[] #[], .func (.func S0) #[] #[]] 135); replace B := balloc (bthen B b) (.cells #[.func (.func P0) #[] #[], .func (.func Q0) #[] #[], .func (.func S0) #[] #[]] 135); have F := Snd.new v1 _ rfl P0 Q0 S0; clear b)
      go_region_held3 (fun w' => w'.cell? ⟨v1.heap.size, 1, none⟩ = some (.func (.func Q0) #[] #[]) ∧ w'.cell? ⟨w.heap.size + 1, 0, none⟩ = some (.int .i64 k0) ∧ w'.cell? ⟨w.heap.size + 1, 1, none⟩ = some (.int .i64 n0) ∧ w'.cell? ⟨w.heap.size + 1, 2, none⟩ = some (.int .i64 b0) ∧ w'.cell? ⟨w.heap.size + 1, 3, none⟩ = some (.int .i64 a0) ∧ w'.cell? ⟨w.heap.size + 1, 4, none⟩ = some (.int .i64 c0) ∧ w'.cell? ⟨w.heap.size + 1, 5, none⟩ = some (.int .i64 q0)) (first | with_reducible exact ⟨F.c1, Y.c0, Y.c1, Y.c2, Y.c3, Y.c4, Y.c5⟩ | with_reducible exact ⟨F.drew.c1, Y.drew.c0, Y.drew.c1, Y.drew.c2, Y.drew.c3, Y.drew.c4, Y.drew.c5⟩ | go_keep)
        (first | (refine (g0 _).mono ?_; clear g0; rintro x v2 ⟨rfl, b⟩; replace X := X.drew.kept b; replace Y := Y.drew.kept b; replace F := F.drew.kept b; replace B := bthen B.drew b; clear b))
      cases t0
      all_goals go_wp2
      · go_ret
        exact ⟨rfl, B⟩
      · go_roundw
        case rel => exact ⟨.inr (.inl ⟨rfl, by first | rfl | trivial⟩), X, Y, B⟩
        case measure => simp [intOf]
    · clear s0 e0 g0 h2 h3 hb
      go_wp2_with (go_at_call 85; refine (s1 _).mono ?_; clear s1; rintro x v1 ⟨rfl, b⟩; replace X := (X.kept b).alloc (.cells #[.func (.func P1) #[] #[], .func (.func Q1) #[] #[], .func (.func S1) #[] #[]] 135); replace Y := (Y.kept b).alloc (.cells #[.func (.func P1) #[] #[], .func (.func Q1) #[] #[], .func (.func S1) #[] #[]] 135); replace B := balloc (bthen B b) (.cells #[.func (.func P1) #[] #[], .func (.func Q1) #[] #[], .func (.func S1) #[] #[]] 135); have F := Snd.new v1 _ rfl P1 Q1 S1; clear b)
      go_region_held3 (fun w' => w'.cell? ⟨v1.heap.size, 1, none⟩ = some (.func (.func Q1) #[] #[]) ∧ w'.cell? ⟨w.heap.size + 1, 6, none⟩ = some (.int .i64 k1) ∧ w'.cell? ⟨w.heap.size + 1, 7, none⟩ = some (.int .i64 n1) ∧ w'.cell? ⟨w.heap.size + 1, 8, none⟩ = some (.int .i64 b1) ∧ w'.cell? ⟨w.heap.size + 1, 9, none⟩ = some (.int .i64 a1) ∧ w'.cell? ⟨w.heap.size + 1, 10, none⟩ = some (.int .i64 c1) ∧ w'.cell? ⟨w.heap.size + 1, 11, none⟩ = some (.int .i64 q1)) (first | with_reducible exact ⟨F.c1, Y.c6, Y.c7, Y.c8, Y.c9, Y.c10, Y.c11⟩ | with_reducible exact ⟨F.drew.c1, Y.drew.c6, Y.drew.c7, Y.drew.c8, Y.drew.c9, Y.drew.c10, Y.drew.c11⟩ | go_keep)
        (first | (refine (g1 _).mono ?_; clear g1; rintro x v2 ⟨rfl, b⟩; replace X := X.drew.kept b; replace Y := Y.drew.kept b; replace F := F.drew.kept b; replace B := bthen B.drew b; clear b))
      cases t1
      all_goals go_wp2
      · go_ret
        exact ⟨rfl, B⟩
      · go_roundw
        case rel => exact ⟨.inr (.inr ⟨rfl, by first | rfl | trivial, by first | rfl | trivial⟩), X, Y, B⟩
        case measure => simp [intOf]
    · clear s0 s1 e0 e1 g0 g1
      obtain ⟨_, _, _, x3, _, _, _, _, _, _⟩ := id X
      obtain ⟨y0, y1, y2, y3, y4, y5, y6, y7, y8, y9, y10, y11, y12, y13, _, _, _, _, _, _, _, _, _, _, _, _, _, _⟩ := id Y
      cases t2
      · clear hb
        go_wp2_with (go_at_call 86; refine (h2 _).mono ?_; clear h2; rintro x v1 ⟨rfl, rfl⟩)
        go_ret
        exact ⟨rfl, B⟩
      · obtain ⟨⟨u0, u1⟩, u2, u3⟩ := hb rfl
        clear hb
        go_wp2_with (first
          | (go_at_call 86; refine (h2 _).mono ?_; clear h2; rintro x v1 ⟨rfl, rfl⟩)
          | (go_at_call 86; refine (h3 _).mono ?_; clear h3; rintro x v1 ⟨rfl, rfl⟩))
        go_ret
        exact ⟨rfl, B⟩

/-- right by the kind that the rules name -/
theorem rts (k : Int) (h : 1 ≤ k ∧ k ≤ 3) (c : Ct) : (∀ args w, (callFunc (rtF k) args).run Tryz.prog w = .ok (.enter (rtF k) args) w) ∧ ∀ v, Calls Tryz.prog (rtF k) #[.agg #[.int .i64 c.k, .int .i64 c.n, .int .i64 c.b, .int .i64 c.a, .int .i64 c.s, .int .i64 c.q]] v fun e w' => e = .returned (.bool (decide (cright c ∧ c.k = k))) ∧ Below v.heap.size v w' := by
  obtain rfl | rfl | rfl : k = 1 ∨ k = 2 ∨ k = 3 := by omega
  · refine ⟨enters_of Tryz.func109 (by kernel_rfl) rfl, fun v => (V.right_any c.k c.n c.b c.a c.s c.q v).mono fun e w' q => ⟨q.1.trans ?_, q.2⟩⟩
    rw [show decide (V.kright c.k c.n c.b c.a c.s c.q) = decide (cright c ∧ c.k = 1) by
      rw [decide_eq_decide]; unfold V.kright cright kright lright mright; omega]
  · refine ⟨enters_of Tryz.func112 (by kernel_rfl) rfl, fun v => (C.right_any c.k c.n c.b c.a c.s c.q v).mono fun e w' q => ⟨q.1.trans ?_, q.2⟩⟩
    rw [show decide (C.lright c.k c.n c.b c.a c.s c.q) = decide (cright c ∧ c.k = 2) by
      rw [decide_eq_decide]; unfold C.lright cright kright lright mright; omega]
  · refine ⟨enters_of Tryz.func40 (by kernel_rfl) rfl, fun v => (L.right_any c.k c.n c.b c.a c.s c.q v).mono fun e w' q => ⟨q.1.trans ?_, q.2⟩⟩
    rw [show decide (L.mright c.k c.n c.b c.a c.s c.q) = decide (cright c ∧ c.k = 3) by
      rw [decide_eq_decide]; unfold L.mright cright kright lright mright; omega]

theorem right_any (r : Ru) (s : Sx) (w : World) :
    Calls Tryz.prog 138 #[.agg #[.int .i64 r.k0, .int .i64 r.k1, .int .i64 r.r, .int .i64 r.m, .int .i64 r.j], .agg #[.int .i64 s.f0.k, .int .i64 s.f0.n, .int .i64 s.f0.b, .int .i64 s.f0.a, .int .i64 s.f0.s, .int .i64 s.f0.q, .int .i64 s.f1.k, .int .i64 s.f1.n, .int .i64 s.f1.b, .int .i64 s.f1.a, .int .i64 s.f1.s, .int .i64 s.f1.q, .int .i64 s.w0, .int .i64 s.w1]] w fun x w' => x = .returned (.bool (decide (pright r s))) ∧ Below w.heap.size w w' := by
  by_cases h : wrong r = 0
  · have hk := (wrong_ok.1 h)
    have hk1 := hk.1
    have hk2 := hk.2
    unfold kinds at hk1
    unfold ranges at hk2
    refine (right_of r.k0 r.k1 r.r r.m r.j s.f0.k s.f0.n s.f0.b s.f0.a s.f0.s s.f0.q s.f1.k s.f1.n s.f1.b s.f1.a s.f1.s s.f1.q s.w0 s.w1 _ _ _ _ _ _ _ _ _ _ w (fun v => wrong_is r 0 h v) (fun v => sender_yes r.k0 hk1.1 v) (fun v => sender_yes r.k1 hk1.2 v) (rts r.k0 hk1.1 s.f0).1 (rts r.k1 hk1.2 s.f1).1 (rts r.k0 hk1.1 s.f0).2 (rts r.k1 hk1.2 s.f1).2 (fun v => within_any _ _ _ v) (fun v => within_any _ _ _ v) (fun e => ?_)).mono fun e w' q => ⟨q.1.trans ?_, q.2⟩
    · simp only [Bool.and_eq_true, decide_eq_true_iff] at e
      omega
    · congr 2
      rw [Bool.eq_iff_iff]
      simp only [Bool.and_eq_true, decide_eq_true_iff]
      unfold pright
      constructor
      · rintro ⟨a, b, c, d⟩
        exact ⟨hk, a, b, by omega, by omega, by omega⟩
      · rintro ⟨_, a, b, c, d, f⟩
        exact ⟨a, b, by omega, by omega⟩
  · rw [show decide (pright r s) = false from decide_eq_false fun q => h (wrong_ok.2 q.1)]
    exact right_wrong r.k0 r.k1 r.r r.m r.j s.f0.k s.f0.n s.f0.b s.f0.a s.f0.s s.f0.q s.f1.k s.f1.n s.f1.b s.f1.a s.f1.s s.f1.q s.w0 s.w1 _ (by simpa using h) w (fun v => wrong_any r v)
theorem right_is (r : Ru) (s : Sx) (t : Bool) (h : decide (pright r s) = t) (w : World) :
    Calls Tryz.prog 138 #[.agg #[.int .i64 r.k0, .int .i64 r.k1, .int .i64 r.r, .int .i64 r.m, .int .i64 r.j], .agg #[.int .i64 s.f0.k, .int .i64 s.f0.n, .int .i64 s.f0.b, .int .i64 s.f0.a, .int .i64 s.f0.s, .int .i64 s.f0.q, .int .i64 s.f1.k, .int .i64 s.f1.n, .int .i64 s.f1.b, .int .i64 s.f1.a, .int .i64 s.f1.s, .int .i64 s.f1.q, .int .i64 s.w0, .int .i64 s.w1]] w fun x w' => x = .returned (.bool t) ∧ Below w.heap.size w w' := by subst h; exact right_any r s w

end Go.Proofs.YtjageagnclmnjabGreatDoor.D
