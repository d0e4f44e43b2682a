/- PROVED: what '==' tells of two controls. a control on plain integers: its way, speed, window and base, the next one; who is later sends no more. what copa.within, New, wayOf, speedOf and Right answer. what copa.Right answers. a control of the call's own, in memory: its six cells. what '==' tells of two controls. a control on plain integers: its window, its part and its base, the next one; who is later sends no more; how long the way is is no matter; who waits longer gives way. what ledbat.within, bounded, growth, New and rightPart answer. what ledbat.Right answers. CONDITIONS: none beyond each theorem's own. -/
import Derived.Test.YtbnofjpiioneiaaB00Mem
import Derived.Laws.StructEq
import Derived.Test.YtbnofjpiioneiaaB16CCtl
import Derived.Deep.RegionWith
import Derived.Deep.CutRange
import Derived.Deep.RegionHeld3
namespace Go.Proofs.Ytbnofjpiioneiaa.C
open Go.RowKit

theorem partC (xs : Array Value) (i : Nat) (v : Int) (h : xs[i]? = some (.int .i64 v)) (w : World) : (part 3 xs i).run Try.prog w = .ok (.int .i64 v) w := by
  simp [part, go_sem, h]

theorem eqField (xs ys : Array Value) (f : Field) (fs : List Field) (i : Nat) (x y : Int) (w : World) (hn : (f.name == "_") = false) (ht : f.type = 3) (ho : f.offset = i) (hx : xs[i]? = some (.int .i64 x)) (hy : ys[i]? = some (.int .i64 y)) (B : Bool)
    (hr : (Op.eqFields 9999 xs ys fs).run Try.prog w = .ok B w) :
    (Op.eqFields 9999 xs ys (f :: fs)).run Try.prog w = .ok (decide (x = y) && B) w := by
  have hn' : f.name ≠ "_" := by simpa using hn
  rw [Op.eqFields, if_pos hn', ht, ho]
  simp only [Sem.run_bind, partC xs i x hx, partC ys i y hy, Result.andThen_ok, run_equalIn_int w 9998 3 .i64 .i64 x y Try.underlying3]
  by_cases h : x = y
  · simp [h, hr]
  · simp [h]

theorem six {xs : List Field} (h : xs.map (fun f => (f.name == "_", f.type, f.offset)) = [(false, 3, 0), (false, 3, 1), (false, 3, 2), (false, 3, 3), (false, 3, 4), (false, 3, 5)]) :
    ∃ f0 f1 f2 f3 f4 f5, xs = [f0, f1, f2, f3, f4, f5] := by
  have hl : xs.length = 6 := by simpa using congrArg List.length h
  match xs, hl with
  | [f0, f1, f2, f3, f4, f5], _ => exact ⟨f0, f1, f2, f3, f4, f5, rfl⟩
theorem Try.fields23 : (Try.prog.fieldsOf 35).toList.map (fun f => (f.name == "_", f.type, f.offset)) = [(false, 3, 0), (false, 3, 1), (false, 3, 2), (false, 3, 3), (false, 3, 4), (false, 3, 5)] := by kernel_rfl

theorem eqC (k n b a s q k' n' b' a' s' q' : Int) (w : World) :
    (binOp .eql 35 (.agg #[.int .i64 k, .int .i64 n, .int .i64 b, .int .i64 a, .int .i64 s, .int .i64 q]) (.agg #[.int .i64 k', .int .i64 n', .int .i64 b', .int .i64 a', .int .i64 s', .int .i64 q'])).run Try.prog w
      = .ok (.bool (decide (k = k') && (decide (n = n') && (decide (b = b') && (decide (a = a') && (decide (s = s') && (decide (q = q') && true))))))) w := by
  rw [run_eql_struct, run_equalIn_agg (d := 9999) _ _ _ _ (by kernel_rfl) (by kernel_rfl)]
  have hf := Try.fields23
  obtain ⟨f0, f1, f2, f3, f4, f5, e⟩ := six hf
  rw [e] at hf ⊢
  simp only [List.map_cons, List.map_nil, List.cons.injEq, Prod.mk.injEq, and_true] at hf
  obtain ⟨⟨a0, b0, c0⟩, ⟨a1, b1, c1⟩, ⟨a2, b2, c2⟩, ⟨a3, b3, c3⟩, ⟨a4, b4, c4⟩, ⟨a5, b5, c5⟩⟩ := hf
  rw [eqField _ _ f0 _ 0 k k' w a0 b0 c0 rfl rfl _ (eqField _ _ f1 _ 1 n n' w a1 b1 c1 rfl rfl _ (eqField _ _ f2 _ 2 b b' w a2 b2 c2 rfl rfl _ (eqField _ _ f3 _ 3 a a' w a3 b3 c3 rfl rfl _ (eqField _ _ f4 _ 4 s s' w a4 b4 c4 rfl rfl _ (eqField _ _ f5 _ 5 q q' w a5 b5 c5 rfl rfl true (by simp [Op.eqFields]))))))]
  rfl

/-- whether they are the same -/
def sameC (k n b a s q k' n' b' a' s' q' : Int) : Bool := decide (k = k') && (decide (n = n') && (decide (b = b') && (decide (a = a') && (decide (s = s') && (decide (q = q') && true)))))
theorem eqS (k n b a s q k' n' b' a' s' q' : Int) (w : World) :
    (binOp .eql 35 (.agg #[.int .i64 k, .int .i64 n, .int .i64 b, .int .i64 a, .int .i64 s, .int .i64 q]) (.agg #[.int .i64 k', .int .i64 n', .int .i64 b', .int .i64 a', .int .i64 s', .int .i64 q'])).run Try.prog w = .ok (.bool (sameC k n b a s q k' n' b' a' s' q')) w := eqC k n b a s q k' n' b' a' s' q' w
theorem same_is {k n b a s q k' n' b' a' s' q' : Int} : sameC k n b a s q k' n' b' a' s' q' = true ↔ k = k' ∧ n = n' ∧ b = b' ∧ a = a' ∧ s = s' ∧ q = q' := by
  unfold sameC; simp
theorem same_self (k n b a s q : Int) : sameC k n b a s q k n b a s q = true := same_is.2 ⟨rfl, rfl, rfl, rfl, rfl, rfl⟩

end Go.Proofs.Ytbnofjpiioneiaa.C

namespace Go.Proofs.Ytbnofjpiioneiaa.C

/-- a window that may be -/
def clip (n : Int) : Int := min (max n 1) 12
theorem clip_in (n : Int) : 1 ≤ clip n ∧ clip n ≤ 12 := by unfold clip; omega
theorem clip_is {n : Int} (h : 1 ≤ n) (h2 : n ≤ 12) : clip n = n := by unfold clip; omega

/-- may it be? -/
def lright (k n b a s q : Int) : Prop := k = 2 ∧ (1 ≤ n ∧ n ≤ 12) ∧ (-1 ≤ b ∧ b ≤ 1099511627776) ∧ (-1 ≤ a ∧ a ≤ 1) ∧ (0 ≤ s ∧ s ≤ 4) ∧ q = 0
instance (k n b a s q : Int) : Decidable (lright k n b a s q) := by unfold lright; infer_instance
/-- may such a delay be? -/
def inr (x : Int) : Prop := 0 ≤ x ∧ x ≤ 1099511627776
instance (x : Int) : Decidable (inr x) := by unfold inr; infer_instance

/-- the base behind a delay -/
def nb (b d : Int) : Int := if b < 0 ∨ d < b then d else b
/-- which way it goes, behind a delay d that is x more than the base -/
def wy (n x d : Int) : Int := if n * x ≤ 2 * (1 + d) then 1 else -1
/-- how fast, on the way y, who went the way a so fast as s -/
def spd (a s y : Int) : Int := if y = a then min (max (2 * s) 1) 4 else 1
/-- the window then -/
def nw (n a s y : Int) : Int := clip (n + y * spd a s y)

theorem nb_in {b d : Int} (hd : inr d) : 0 ≤ nb b d ∧ nb b d ≤ d ∧ nb b d ≤ 1099511627776 ∧ 0 ≤ d - nb b d ∧ d - nb b d ≤ 1099511627776 := by
  unfold inr at hd; unfold nb; split <;> omega
theorem wy_is (n x d : Int) : wy n x d = 1 ∨ wy n x d = -1 := by unfold wy; split <;> simp
theorem spd_in (a s y : Int) : 1 ≤ spd a s y ∧ spd a s y ≤ 4 := by unfold spd; split <;> omega
theorem nw_in (n a s y : Int) : 1 ≤ nw n a s y ∧ nw n a s y ≤ 12 := clip_in _

/-- what the window is held against, by division -/
theorem wy_div {n x d : Int} (hx : 0 < x) : n ≤ 2 * (1 + d) / x ↔ n * x ≤ 2 * (1 + d) := Int.le_ediv_iff_mul_le hx

/-- who is later goes up no sooner -/
theorem wy_later {n b x y : Int} (hn : 1 ≤ n) (hx : 0 ≤ x) (h : x ≤ y) (hy : n * (y - nb b y) ≤ 2 * (1 + y)) : n * (x - nb b x) ≤ 2 * (1 + x) := by
  have key : n * (x - nb b x) * (1 + y) ≤ n * (y - nb b y) * (1 + x) := by
    rw [Int.mul_assoc, Int.mul_assoc]
    apply Int.mul_le_mul_of_nonneg_left _ (by omega)
    unfold nb
    split
    · rw [Int.sub_self, Int.zero_mul]
      exact Int.mul_nonneg (by split <;> omega) (by omega)
    · rw [if_neg (by omega)]
      have hb : (x - b) * (1 + y) = x + x * y - b - b * y := by rw [Int.sub_mul, Int.mul_add, Int.mul_add, Int.mul_one, Int.mul_one]; omega
      have hc : (y - b) * (1 + x) = y + x * y - b - b * x := by rw [Int.sub_mul, Int.mul_add, Int.mul_add, Int.mul_one, Int.mul_one, Int.mul_comm y x]; omega
      have hd : b * x ≤ b * y := Int.mul_le_mul_of_nonneg_left h (by omega)
      omega
  have h2 : n * (y - nb b y) * (1 + x) ≤ 2 * (1 + y) * (1 + x) := Int.mul_le_mul_of_nonneg_right hy (by omega)
  have h3 : 2 * (1 + y) * (1 + x) = 2 * (1 + x) * (1 + y) := by rw [Int.mul_assoc, Int.mul_comm (1 + y) (1 + x), ← Int.mul_assoc]
  exact Int.le_of_mul_le_mul_right (by omega : n * (x - nb b x) * (1 + y) ≤ 2 * (1 + x) * (1 + y)) (by omega)
/-- who is later sends no more -/
theorem nw_yields {n b a s x y : Int} (hn : 1 ≤ n) (hx : 0 ≤ x) (h : x ≤ y) : nw n a s (wy n (y - nb b y) y) ≤ nw n a s (wy n (x - nb b x) x) := by
  by_cases hy : n * (y - nb b y) ≤ 2 * (1 + y)
  · have := wy_later hn hx h hy
    unfold wy; rw [if_pos hy, if_pos this]; omega
  · by_cases hx2 : n * (x - nb b x) ≤ 2 * (1 + x)
    · unfold wy; rw [if_neg hy, if_pos hx2]
      have h1 := spd_in a s 1
      have h2 := spd_in a s (-1)
      unfold nw clip; omega
    · unfold wy; rw [if_neg hy, if_neg hx2]; omega

/-- who turns goes by one -/
theorem nw_turns {n a s y : Int} (hn : 1 ≤ n ∧ n ≤ 12) (hy : y = 1 ∨ y = -1) (h : y ≠ a) : spd a s y = 1 ∧ n - 1 ≤ nw n a s y ∧ nw n a s y ≤ n + 1 := by
  have e : spd a s y = 1 := by unfold spd; rw [if_neg h]
  refine ⟨e, ?_⟩
  unfold nw clip; rw [e]; rcases hy with rfl | rfl <;> omega
/-- who goes on goes by no more than the speed -/
theorem nw_goes {n a s y : Int} (hn : 1 ≤ n ∧ n ≤ 12) (hy : y = 1 ∨ y = -1) : 0 ≤ (nw n a s y - n) * y ∧ (nw n a s y - n) * y ≤ spd a s y := by
  have h1 := spd_in a s y
  unfold nw clip
  generalize spd a s y = S at h1 ⊢
  rcases hy with rfl | rfl <;> omega

end Go.Proofs.Ytbnofjpiioneiaa.C

namespace Go.Proofs.Ytbnofjpiioneiaa.C
open Go.RowKit

theorem within_any (n : Int) (w : World) :
    Calls Try.prog 80 #[.int .i64 n] w fun e w' => e = .returned (.int .i64 (clip n)) ∧ w' = w := by
  go_enter Try.func80, Try.ntmps80
  go_wp2
  go_ret
  exact ⟨rfl, rfl⟩

theorem new_any (n : Int) (w : World) :
    Calls Try.prog 62 #[.int .i64 n] w fun e w' => e = .returned (.agg #[.int .i64 2, .int .i64 (clip n), .int .i64 (-1), .int .i64 0, .int .i64 0, .int .i64 0]) ∧ Below w.heap.size w w' := by
  have c := fun v => within_any n v
  generalize clip n = m at c ⊢
  go_enter Try.func62, Try.ntmps62
  go_wp2_with (go_at_call 80; refine (c _).mono ?_; rintro e w'' ⟨rfl, rfl⟩)
  exact bodyPost_ret (v := .agg #[.int .i64 2, .int .i64 m, .int .i64 (-1), .int .i64 0, .int .i64 0, .int .i64 0]) (by simp [results, Try.results62, go_sem]) rfl ⟨rfl, (Below.refl _ _).alloc (Nat.le_refl _) _⟩

theorem way_of (n x d y m : Int) (w : World) (hd0 : 0 ≤ d) (hd1 : d ≤ 1099511627776) (h : x = 0 ∧ y = 1 ∨ (x == 0) = false ∧ ¬ x = 0 ∧ (2 * (1 + d)).tdiv x = m ∧ 0 ≤ m ∧ m ≤ 2199023255554 ∧ (decide (n ≤ m) = true ∧ y = 1 ∨ decide (n ≤ m) = false ∧ y = -1)) :
    Calls Try.prog 81 #[.int .i64 n, .int .i64 x, .int .i64 d] w fun e w' => e = .returned (.int .i64 y) ∧ w' = w := by
  rcases h with ⟨rfl, rfl⟩ | ⟨h0, hx, hm, hm0, hm1, ⟨h2, rfl⟩ | ⟨h2, rfl⟩⟩
  all_goals
    go_enter Try.func81, Try.ntmps81
    go_wp2
    go_ret
    exact ⟨rfl, rfl⟩

theorem way_any (n x d : Int) (w : World) (hx0 : 0 ≤ x) (hd0 : 0 ≤ d) (hd1 : d ≤ 1099511627776) :
    Calls Try.prog 81 #[.int .i64 n, .int .i64 x, .int .i64 d] w fun e w' => e = .returned (.int .i64 (wy n x d)) ∧ w' = w := by
  by_cases h : x = 0
  · refine way_of n x d _ 0 w hd0 hd1 (.inl ⟨h, ?_⟩)
    unfold wy; rw [h, Int.mul_zero, if_pos (by omega)]
  · have h0 : 0 < x := by omega
    have q := wy_div (n := n) (d := d) h0
    have tv : (2 * (1 + d)).tdiv x = 2 * (1 + d) / x := Int.tdiv_eq_ediv_of_nonneg (by omega)
    have m0 : 0 ≤ 2 * (1 + d) / x := Int.ediv_nonneg (by omega) (by omega)
    have m1 : 2 * (1 + d) / x ≤ 2 * (1 + d) := Int.ediv_le_self _ (by omega)
    refine way_of n x d _ _ w hd0 hd1 (.inr ⟨by simpa using h, h, tv, m0, by omega, ?_⟩)
    unfold wy
    by_cases c : n * x ≤ 2 * (1 + d)
    · exact .inl ⟨decide_eq_true (q.2 c), if_pos c⟩
    · exact .inr ⟨decide_eq_false fun h => c (q.1 h), if_neg c⟩

set_option maxHeartbeats 1600000 in
theorem speed_any (k n b a s q y : Int) (w : World) (hs0 : 0 ≤ s) (hs1 : s ≤ 4) :
    Calls Try.prog 82 #[.agg #[.int .i64 k, .int .i64 n, .int .i64 b, .int .i64 a, .int .i64 s, .int .i64 q], .int .i64 y] w fun e w' => e = .returned (.int .i64 (spd a s y)) ∧ Below w.heap.size w w' := by
  by_cases h : y = a
  · rw [show spd a s y = min (max (2 * s) 1) 4 by unfold spd; rw [if_pos h]]
    subst h
    go_enter Try.func82, Try.ntmps82
    go_wp2
    go_ret
    exact ⟨rfl, balloc (Below.refl _ _) _⟩
  · rw [show spd a s y = 1 by unfold spd; rw [if_neg h]]
    go_enter Try.func82, Try.ntmps82
    go_wp2
    go_ret
    exact ⟨rfl, balloc (Below.refl _ _) _⟩

end Go.Proofs.Ytbnofjpiioneiaa.C

namespace Go.Proofs.Ytbnofjpiioneiaa.C
open Go.RowKit

set_option maxHeartbeats 4000000 in
theorem right_of (k n b a s q m : Int) (w : World) (c : ∀ v, Calls Try.prog 80 #[.int .i64 n] v fun e w' => e = .returned (.int .i64 m) ∧ w' = v) (t0 t1 t2 t3 t4 t5 t6 t7 t8 : Bool) (h0 : (k == 2) = t0) (h1 : (n == m) = t1) (h2 : (q == 0) = t2) (h3 : decide (-1 ≤ b) = t3) (h4 : decide (b ≤ 1099511627776) = t4) (h5 : decide (-1 ≤ a) = t5) (h6 : decide (a ≤ 1) = t6) (h7 : decide (0 ≤ s) = t7) (h8 : decide (s ≤ 4) = t8) :
    Calls Try.prog 63 #[.agg #[.int .i64 k, .int .i64 n, .int .i64 b, .int .i64 a, .int .i64 s, .int .i64 q]] w fun e w' => e = .returned (.bool (t0 && (t1 && (t2 && (t3 && (t4 && (t5 && (t6 && (t7 && t8))))))))) ∧ Below w.heap.size w w' := by
  obtain ⟨c0, c1, c2, c3, c4, c5, f0, f1, f2, f3, f4, f5⟩ := Ctl.new w _ rfl k n b a s q
  have bb : Below w.heap.size w (w.alloc (.cells #[.int .i64 k, .int .i64 n, .int .i64 b, .int .i64 a, .int .i64 s, .int .i64 q] 35)) := balloc (Below.refl _ _) _
  cases t0
  case' true => cases t1
  case' true.true => cases t2
  case' true.true.true => cases t3
  case' true.true.true.true => cases t4
  case' true.true.true.true.true => cases t5
  case' true.true.true.true.true.true => cases t6
  case' true.true.true.true.true.true.true => cases t7
  case' true.true.true.true.true.true.true.true => cases t8
  all_goals
    go_enter Try.func63, Try.ntmps63
    go_wp2
    go_quiet ((go_at_call 80; refine (c _).mono ?_; rintro e w'' ⟨rfl, rfl⟩; exact ⟨rfl, _, rfl⟩))
    go_wp2
    go_ret
    exact ⟨rfl, below_drewN bb _⟩

theorem right_any (k n b a s q : Int) (w : World) :
    Calls Try.prog 63 #[.agg #[.int .i64 k, .int .i64 n, .int .i64 b, .int .i64 a, .int .i64 s, .int .i64 q]] w fun e w' => e = .returned (.bool (decide (lright k n b a s q))) ∧ Below w.heap.size w w' := by
  have := right_of k n b a s q (clip n) w (within_any n) _ _ _ _ _ _ _ _ _ rfl rfl rfl rfl rfl rfl rfl rfl rfl
  rw [show (k == 2 && (n == clip n && (q == 0 && (decide (-1 ≤ b) && (decide (b ≤ 1099511627776) && (decide (-1 ≤ a) && (decide (a ≤ 1) && (decide (0 ≤ s) && decide (s ≤ 4))))))))) = decide (lright k n b a s q) by
    rw [Bool.eq_iff_iff]
    simp only [Bool.and_eq_true, decide_eq_true_iff, beq_iff_eq]
    unfold lright clip
    omega] at this
  exact this

end Go.Proofs.Ytbnofjpiioneiaa.C

namespace Go.Proofs.Ytbnofjpiioneiaa.L
open Go.RowKit

/-- a control of the call's own, in block C -/
structure Ctl (w : World) (C : Nat) (k n b a s q : Int) : Prop where
  c0 : w.cell? ⟨C, 0, none⟩ = some (.int .i64 k)
  c1 : w.cell? ⟨C, 1, none⟩ = some (.int .i64 n)
  c2 : w.cell? ⟨C, 2, none⟩ = some (.int .i64 b)
  c3 : w.cell? ⟨C, 3, none⟩ = some (.int .i64 a)
  c4 : w.cell? ⟨C, 4, none⟩ = some (.int .i64 s)
  c5 : w.cell? ⟨C, 5, none⟩ = some (.int .i64 q)
  f0 : w.frozen? ⟨C, 0, none⟩ = false
  f1 : w.frozen? ⟨C, 1, none⟩ = false
  f2 : w.frozen? ⟨C, 2, none⟩ = false
  f3 : w.frozen? ⟨C, 3, none⟩ = false
  f4 : w.frozen? ⟨C, 4, none⟩ = false
  f5 : w.frozen? ⟨C, 5, none⟩ = false
theorem Ctl.new (w : World) (C : Nat) (hC : C = w.heap.size) (k n b a s q : Int) : Ctl (w.alloc (.cells #[.int .i64 k, .int .i64 n, .int .i64 b, .int .i64 a, .int .i64 s, .int .i64 q] 35)) C k n b a s q := by
  subst hC
  constructor
  all_goals first
    | (rw [World.cell?_alloc_at _ _ _ _ rfl]; rfl)
    | (rw [World.frozen?_alloc_at _ _ _ _ rfl])
theorem Ctl.kept {w w' : World} {C : Nat} {k n b a s q : Int} (h : Ctl w C k n b a s q) (g : Below w.heap.size w w') : Ctl w' C k n b a s q := by
  have hl : C < w.heap.size := block_lt h.c0
  have e : ∀ o, w'.cell? ⟨C, o, none⟩ = w.cell? ⟨C, o, none⟩ := fun o => g.cell (p := ⟨C, o, none⟩) hl
  have f : ∀ o, w'.frozen? ⟨C, o, none⟩ = w.frozen? ⟨C, o, none⟩ := fun o => g.frozen (p := ⟨C, o, none⟩) hl
  exact ⟨(e 0).trans h.c0, (e 1).trans h.c1, (e 2).trans h.c2, (e 3).trans h.c3, (e 4).trans h.c4, (e 5).trans h.c5, (f 0).trans h.f0, (f 1).trans h.f1, (f 2).trans h.f2, (f 3).trans h.f3, (f 4).trans h.f4, (f 5).trans h.f5⟩
theorem Ctl.alloc {w : World} {C : Nat} {k n b a s q : Int} (h : Ctl w C k n b a s q) (o : Obj) : Ctl (w.alloc o) C k n b a s q := h.kept (balloc (Below.refl _ _) o)
theorem Ctl.drewN {w : World} {C : Nat} {k n b a s q : Int} (h : Ctl w C k n b a s q) (m : Nat) : Ctl (w.drewN m) C k n b a s q := h.kept (below_drewN (Below.refl _ _) m)
theorem Ctl.set1 {w : World} {C : Nat} {k n b a s q : Int} (h : Ctl w C k n b a s q) (v : Int) : Ctl (w.setCell ⟨C, 1, none⟩ (.int .i64 v)) C k v b a s q :=
  ⟨(World.cell?_setCell_other _ _ _ _ (by simp)).trans h.c0, World.cell?_setCell_same _ _ _ h.c1, (World.cell?_setCell_other _ _ _ _ (by simp)).trans h.c2, (World.cell?_setCell_other _ _ _ _ (by simp)).trans h.c3, (World.cell?_setCell_other _ _ _ _ (by simp)).trans h.c4, (World.cell?_setCell_other _ _ _ _ (by simp)).trans h.c5,
    (World.frozen?_setCell _ _ _ _).trans h.f0, (World.frozen?_setCell _ _ _ _).trans h.f1, (World.frozen?_setCell _ _ _ _).trans h.f2, (World.frozen?_setCell _ _ _ _).trans h.f3, (World.frozen?_setCell _ _ _ _).trans h.f4, (World.frozen?_setCell _ _ _ _).trans h.f5⟩
theorem Ctl.set2 {w : World} {C : Nat} {k n b a s q : Int} (h : Ctl w C k n b a s q) (v : Int) : Ctl (w.setCell ⟨C, 2, none⟩ (.int .i64 v)) C k n v a s q :=
  ⟨(World.cell?_setCell_other _ _ _ _ (by simp)).trans h.c0, (World.cell?_setCell_other _ _ _ _ (by simp)).trans h.c1, World.cell?_setCell_same _ _ _ h.c2, (World.cell?_setCell_other _ _ _ _ (by simp)).trans h.c3, (World.cell?_setCell_other _ _ _ _ (by simp)).trans h.c4, (World.cell?_setCell_other _ _ _ _ (by simp)).trans h.c5,
    (World.frozen?_setCell _ _ _ _).trans h.f0, (World.frozen?_setCell _ _ _ _).trans h.f1, (World.frozen?_setCell _ _ _ _).trans h.f2, (World.frozen?_setCell _ _ _ _).trans h.f3, (World.frozen?_setCell _ _ _ _).trans h.f4, (World.frozen?_setCell _ _ _ _).trans h.f5⟩
theorem Ctl.far {w : World} {C D o : Nat} {k n b a s q : Int} (h : Ctl w C k n b a s q) (hD : D ≠ C) (v : Value) : Ctl (w.setCell ⟨D, o, none⟩ v) C k n b a s q := by
  have e : ∀ i, (w.setCell ⟨D, o, none⟩ v).cell? ⟨C, i, none⟩ = w.cell? ⟨C, i, none⟩ := fun i => World.cell?_setCell_other _ _ _ _ (fun p => hD (by injection p))
  have f : ∀ i, (w.setCell ⟨D, o, none⟩ v).frozen? ⟨C, i, none⟩ = w.frozen? ⟨C, i, none⟩ := fun i => World.frozen?_setCell _ _ _ _
  exact ⟨(e 0).trans h.c0, (e 1).trans h.c1, (e 2).trans h.c2, (e 3).trans h.c3, (e 4).trans h.c4, (e 5).trans h.c5, (f 0).trans h.f0, (f 1).trans h.f1, (f 2).trans h.f2, (f 3).trans h.f3, (f 4).trans h.f4, (f 5).trans h.f5⟩
/-- what lies there behind Right -/
theorem two {w w1 : World} {k n b a s q : Int} (hb : Below ((w.alloc (.cells #[.int .i64 k, .int .i64 n, .int .i64 b, .int .i64 a, .int .i64 s, .int .i64 q] 35)).alloc (.cells #[.int .i64 0, .int .i64 0, .int .i64 0, .int .i64 0, .int .i64 0, .int .i64 0] 35)).heap.size ((w.alloc (.cells #[.int .i64 k, .int .i64 n, .int .i64 b, .int .i64 a, .int .i64 s, .int .i64 q] 35)).alloc (.cells #[.int .i64 0, .int .i64 0, .int .i64 0, .int .i64 0, .int .i64 0, .int .i64 0] 35)) w1) :
    Ctl w1 w.heap.size k n b a s q ∧ Ctl w1 (w.heap.size + 1) 0 0 0 0 0 0 :=
  ⟨((Ctl.new w _ rfl k n b a s q).alloc _).kept hb, (Ctl.new (w.alloc _) _ (by simp) 0 0 0 0 0 0).kept hb⟩
theorem up2 {w w1 : World} {o o' : Obj} (h : Below ((w.alloc o).alloc o').heap.size ((w.alloc o).alloc o') w1) : Below w.heap.size w w1 := bthen (balloc (balloc (Below.refl _ _) o) o') h

theorem Ctl.set0 {w : World} {C : Nat} {k n b a s q : Int} (h : Ctl w C k n b a s q) (v : Int) : Ctl (w.setCell ⟨C, 0, none⟩ (.int .i64 v)) C v n b a s q :=
  ⟨World.cell?_setCell_same _ _ _ h.c0, (World.cell?_setCell_other _ _ _ _ (by simp)).trans h.c1, (World.cell?_setCell_other _ _ _ _ (by simp)).trans h.c2, (World.cell?_setCell_other _ _ _ _ (by simp)).trans h.c3, (World.cell?_setCell_other _ _ _ _ (by simp)).trans h.c4, (World.cell?_setCell_other _ _ _ _ (by simp)).trans h.c5,
    (World.frozen?_setCell _ _ _ _).trans h.f0, (World.frozen?_setCell _ _ _ _).trans h.f1, (World.frozen?_setCell _ _ _ _).trans h.f2, (World.frozen?_setCell _ _ _ _).trans h.f3, (World.frozen?_setCell _ _ _ _).trans h.f4, (World.frozen?_setCell _ _ _ _).trans h.f5⟩
theorem Ctl.set3 {w : World} {C : Nat} {k n b a s q : Int} (h : Ctl w C k n b a s q) (v : Int) : Ctl (w.setCell ⟨C, 3, none⟩ (.int .i64 v)) C k n b v s q :=
  ⟨(World.cell?_setCell_other _ _ _ _ (by simp)).trans h.c0, (World.cell?_setCell_other _ _ _ _ (by simp)).trans h.c1, (World.cell?_setCell_other _ _ _ _ (by simp)).trans h.c2, World.cell?_setCell_same _ _ _ h.c3, (World.cell?_setCell_other _ _ _ _ (by simp)).trans h.c4, (World.cell?_setCell_other _ _ _ _ (by simp)).trans h.c5,
    (World.frozen?_setCell _ _ _ _).trans h.f0, (World.frozen?_setCell _ _ _ _).trans h.f1, (World.frozen?_setCell _ _ _ _).trans h.f2, (World.frozen?_setCell _ _ _ _).trans h.f3, (World.frozen?_setCell _ _ _ _).trans h.f4, (World.frozen?_setCell _ _ _ _).trans h.f5⟩
theorem Ctl.set4 {w : World} {C : Nat} {k n b a s q : Int} (h : Ctl w C k n b a s q) (v : Int) : Ctl (w.setCell ⟨C, 4, none⟩ (.int .i64 v)) C k n b a v q :=
  ⟨(World.cell?_setCell_other _ _ _ _ (by simp)).trans h.c0, (World.cell?_setCell_other _ _ _ _ (by simp)).trans h.c1, (World.cell?_setCell_other _ _ _ _ (by simp)).trans h.c2, (World.cell?_setCell_other _ _ _ _ (by simp)).trans h.c3, World.cell?_setCell_same _ _ _ h.c4, (World.cell?_setCell_other _ _ _ _ (by simp)).trans h.c5,
    (World.frozen?_setCell _ _ _ _).trans h.f0, (World.frozen?_setCell _ _ _ _).trans h.f1, (World.frozen?_setCell _ _ _ _).trans h.f2, (World.frozen?_setCell _ _ _ _).trans h.f3, (World.frozen?_setCell _ _ _ _).trans h.f4, (World.frozen?_setCell _ _ _ _).trans h.f5⟩
theorem Ctl.set5 {w : World} {C : Nat} {k n b a s q : Int} (h : Ctl w C k n b a s q) (v : Int) : Ctl (w.setCell ⟨C, 5, none⟩ (.int .i64 v)) C k n b a s v :=
  ⟨(World.cell?_setCell_other _ _ _ _ (by simp)).trans h.c0, (World.cell?_setCell_other _ _ _ _ (by simp)).trans h.c1, (World.cell?_setCell_other _ _ _ _ (by simp)).trans h.c2, (World.cell?_setCell_other _ _ _ _ (by simp)).trans h.c3, (World.cell?_setCell_other _ _ _ _ (by simp)).trans h.c4, World.cell?_setCell_same _ _ _ h.c5,
    (World.frozen?_setCell _ _ _ _).trans h.f0, (World.frozen?_setCell _ _ _ _).trans h.f1, (World.frozen?_setCell _ _ _ _).trans h.f2, (World.frozen?_setCell _ _ _ _).trans h.f3, (World.frozen?_setCell _ _ _ _).trans h.f4, (World.frozen?_setCell _ _ _ _).trans h.f5⟩
theorem Ctl.put {w : World} {C : Nat} {k n b a s q : Int} (h : Ctl w C k n b a s q) (k' n' b' a' s' q' : Int) : Ctl ((((((w.setCell ⟨C, 0, none⟩ (.int .i64 k')).setCell ⟨C, 1, none⟩ (.int .i64 n')).setCell ⟨C, 2, none⟩ (.int .i64 b')).setCell ⟨C, 3, none⟩ (.int .i64 a')).setCell ⟨C, 4, none⟩ (.int .i64 s')).setCell ⟨C, 5, none⟩ (.int .i64 q')) C k' n' b' a' s' q' :=
  (((((h.set0 k').set1 n').set2 b').set3 a').set4 s').set5 q'
theorem Ctl.drew {w : World} {C : Nat} {k n b a s q : Int} (h : Ctl w C k n b a s q) : Ctl w.drew C k n b a s q := h.kept (Below.drew (Below.refl _ _))
/-- one step of a walk that is not taken yet -/
theorem tok : Hid True := trivial
/-- what is behind a call at a world that had one control more -/
theorem up1 {w w1 : World} {o : Obj} (h : Below (w.alloc o).heap.size (w.alloc o) w1) : Below w.heap.size w w1 := bthen (balloc (Below.refl _ _) o) h


end Go.Proofs.Ytbnofjpiioneiaa.L

namespace Go.Proofs.Ytbnofjpiioneiaa.L
open Go.RowKit

theorem partC (xs : Array Value) (i : Nat) (v : Int) (h : xs[i]? = some (.int .i64 v)) (w : World) : (part 3 xs i).run Try.prog w = .ok (.int .i64 v) w := by
  simp [part, go_sem, h]

theorem eqField (xs ys : Array Value) (f : Field) (fs : List Field) (i : Nat) (x y : Int) (w : World) (hn : (f.name == "_") = false) (ht : f.type = 3) (ho : f.offset = i) (hx : xs[i]? = some (.int .i64 x)) (hy : ys[i]? = some (.int .i64 y)) (B : Bool)
    (hr : (Op.eqFields 9999 xs ys fs).run Try.prog w = .ok B w) :
    (Op.eqFields 9999 xs ys (f :: fs)).run Try.prog w = .ok (decide (x = y) && B) w := by
  have hn' : f.name ≠ "_" := by simpa using hn
  rw [Op.eqFields, if_pos hn', ht, ho]
  simp only [Sem.run_bind, partC xs i x hx, partC ys i y hy, Result.andThen_ok, run_equalIn_int w 9998 3 .i64 .i64 x y Try.underlying3]
  by_cases h : x = y
  · simp [h, hr]
  · simp [h]

theorem six {xs : List Field} (h : xs.map (fun f => (f.name == "_", f.type, f.offset)) = [(false, 3, 0), (false, 3, 1), (false, 3, 2), (false, 3, 3), (false, 3, 4), (false, 3, 5)]) :
    ∃ f0 f1 f2 f3 f4 f5, xs = [f0, f1, f2, f3, f4, f5] := by
  have hl : xs.length = 6 := by simpa using congrArg List.length h
  match xs, hl with
  | [f0, f1, f2, f3, f4, f5], _ => exact ⟨f0, f1, f2, f3, f4, f5, rfl⟩
theorem Try.fields23 : (Try.prog.fieldsOf 35).toList.map (fun f => (f.name == "_", f.type, f.offset)) = [(false, 3, 0), (false, 3, 1), (false, 3, 2), (false, 3, 3), (false, 3, 4), (false, 3, 5)] := by kernel_rfl

theorem eqC (k n b a s q k' n' b' a' s' q' : Int) (w : World) :
    (binOp .eql 35 (.agg #[.int .i64 k, .int .i64 n, .int .i64 b, .int .i64 a, .int .i64 s, .int .i64 q]) (.agg #[.int .i64 k', .int .i64 n', .int .i64 b', .int .i64 a', .int .i64 s', .int .i64 q'])).run Try.prog w
      = .ok (.bool (decide (k = k') && (decide (n = n') && (decide (b = b') && (decide (a = a') && (decide (s = s') && (decide (q = q') && true))))))) w := by
  rw [run_eql_struct, run_equalIn_agg (d := 9999) _ _ _ _ (by kernel_rfl) (by kernel_rfl)]
  have hf := Try.fields23
  obtain ⟨f0, f1, f2, f3, f4, f5, e⟩ := six hf
  rw [e] at hf ⊢
  simp only [List.map_cons, List.map_nil, List.cons.injEq, Prod.mk.injEq, and_true] at hf
  obtain ⟨⟨a0, b0, c0⟩, ⟨a1, b1, c1⟩, ⟨a2, b2, c2⟩, ⟨a3, b3, c3⟩, ⟨a4, b4, c4⟩, ⟨a5, b5, c5⟩⟩ := hf
  rw [eqField _ _ f0 _ 0 k k' w a0 b0 c0 rfl rfl _ (eqField _ _ f1 _ 1 n n' w a1 b1 c1 rfl rfl _ (eqField _ _ f2 _ 2 b b' w a2 b2 c2 rfl rfl _ (eqField _ _ f3 _ 3 a a' w a3 b3 c3 rfl rfl _ (eqField _ _ f4 _ 4 s s' w a4 b4 c4 rfl rfl _ (eqField _ _ f5 _ 5 q q' w a5 b5 c5 rfl rfl true (by simp [Op.eqFields]))))))]
  rfl

/-- whether they are the same -/
def sameC (k n b a s q k' n' b' a' s' q' : Int) : Bool := decide (k = k') && (decide (n = n') && (decide (b = b') && (decide (a = a') && (decide (s = s') && (decide (q = q') && true)))))
theorem eqS (k n b a s q k' n' b' a' s' q' : Int) (w : World) :
    (binOp .eql 35 (.agg #[.int .i64 k, .int .i64 n, .int .i64 b, .int .i64 a, .int .i64 s, .int .i64 q]) (.agg #[.int .i64 k', .int .i64 n', .int .i64 b', .int .i64 a', .int .i64 s', .int .i64 q'])).run Try.prog w = .ok (.bool (sameC k n b a s q k' n' b' a' s' q')) w := eqC k n b a s q k' n' b' a' s' q' w
theorem same_is {k n b a s q k' n' b' a' s' q' : Int} : sameC k n b a s q k' n' b' a' s' q' = true ↔ k = k' ∧ n = n' ∧ b = b' ∧ a = a' ∧ s = s' ∧ q = q' := by
  unfold sameC; simp
theorem same_self (k n b a s q : Int) : sameC k n b a s q k n b a s q = true := same_is.2 ⟨rfl, rfl, rfl, rfl, rfl, rfl⟩

end Go.Proofs.Ytbnofjpiioneiaa.L

namespace Go.Proofs.Ytbnofjpiioneiaa.L

/-- a window that may be -/
def clip (n : Int) : Int := min (max n 1) 12
theorem clip_in (n : Int) : 1 ≤ clip n ∧ clip n ≤ 12 := by unfold clip; omega

/-- may it be? -/
def mright (k n b a s q : Int) : Prop := k = 3 ∧ (1 ≤ n ∧ n ≤ 12) ∧ (-1 ≤ b ∧ b ≤ 1099511627776) ∧ a = 0 ∧ s = 0 ∧ (0 ≤ q ∧ q ≤ 3) ∧ (n < 12 ∨ q = 0)
instance (k n b a s q : Int) : Decidable (mright k n b a s q) := by unfold mright; infer_instance
/-- may such a delay be? -/
def inr (x : Int) : Prop := 0 ≤ x ∧ x ≤ 1099511627776
instance (x : Int) : Decidable (inr x) := by unfold inr; infer_instance

/-- the base behind a delay -/
def nb (b d : Int) : Int := if b < 0 ∨ d < b then d else b
/-- by how many fourths it becomes more, behind a wait -/
def gr (x : Int) : Int := max (2 - x) (-2)
/-- how many fourths there may be -/
def bd (c : Int) : Int := min (max c 4) 48
/-- how many fourths it has then -/
def ct (n q x : Int) : Int := bd (4 * n + q + gr x)

theorem nb_in {b d : Int} (hd : inr d) : 0 ≤ nb b d ∧ nb b d ≤ d ∧ nb b d ≤ 1099511627776 ∧ 0 ≤ d - nb b d ∧ d - nb b d ≤ 1099511627776 := by
  unfold inr at hd; unfold nb; split <;> omega
theorem gr_in {x : Int} (hx : 0 ≤ x) : -2 ≤ gr x ∧ gr x ≤ 2 := by unfold gr; omega
theorem bd_in (c : Int) : 4 ≤ bd c ∧ bd c ≤ 48 := by unfold bd; omega
theorem ct_in (n q x : Int) : 4 ≤ ct n q x ∧ ct n q x ≤ 48 := bd_in _
theorem ct_right {n q x : Int} : (1 ≤ ct n q x / 4 ∧ ct n q x / 4 ≤ 12) ∧ (0 ≤ ct n q x % 4 ∧ ct n q x % 4 ≤ 3) ∧ (ct n q x / 4 < 12 ∨ ct n q x % 4 = 0) := by
  have := ct_in n q x; omega

/-- who is later sends no more -/
theorem ct_less {n q b x y : Int} (h : x ≤ y) : ct n q (y - nb b y) / 4 ≤ ct n q (x - nb b x) / 4 := by
  have e : x - nb b x ≤ y - nb b y := by unfold nb; split <;> split <;> omega
  unfold ct bd gr; omega
/-- how long the way is is no matter -/
theorem nb_off {b x y : Int} (hb : 0 ≤ b) (hy : 0 ≤ y) : nb (b + y) (x + y) = nb b x + y := by
  unfold nb
  by_cases h : x < b
  · rw [if_pos (.inr (by omega)), if_pos (.inr h)]
  · rw [if_neg (by omega), if_neg (by omega)]
theorem nb_none (d : Int) : nb (-1) d = d := by unfold nb; rw [if_pos (.inl (by omega))]

end Go.Proofs.Ytbnofjpiioneiaa.L

namespace Go.Proofs.Ytbnofjpiioneiaa.L
open Go.RowKit

theorem within_any (n : Int) (w : World) :
    Calls Try.prog 83 #[.int .i64 n] w fun e w' => e = .returned (.int .i64 (clip n)) ∧ w' = w := by
  go_enter Try.func83, Try.ntmps83
  go_wp2
  go_ret
  exact ⟨rfl, rfl⟩

theorem bounded_any (n : Int) (w : World) :
    Calls Try.prog 85 #[.int .i64 n] w fun e w' => e = .returned (.int .i64 (bd n)) ∧ w' = w := by
  go_enter Try.func85, Try.ntmps85
  go_wp2
  go_ret
  exact ⟨rfl, rfl⟩

theorem growth_any (x : Int) (w : World) (h0 : 0 ≤ x) (h1 : x ≤ 1099511627776) :
    Calls Try.prog 86 #[.int .i64 x] w fun e w' => e = .returned (.int .i64 (gr x)) ∧ w' = w := by
  go_enter Try.func86, Try.ntmps86
  go_wp2
  go_ret
  exact ⟨rfl, rfl⟩

theorem new_any (n : Int) (w : World) :
    Calls Try.prog 65 #[.int .i64 n] w fun e w' => e = .returned (.agg #[.int .i64 3, .int .i64 (clip n), .int .i64 (-1), .int .i64 0, .int .i64 0, .int .i64 0]) ∧ Below w.heap.size w w' := by
  have c := fun v => within_any n v
  generalize clip n = m at c ⊢
  go_enter Try.func65, Try.ntmps65
  go_wp2_with (go_at_call 83; refine (c _).mono ?_; rintro e w'' ⟨rfl, rfl⟩)
  exact bodyPost_ret (v := .agg #[.int .i64 3, .int .i64 m, .int .i64 (-1), .int .i64 0, .int .i64 0, .int .i64 0]) (by simp [results, Try.results65, go_sem]) rfl ⟨rfl, (Below.refl _ _).alloc (Nat.le_refl _) _⟩

/-- may such a part be? -/
def rpart (n q : Int) : Prop := n = 12 ∧ q = 0 ∨ n ≠ 12 ∧ 0 ≤ q ∧ q < 4
instance (n q : Int) : Decidable (rpart n q) := by unfold rpart; infer_instance

set_option maxHeartbeats 1600000 in
theorem part_any (k n b a s q : Int) (w : World) :
    Calls Try.prog 84 #[.agg #[.int .i64 k, .int .i64 n, .int .i64 b, .int .i64 a, .int .i64 s, .int .i64 q]] w fun e w' => e = .returned (.bool (decide (rpart n q))) ∧ Below w.heap.size w w' := by
  by_cases h : n = 12
  · rw [show decide (rpart n q) = (q == 0) by rw [Bool.eq_iff_iff, decide_eq_true_iff, beq_iff_eq]; unfold rpart; omega]
    subst h
    go_enter Try.func84, Try.ntmps84
    go_wp2
    go_ret
    exact ⟨rfl, balloc (Below.refl _ _) _⟩
  · by_cases h2 : 0 ≤ q
    · rw [show decide (rpart n q) = decide (q < 4) by rw [Bool.eq_iff_iff, decide_eq_true_iff, decide_eq_true_iff]; unfold rpart; omega]
      have h2 : decide (0 ≤ q) = true := decide_eq_true h2
      go_enter Try.func84, Try.ntmps84
      go_wp2
      go_ret
      exact ⟨rfl, balloc (Below.refl _ _) _⟩
    · rw [show decide (rpart n q) = false by rw [decide_eq_false_iff_not]; unfold rpart; omega]
      have h2 : decide (0 ≤ q) = false := decide_eq_false h2
      go_enter Try.func84, Try.ntmps84
      go_wp2
      go_ret
      exact ⟨rfl, balloc (Below.refl _ _) _⟩

end Go.Proofs.Ytbnofjpiioneiaa.L

namespace Go.Proofs.Ytbnofjpiioneiaa.L
open Go.RowKit

set_option maxHeartbeats 4000000 in
theorem right_no (k n b a s q m : Int) (w : World) (c : ∀ v, Calls Try.prog 83 #[.int .i64 n] v fun e w' => e = .returned (.int .i64 m) ∧ w' = v) (t0 t1 t2 t3 t4 t5 : Bool) (h0 : (k == 3) = t0) (h1 : (n == m) = t1) (h2 : decide (-1 ≤ b) = t2) (h3 : decide (b ≤ 1099511627776) = t3) (h4 : (a == 0) = t4) (h5 : (s == 0) = t5) (hf : (t0 && (t1 && (t2 && (t3 && (t4 && t5))))) = false) :
    Calls Try.prog 66 #[.agg #[.int .i64 k, .int .i64 n, .int .i64 b, .int .i64 a, .int .i64 s, .int .i64 q]] w fun e w' => e = .returned (.bool false) ∧ Below w.heap.size w w' := by
  obtain ⟨c0, c1, c2, c3, c4, c5, f0, f1, f2, f3, f4, f5⟩ := Ctl.new w _ rfl k n b a s q
  have bb : Below w.heap.size w (w.alloc (.cells #[.int .i64 k, .int .i64 n, .int .i64 b, .int .i64 a, .int .i64 s, .int .i64 q] 35)) := balloc (Below.refl _ _) _
  cases t0
  case' true => cases t1
  case' true.true => cases t2
  case' true.true.true => cases t3
  case' true.true.true.true => cases t4
  case' true.true.true.true.true => cases t5
  case' true.true.true.true.true.true => exact absurd hf (by decide)
  all_goals
    clear hf
    go_enter Try.func66, Try.ntmps66
    go_wp2
    go_quiet ((go_at_call 83; refine (c _).mono ?_; rintro e w'' ⟨rfl, rfl⟩; exact ⟨rfl, _, rfl⟩))
    go_wp2
    go_ret
    exact ⟨rfl, below_drewN bb _⟩

set_option maxHeartbeats 4000000 in
theorem right_part (k n b a s q m : Int) (t : Bool) (w : World) (c : ∀ v, Calls Try.prog 83 #[.int .i64 n] v fun e w' => e = .returned (.int .i64 m) ∧ w' = v) (p : ∀ v, Calls Try.prog 84 #[.agg #[.int .i64 k, .int .i64 n, .int .i64 b, .int .i64 a, .int .i64 s, .int .i64 q]] v fun e w' => e = .returned (.bool t) ∧ Below v.heap.size v w') (h0 : (k == 3) = true) (h1 : (n == m) = true) (h2 : decide (-1 ≤ b) = true) (h3 : decide (b ≤ 1099511627776) = true) (h4 : (a == 0) = true) (h5 : (s == 0) = true) :
    Calls Try.prog 66 #[.agg #[.int .i64 k, .int .i64 n, .int .i64 b, .int .i64 a, .int .i64 s, .int .i64 q]] w fun e w' => e = .returned (.bool t) ∧ Below w.heap.size w w' := by
  have X := Ctl.new w _ rfl k n b a s q
  have bb : Below w.heap.size w (w.alloc (.cells #[.int .i64 k, .int .i64 n, .int .i64 b, .int .i64 a, .int .i64 s, .int .i64 q] 35)) := balloc (Below.refl _ _) _
  go_enter Try.func66, Try.ntmps66
  go_wp2
  generalize w.alloc (.cells #[.int .i64 k, .int .i64 n, .int .i64 b, .int .i64 a, .int .i64 s, .int .i64 q] 35) = v0 at X bb ⊢
  go_region_held3 (fun w' => w'.cell? ⟨w.heap.size, 0, none⟩ = some (.int .i64 k) ∧ w'.cell? ⟨w.heap.size, 1, none⟩ = some (.int .i64 n) ∧ w'.cell? ⟨w.heap.size, 2, none⟩ = some (.int .i64 b) ∧ w'.cell? ⟨w.heap.size, 3, none⟩ = some (.int .i64 a) ∧ w'.cell? ⟨w.heap.size, 4, none⟩ = some (.int .i64 s) ∧ w'.cell? ⟨w.heap.size, 5, none⟩ = some (.int .i64 q)) (exact ⟨X.c0, X.c1, X.c2, X.c3, X.c4, X.c5⟩) (first
    | (go_at_call 83; refine (c _).mono ?_; rintro e v4 ⟨rfl, rfl⟩; clear c; replace bb := Below.drew bb; replace X := X.drew)
    | (go_at_call 84; refine (p _).mono ?_; rintro e v5 ⟨rfl, b5⟩; clear p; replace bb := bthen bb b5; replace X := X.kept b5; clear b5))
  all_goals go_wp2
  all_goals go_ret
  all_goals exact ⟨rfl, bb⟩

theorem right_any (k n b a s q : Int) (w : World) :
    Calls Try.prog 66 #[.agg #[.int .i64 k, .int .i64 n, .int .i64 b, .int .i64 a, .int .i64 s, .int .i64 q]] w fun e w' => e = .returned (.bool (decide (mright k n b a s q))) ∧ Below w.heap.size w w' := by
  by_cases h : k = 3 ∧ n = clip n ∧ -1 ≤ b ∧ b ≤ 1099511627776 ∧ a = 0 ∧ s = 0
  · have := right_part k n b a s q (clip n) _ w (within_any n) (part_any k n b a s q) (by simp [h.1]) (by simp [← h.2.1]) (decide_eq_true h.2.2.1) (decide_eq_true h.2.2.2.1) (by simp [h.2.2.2.2.1]) (by simp [h.2.2.2.2.2])
    rw [show decide (mright k n b a s q) = decide (rpart n q) by
      rw [Bool.eq_iff_iff, decide_eq_true_iff, decide_eq_true_iff]
      unfold mright rpart; unfold clip at h; omega]
    exact this
  · rw [show decide (mright k n b a s q) = false by
      rw [decide_eq_false_iff_not]
      unfold mright; unfold clip at h; omega]
    refine right_no k n b a s q (clip n) w (within_any n) _ _ _ _ _ _ rfl rfl rfl rfl rfl rfl ?_
    rw [← Bool.not_eq_true]
    simp only [Bool.and_eq_true, decide_eq_true_iff, beq_iff_eq]
    exact h

end Go.Proofs.Ytbnofjpiioneiaa.L
