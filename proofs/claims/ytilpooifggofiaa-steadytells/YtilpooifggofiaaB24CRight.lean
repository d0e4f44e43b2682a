/- PROVED: what '==' tells of two controls. a control on plain integers: its way, speed, window and base, the next one; who is later sends no more. what copa.within, New, wayOf, speedOf and Right answer. what copa.Right answers. CONDITIONS: none beyond each theorem's own. -/
import Derived.Test.YtilpooifggofiaaB01Mem
import Derived.Laws.StructEq
import Derived.Test.YtilpooifggofiaaB23CCtl
import Derived.Deep.RegionWith
import Derived.Deep.CutRange
namespace Go.Proofs.Ytilpooifggofiaa.C
open Go.RowKit

theorem partC (xs : Array Value) (i : Nat) (v : Int) (h : xs[i]? = some (.int .i64 v)) (w : World) : (part 3 xs i).run Try.prog w = .ok (.int .i64 v) w := by
  simp [part, go_sem, h]

theorem eqField (xs ys : Array Value) (f : Field) (fs : List Field) (i : Nat) (x y : Int) (w : World) (hn : (f.name == "_") = false) (ht : f.type = 3) (ho : f.offset = i) (hx : xs[i]? = some (.int .i64 x)) (hy : ys[i]? = some (.int .i64 y)) (B : Bool)
    (hr : (Op.eqFields 9999 xs ys fs).run Try.prog w = .ok B w) :
    (Op.eqFields 9999 xs ys (f :: fs)).run Try.prog w = .ok (decide (x = y) && B) w := by
  have hn' : f.name ≠ "_" := by simpa using hn
  rw [Op.eqFields, if_pos hn', ht, ho]
  simp only [Sem.run_bind, partC xs i x hx, partC ys i y hy, Result.andThen_ok, run_equalIn_int w 9998 3 .i64 .i64 x y Try.underlying3]
  by_cases h : x = y
  · simp [h, hr]
  · simp [h]

theorem six {xs : List Field} (h : xs.map (fun f => (f.name == "_", f.type, f.offset)) = [(false, 3, 0), (false, 3, 1), (false, 3, 2), (false, 3, 3), (false, 3, 4), (false, 3, 5)]) :
    ∃ f0 f1 f2 f3 f4 f5, xs = [f0, f1, f2, f3, f4, f5] := by
  have hl : xs.length = 6 := by simpa using congrArg List.length h
  match xs, hl with
  | [f0, f1, f2, f3, f4, f5], _ => exact ⟨f0, f1, f2, f3, f4, f5, rfl⟩
theorem Try.fields23 : (Try.prog.fieldsOf 45).toList.map (fun f => (f.name == "_", f.type, f.offset)) = [(false, 3, 0), (false, 3, 1), (false, 3, 2), (false, 3, 3), (false, 3, 4), (false, 3, 5)] := by kernel_rfl

theorem eqC (k n b a s q k' n' b' a' s' q' : Int) (w : World) :
    (binOp .eql 45 (.agg #[.int .i64 k, .int .i64 n, .int .i64 b, .int .i64 a, .int .i64 s, .int .i64 q]) (.agg #[.int .i64 k', .int .i64 n', .int .i64 b', .int .i64 a', .int .i64 s', .int .i64 q'])).run Try.prog w
      = .ok (.bool (decide (k = k') && (decide (n = n') && (decide (b = b') && (decide (a = a') && (decide (s = s') && (decide (q = q') && true))))))) w := by
  rw [run_eql_struct, run_equalIn_agg (d := 9999) _ _ _ _ (by kernel_rfl) (by kernel_rfl)]
  have hf := Try.fields23
  obtain ⟨f0, f1, f2, f3, f4, f5, e⟩ := six hf
  rw [e] at hf ⊢
  simp only [List.map_cons, List.map_nil, List.cons.injEq, Prod.mk.injEq, and_true] at hf
  obtain ⟨⟨a0, b0, c0⟩, ⟨a1, b1, c1⟩, ⟨a2, b2, c2⟩, ⟨a3, b3, c3⟩, ⟨a4, b4, c4⟩, ⟨a5, b5, c5⟩⟩ := hf
  rw [eqField _ _ f0 _ 0 k k' w a0 b0 c0 rfl rfl _ (eqField _ _ f1 _ 1 n n' w a1 b1 c1 rfl rfl _ (eqField _ _ f2 _ 2 b b' w a2 b2 c2 rfl rfl _ (eqField _ _ f3 _ 3 a a' w a3 b3 c3 rfl rfl _ (eqField _ _ f4 _ 4 s s' w a4 b4 c4 rfl rfl _ (eqField _ _ f5 _ 5 q q' w a5 b5 c5 rfl rfl true (by simp [Op.eqFields]))))))]
  rfl

/-- whether they are the same -/
def sameC (k n b a s q k' n' b' a' s' q' : Int) : Bool := decide (k = k') && (decide (n = n') && (decide (b = b') && (decide (a = a') && (decide (s = s') && (decide (q = q') && true)))))
theorem eqS (k n b a s q k' n' b' a' s' q' : Int) (w : World) :
    (binOp .eql 45 (.agg #[.int .i64 k, .int .i64 n, .int .i64 b, .int .i64 a, .int .i64 s, .int .i64 q]) (.agg #[.int .i64 k', .int .i64 n', .int .i64 b', .int .i64 a', .int .i64 s', .int .i64 q'])).run Try.prog w = .ok (.bool (sameC k n b a s q k' n' b' a' s' q')) w := eqC k n b a s q k' n' b' a' s' q' w
theorem same_is {k n b a s q k' n' b' a' s' q' : Int} : sameC k n b a s q k' n' b' a' s' q' = true ↔ k = k' ∧ n = n' ∧ b = b' ∧ a = a' ∧ s = s' ∧ q = q' := by
  unfold sameC; simp
theorem same_self (k n b a s q : Int) : sameC k n b a s q k n b a s q = true := same_is.2 ⟨rfl, rfl, rfl, rfl, rfl, rfl⟩

end Go.Proofs.Ytilpooifggofiaa.C

namespace Go.Proofs.Ytilpooifggofiaa.C

/-- a window that may be -/
def clip (n : Int) : Int := min (max n 1) 12
theorem clip_in (n : Int) : 1 ≤ clip n ∧ clip n ≤ 12 := by unfold clip; omega
theorem clip_is {n : Int} (h : 1 ≤ n) (h2 : n ≤ 12) : clip n = n := by unfold clip; omega

/-- may it be? -/
def lright (k n b a s q : Int) : Prop := k = 2 ∧ (1 ≤ n ∧ n ≤ 12) ∧ (-1 ≤ b ∧ b ≤ 1099511627776) ∧ (-1 ≤ a ∧ a ≤ 1) ∧ (0 ≤ s ∧ s ≤ 4) ∧ q = 0
instance (k n b a s q : Int) : Decidable (lright k n b a s q) := by unfold lright; infer_instance
/-- may such a delay be? -/
def inr (x : Int) : Prop := 0 ≤ x ∧ x ≤ 1099511627776
instance (x : Int) : Decidable (inr x) := by unfold inr; infer_instance

/-- the base behind a delay -/
def nb (b d : Int) : Int := if b < 0 ∨ d < b then d else b
/-- which way it goes, behind a delay d that is x more than the base -/
def wy (n x d : Int) : Int := if n * x ≤ 2 * (1 + d) then 1 else -1
/-- how fast, on the way y, who went the way a so fast as s -/
def spd (a s y : Int) : Int := if y = a then min (max (2 * s) 1) 4 else 1
/-- the window then -/
def nw (n a s y : Int) : Int := clip (n + y * spd a s y)

theorem nb_in {b d : Int} (hd : inr d) : 0 ≤ nb b d ∧ nb b d ≤ d ∧ nb b d ≤ 1099511627776 ∧ 0 ≤ d - nb b d ∧ d - nb b d ≤ 1099511627776 := by
  unfold inr at hd; unfold nb; split <;> omega
theorem wy_is (n x d : Int) : wy n x d = 1 ∨ wy n x d = -1 := by unfold wy; split <;> simp
theorem spd_in (a s y : Int) : 1 ≤ spd a s y ∧ spd a s y ≤ 4 := by unfold spd; split <;> omega
theorem nw_in (n a s y : Int) : 1 ≤ nw n a s y ∧ nw n a s y ≤ 12 := clip_in _

/-- what the window is held against, by division -/
theorem wy_div {n x d : Int} (hx : 0 < x) : n ≤ 2 * (1 + d) / x ↔ n * x ≤ 2 * (1 + d) := Int.le_ediv_iff_mul_le hx

/-- who is later goes up no sooner -/
theorem wy_later {n b x y : Int} (hn : 1 ≤ n) (hx : 0 ≤ x) (h : x ≤ y) (hy : n * (y - nb b y) ≤ 2 * (1 + y)) : n * (x - nb b x) ≤ 2 * (1 + x) := by
  have key : n * (x - nb b x) * (1 + y) ≤ n * (y - nb b y) * (1 + x) := by
    rw [Int.mul_assoc, Int.mul_assoc]
    apply Int.mul_le_mul_of_nonneg_left _ (by omega)
    unfold nb
    split
    · rw [Int.sub_self, Int.zero_mul]
      exact Int.mul_nonneg (by split <;> omega) (by omega)
    · rw [if_neg (by omega)]
      have hb : (x - b) * (1 + y) = x + x * y - b - b * y := by rw [Int.sub_mul, Int.mul_add, Int.mul_add, Int.mul_one, Int.mul_one]; omega
      have hc : (y - b) * (1 + x) = y + x * y - b - b * x := by rw [Int.sub_mul, Int.mul_add, Int.mul_add, Int.mul_one, Int.mul_one, Int.mul_comm y x]; omega
      have hd : b * x ≤ b * y := Int.mul_le_mul_of_nonneg_left h (by omega)
      omega
  have h2 : n * (y - nb b y) * (1 + x) ≤ 2 * (1 + y) * (1 + x) := Int.mul_le_mul_of_nonneg_right hy (by omega)
  have h3 : 2 * (1 + y) * (1 + x) = 2 * (1 + x) * (1 + y) := by rw [Int.mul_assoc, Int.mul_comm (1 + y) (1 + x), ← Int.mul_assoc]
  exact Int.le_of_mul_le_mul_right (by omega : n * (x - nb b x) * (1 + y) ≤ 2 * (1 + x) * (1 + y)) (by omega)
/-- who is later sends no more -/
theorem nw_yields {n b a s x y : Int} (hn : 1 ≤ n) (hx : 0 ≤ x) (h : x ≤ y) : nw n a s (wy n (y - nb b y) y) ≤ nw n a s (wy n (x - nb b x) x) := by
  by_cases hy : n * (y - nb b y) ≤ 2 * (1 + y)
  · have := wy_later hn hx h hy
    unfold wy; rw [if_pos hy, if_pos this]; omega
  · by_cases hx2 : n * (x - nb b x) ≤ 2 * (1 + x)
    · unfold wy; rw [if_neg hy, if_pos hx2]
      have h1 := spd_in a s 1
      have h2 := spd_in a s (-1)
      unfold nw clip; omega
    · unfold wy; rw [if_neg hy, if_neg hx2]; omega

/-- who turns goes by one -/
theorem nw_turns {n a s y : Int} (hn : 1 ≤ n ∧ n ≤ 12) (hy : y = 1 ∨ y = -1) (h : y ≠ a) : spd a s y = 1 ∧ n - 1 ≤ nw n a s y ∧ nw n a s y ≤ n + 1 := by
  have e : spd a s y = 1 := by unfold spd; rw [if_neg h]
  refine ⟨e, ?_⟩
  unfold nw clip; rw [e]; rcases hy with rfl | rfl <;> omega
/-- who goes on goes by no more than the speed -/
theorem nw_goes {n a s y : Int} (hn : 1 ≤ n ∧ n ≤ 12) (hy : y = 1 ∨ y = -1) : 0 ≤ (nw n a s y - n) * y ∧ (nw n a s y - n) * y ≤ spd a s y := by
  have h1 := spd_in a s y
  unfold nw clip
  generalize spd a s y = S at h1 ⊢
  rcases hy with rfl | rfl <;> omega

end Go.Proofs.Ytilpooifggofiaa.C

namespace Go.Proofs.Ytilpooifggofiaa.C
open Go.RowKit

theorem within_any (n : Int) (w : World) :
    Calls Try.prog 63 #[.int .i64 n] w fun e w' => e = .returned (.int .i64 (clip n)) ∧ w' = w := by
  go_enter Try.func63, Try.ntmps63
  go_wp2
  go_ret
  exact ⟨rfl, rfl⟩

theorem new_any (n : Int) (w : World) :
    Calls Try.prog 47 #[.int .i64 n] w fun e w' => e = .returned (.agg #[.int .i64 2, .int .i64 (clip n), .int .i64 (-1), .int .i64 0, .int .i64 0, .int .i64 0]) ∧ Below w.heap.size w w' := by
  have c := fun v => within_any n v
  generalize clip n = m at c ⊢
  go_enter Try.func47, Try.ntmps47
  go_wp2_with (go_at_call 63; refine (c _).mono ?_; rintro e w'' ⟨rfl, rfl⟩)
  exact bodyPost_ret (v := .agg #[.int .i64 2, .int .i64 m, .int .i64 (-1), .int .i64 0, .int .i64 0, .int .i64 0]) (by simp [results, Try.results47, go_sem]) rfl ⟨rfl, (Below.refl _ _).alloc (Nat.le_refl _) _⟩

theorem way_of (n x d y m : Int) (w : World) (hd0 : 0 ≤ d) (hd1 : d ≤ 1099511627776) (h : x = 0 ∧ y = 1 ∨ (x == 0) = false ∧ ¬ x = 0 ∧ (2 * (1 + d)).tdiv x = m ∧ 0 ≤ m ∧ m ≤ 2199023255554 ∧ (decide (n ≤ m) = true ∧ y = 1 ∨ decide (n ≤ m) = false ∧ y = -1)) :
    Calls Try.prog 64 #[.int .i64 n, .int .i64 x, .int .i64 d] w fun e w' => e = .returned (.int .i64 y) ∧ w' = w := by
  rcases h with ⟨rfl, rfl⟩ | ⟨h0, hx, hm, hm0, hm1, ⟨h2, rfl⟩ | ⟨h2, rfl⟩⟩
  all_goals
    go_enter Try.func64, Try.ntmps64
    go_wp2
    go_ret
    exact ⟨rfl, rfl⟩

theorem way_any (n x d : Int) (w : World) (hx0 : 0 ≤ x) (hd0 : 0 ≤ d) (hd1 : d ≤ 1099511627776) :
    Calls Try.prog 64 #[.int .i64 n, .int .i64 x, .int .i64 d] w fun e w' => e = .returned (.int .i64 (wy n x d)) ∧ w' = w := by
  by_cases h : x = 0
  · refine way_of n x d _ 0 w hd0 hd1 (.inl ⟨h, ?_⟩)
    unfold wy; rw [h, Int.mul_zero, if_pos (by omega)]
  · have h0 : 0 < x := by omega
    have q := wy_div (n := n) (d := d) h0
    have tv : (2 * (1 + d)).tdiv x = 2 * (1 + d) / x := Int.tdiv_eq_ediv_of_nonneg (by omega)
    have m0 : 0 ≤ 2 * (1 + d) / x := Int.ediv_nonneg (by omega) (by omega)
    have m1 : 2 * (1 + d) / x ≤ 2 * (1 + d) := Int.ediv_le_self _ (by omega)
    refine way_of n x d _ _ w hd0 hd1 (.inr ⟨by simpa using h, h, tv, m0, by omega, ?_⟩)
    unfold wy
    by_cases c : n * x ≤ 2 * (1 + d)
    · exact .inl ⟨decide_eq_true (q.2 c), if_pos c⟩
    · exact .inr ⟨decide_eq_false fun h => c (q.1 h), if_neg c⟩

set_option maxHeartbeats 1600000 in
theorem speed_any (k n b a s q y : Int) (w : World) (hs0 : 0 ≤ s) (hs1 : s ≤ 4) :
    Calls Try.prog 65 #[.agg #[.int .i64 k, .int .i64 n, .int .i64 b, .int .i64 a, .int .i64 s, .int .i64 q], .int .i64 y] w fun e w' => e = .returned (.int .i64 (spd a s y)) ∧ Below w.heap.size w w' := by
  by_cases h : y = a
  · rw [show spd a s y = min (max (2 * s) 1) 4 by unfold spd; rw [if_pos h]]
    subst h
    go_enter Try.func65, Try.ntmps65
    go_wp2
    go_ret
    exact ⟨rfl, balloc (Below.refl _ _) _⟩
  · rw [show spd a s y = 1 by unfold spd; rw [if_neg h]]
    go_enter Try.func65, Try.ntmps65
    go_wp2
    go_ret
    exact ⟨rfl, balloc (Below.refl _ _) _⟩

end Go.Proofs.Ytilpooifggofiaa.C

namespace Go.Proofs.Ytilpooifggofiaa.C
open Go.RowKit

set_option maxHeartbeats 4000000 in
theorem right_of (k n b a s q m : Int) (w : World) (c : ∀ v, Calls Try.prog 63 #[.int .i64 n] v fun e w' => e = .returned (.int .i64 m) ∧ w' = v) (t0 t1 t2 t3 t4 t5 t6 t7 t8 : Bool) (h0 : (k == 2) = t0) (h1 : (n == m) = t1) (h2 : (q == 0) = t2) (h3 : decide (-1 ≤ b) = t3) (h4 : decide (b ≤ 1099511627776) = t4) (h5 : decide (-1 ≤ a) = t5) (h6 : decide (a ≤ 1) = t6) (h7 : decide (0 ≤ s) = t7) (h8 : decide (s ≤ 4) = t8) :
    Calls Try.prog 48 #[.agg #[.int .i64 k, .int .i64 n, .int .i64 b, .int .i64 a, .int .i64 s, .int .i64 q]] w fun e w' => e = .returned (.bool (t0 && (t1 && (t2 && (t3 && (t4 && (t5 && (t6 && (t7 && t8))))))))) ∧ Below w.heap.size w w' := by
  obtain ⟨c0, c1, c2, c3, c4, c5, f0, f1, f2, f3, f4, f5⟩ := Ctl.new w _ rfl k n b a s q
  have bb : Below w.heap.size w (w.alloc (.cells #[.int .i64 k, .int .i64 n, .int .i64 b, .int .i64 a, .int .i64 s, .int .i64 q] 45)) := balloc (Below.refl _ _) _
  cases t0
  case' true => cases t1
  case' true.true => cases t2
  case' true.true.true => cases t3
  case' true.true.true.true => cases t4
  case' true.true.true.true.true => cases t5
  case' true.true.true.true.true.true => cases t6
  case' true.true.true.true.true.true.true => cases t7
  case' true.true.true.true.true.true.true.true => cases t8
  all_goals
    go_enter Try.func48, Try.ntmps48
    go_wp2
    go_quiet ((go_at_call 63; refine (c _).mono ?_; rintro e w'' ⟨rfl, rfl⟩; exact ⟨rfl, _, rfl⟩))
    go_wp2
    go_ret
    exact ⟨rfl, below_drewN bb _⟩

theorem right_any (k n b a s q : Int) (w : World) :
    Calls Try.prog 48 #[.agg #[.int .i64 k, .int .i64 n, .int .i64 b, .int .i64 a, .int .i64 s, .int .i64 q]] w fun e w' => e = .returned (.bool (decide (lright k n b a s q))) ∧ Below w.heap.size w w' := by
  have := right_of k n b a s q (clip n) w (within_any n) _ _ _ _ _ _ _ _ _ rfl rfl rfl rfl rfl rfl rfl rfl rfl
  rw [show (k == 2 && (n == clip n && (q == 0 && (decide (-1 ≤ b) && (decide (b ≤ 1099511627776) && (decide (-1 ≤ a) && (decide (a ≤ 1) && (decide (0 ≤ s) && decide (s ≤ 4))))))))) = decide (lright k n b a s q) by
    rw [Bool.eq_iff_iff]
    simp only [Bool.and_eq_true, decide_eq_true_iff, beq_iff_eq]
    unfold lright clip
    omega] at this
  exact this

end Go.Proofs.Ytilpooifggofiaa.C
