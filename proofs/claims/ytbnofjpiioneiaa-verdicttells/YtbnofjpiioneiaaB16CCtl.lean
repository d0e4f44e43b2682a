/- PROVED: what duel.senderOf, within answer. what duel.Wrong answers. a control on plain integers: its window, base and wait, the next one; who is later sends no more; who has what it aims at rests. what vegas.within, New and Right answer. a control of the call's own, in memory: its six cells. CONDITIONS: none beyond each theorem's own. -/
import Derived.Test.YtbnofjpiioneiaaB01DMem
import Derived.Test.YtbnofjpiioneiaaB14Lif
import Derived.Laws.EntriesVeiled
import Derived.Test.YtbnofjpiioneiaaB02KDuel
import Derived.Test.YtbnofjpiioneiaaB06DSame
import Derived.Deep.RegionWith
import Derived.Deep.CutRange
import Derived.Test.YtbnofjpiioneiaaB00Mem
namespace Go.Proofs.Ytbnofjpiioneiaa.D
open Go.RowKit K

/-- the functions of a kind: New, Right, Next -/
def stF (k : Int) : Nat := if k = 1 then 59 else if k = 2 then 62 else 65
def rtF (k : Int) : Nat := if k = 1 then 60 else if k = 2 then 63 else 66
def nxF (k : Int) : Nat := if k = 1 then 61 else if k = 2 then 64 else 67

theorem sender_yes (k : Int) (h : 1 ≤ k ∧ k ≤ 3) (w : World) :
    Calls Try.prog 44 #[.int .i64 k] w fun e w' => e = .returned (.tuple #[.agg #[.func (.func (stF k)) #[] #[], .func (.func (rtF k)) #[] #[], .func (.func (nxF k)) #[] #[]], .bool true]) ∧ Below w.heap.size w w' := by
  obtain rfl | rfl | rfl : k = 1 ∨ k = 2 ∨ k = 3 := by omega
  all_goals
    clear h
    go_enter Try.func44, Try.ntmps44
    go_wp2
    refine bodyPost_ret (by simp [results, Try.results44, go_sem, stF, rtF, nxF]) rfl ⟨rfl, ?_⟩
    repeat (with_reducible refine Below.setCell ?_ (by simp) _)
    exact balloc (Below.refl _ _) _

theorem sender_no (k : Int) (h1 : (k == 1) = false) (h2 : (k == 2) = false) (h3 : (k == 3) = false) (w : World) :
    Calls Try.prog 44 #[.int .i64 k] w fun e w' => e = .returned (.tuple #[.agg #[.nilFunc, .nilFunc, .nilFunc], .bool false]) ∧ Below w.heap.size w w' := by
  go_enter Try.func44, Try.ntmps44
  go_wp2
  refine bodyPost_ret (by simp [results, Try.results44, go_sem]) rfl ⟨rfl, ?_⟩
  repeat (with_reducible refine Below.setCell ?_ (by simp) _)
  exact balloc (Below.refl _ _) _

/-- what a kind offers, in block C -/
structure Snd (w : World) (C : Nat) (P Q S : Nat) : Prop where
  c0 : w.cell? ⟨C, 0, none⟩ = some (.func (.func P) #[] #[])
  c1 : w.cell? ⟨C, 1, none⟩ = some (.func (.func Q) #[] #[])
  c2 : w.cell? ⟨C, 2, none⟩ = some (.func (.func S) #[] #[])
theorem Snd.new (w : World) (C : Nat) (hC : C = w.heap.size) (P Q S : Nat) : Snd (w.alloc (.cells #[.func (.func P) #[] #[], .func (.func Q) #[] #[], .func (.func S) #[] #[]] 106)) C P Q S := by
  subst hC
  constructor <;> (rw [World.cell?_alloc_at _ _ _ _ rfl]; rfl)
theorem Snd.kept {w w' : World} {C P Q S : Nat} (h : Snd w C P Q S) (g : Below w.heap.size w w') : Snd w' C P Q S := by
  have hl : C < w.heap.size := block_lt h.c0
  exact ⟨(g.cell (p := ⟨C, 0, none⟩) hl).trans h.c0, (g.cell (p := ⟨C, 1, none⟩) hl).trans h.c1, (g.cell (p := ⟨C, 2, none⟩) hl).trans h.c2⟩
theorem Snd.far {w : World} {C P Q S D o : Nat} (h : Snd w C P Q S) (hD : D ≠ C) (v : Value) : Snd (w.setCell ⟨D, o, none⟩ v) C P Q S :=
  ⟨(World.cell?_setCell_other _ _ _ _ (fun p => hD (by injection p))).trans h.c0, (World.cell?_setCell_other _ _ _ _ (fun p => hD (by injection p))).trans h.c1, (World.cell?_setCell_other _ _ _ _ (fun p => hD (by injection p))).trans h.c2⟩
theorem Snd.drew {w : World} {C P Q S : Nat} (h : Snd w C P Q S) : Snd w.drew C P Q S := h.kept (below_drewN (Below.refl _ _) 1)

theorem within_any (n l h : Int) (w : World) :
    Calls Try.prog 58 #[.int .i64 n, .int .i64 l, .int .i64 h] w fun e w' => e = .returned (.bool (decide (l ≤ n) && decide (n ≤ h))) ∧ w' = w := by
  by_cases h1 : l ≤ n
  · go_enter Try.func58, Try.ntmps58
    go_wp2
    go_ret
    exact ⟨by simp [h1], rfl⟩
  · have h2 : decide (l ≤ n) = false := decide_eq_false h1
    go_enter Try.func58, Try.ntmps58
    go_wp2
    go_ret
    exact ⟨by simp, rfl⟩
theorem within_is (n l h : Int) (t : Bool) (e : (decide (l ≤ n) && decide (n ≤ h)) = t) (w : World) :
    Calls Try.prog 58 #[.int .i64 n, .int .i64 l, .int .i64 h] w fun e w' => e = .returned (.bool t) ∧ w' = w := by
  subst e; exact within_any n l h w

end Go.Proofs.Ytbnofjpiioneiaa.D

namespace Go.Proofs.Ytbnofjpiioneiaa.D
open Go.RowKit K
attribute [local go_sem] idx0 idx1

set_option maxHeartbeats 3200000 in
theorem wrong_of (k0 k1 r m j : Int) (w : World) (t0 t1 t2 t3 t4 : Bool) (A0 B0 C0 A1 B1 C1 : Value)
    (h0 : (∃ a b c, t0 = true ∧ A0 = .func (.func a) #[] #[] ∧ B0 = .func (.func b) #[] #[] ∧ C0 = .func (.func c) #[] #[]) ∨ t0 = false ∧ A0 = .nilFunc ∧ B0 = .nilFunc ∧ C0 = .nilFunc)
    (h1 : (∃ a b c, t1 = true ∧ A1 = .func (.func a) #[] #[] ∧ B1 = .func (.func b) #[] #[] ∧ C1 = .func (.func c) #[] #[]) ∨ t1 = false ∧ A1 = .nilFunc ∧ B1 = .nilFunc ∧ C1 = .nilFunc)
    (s0 : ∀ v, Calls Try.prog 44 #[.int .i64 k0] v fun e w' => e = .returned (.tuple #[.agg #[A0, B0, C0], .bool t0]) ∧ Below v.heap.size v w')
    (s1 : ∀ v, Calls Try.prog 44 #[.int .i64 k1] v fun e w' => e = .returned (.tuple #[.agg #[A1, B1, C1], .bool t1]) ∧ Below v.heap.size v w')
    (c2 : ∀ v, Calls Try.prog 58 #[.int .i64 r, .int .i64 1, .int .i64 12] v fun e w' => e = .returned (.bool t2) ∧ w' = v)
    (c3 : ∀ v, Calls Try.prog 58 #[.int .i64 m, .int .i64 0, .int .i64 16] v fun e w' => e = .returned (.bool t3) ∧ w' = v)
    (c4 : ∀ v, Calls Try.prog 58 #[.int .i64 j, .int .i64 0, .int .i64 3] v fun e w' => e = .returned (.bool t4) ∧ w' = v) :
    Calls Try.prog 43 #[.agg #[.int .i64 k0, .int .i64 k1, .int .i64 r, .int .i64 m, .int .i64 j]] w fun e w' => e = .returned (.int .i64 (if t0 && t1 then if t2 && (t3 && t4) then 0 else 2 else 5)) ∧ Below w.heap.size w w' := by
  have X := Rul.new w _ rfl k0 k1 r m j
  have B : Below w.heap.size w (w.alloc (.cells #[.int .i64 k0, .int .i64 k1, .int .i64 r, .int .i64 m, .int .i64 j] 24)) := balloc (Below.refl _ _) _
  obtain ⟨x0, x1, _, _, _, _, _, _, _, _⟩ := id X
  go_enter Try.func43, Try.ntmps43
  go_wp2
  clear x0 x1
  go_loopw [9] (fun i wr => (i = .int .i64 0 ∨ i = .int .i64 1 ∧ t0 = true ∨ i = .int .i64 2 ∧ t0 = true ∧ t1 = true) ∧ Rul wr w.heap.size k0 k1 r m j ∧ Below w.heap.size w wr) (fun i _ => 2 - (intOf i).toNat)
  case atStart => exact ⟨.inl rfl, X, B⟩
  case round =>
    clear X B
    obtain ⟨rfl | ⟨rfl, rfl⟩ | ⟨rfl, rfl, rfl⟩, X, B⟩ := hrel
    · clear s1 c2 c3 c4 h1
      rcases h0 with ⟨P, Q, S, rfl, rfl, rfl, rfl⟩ | ⟨rfl, rfl, rfl, rfl⟩
      all_goals go_wp2_with (go_at_call 44; refine (s0 _).mono ?_; clear s0; rintro x v1 ⟨rfl, b⟩; replace X := X.kept b; replace B := bthen B b; clear b)
      · go_roundw
        case rel => exact ⟨.inr (.inl ⟨rfl, by first | rfl | trivial⟩), X.alloc _, balloc B _⟩
        case measure => simp [intOf]
      · go_ret
        exact ⟨rfl, balloc B _⟩
    · clear s0 c2 c3 c4 h0
      rcases h1 with ⟨P, Q, S, rfl, rfl, rfl, rfl⟩ | ⟨rfl, rfl, rfl, rfl⟩
      all_goals go_wp2_with (go_at_call 44; refine (s1 _).mono ?_; clear s1; rintro x v1 ⟨rfl, b⟩; replace X := X.kept b; replace B := bthen B b; clear b)
      · go_roundw
        case rel => exact ⟨.inr (.inr ⟨rfl, by first | rfl | trivial, by first | rfl | trivial⟩), X.alloc _, balloc B _⟩
        case measure => simp [intOf]
      · go_ret
        exact ⟨rfl, balloc B _⟩
    · obtain ⟨_, _, x2, x3, x4, _, _, _, _, _⟩ := id X
      clear s0 s1 h0 h1
      cases t2
      case' true => cases t3
      case' true.true => cases t4
      all_goals
        go_wp2_with (first
          | (go_at_call 58; refine (c2 _).mono ?_; clear c2; rintro x v1 ⟨rfl, rfl⟩)
          | (go_at_call 58; refine (c3 _).mono ?_; clear c3; rintro x v1 ⟨rfl, rfl⟩)
          | (go_at_call 58; refine (c4 _).mono ?_; clear c4; rintro x v1 ⟨rfl, rfl⟩))
        go_ret
        exact ⟨rfl, B⟩

theorem sender_any (k : Int) : ∃ A B C, ((∃ a b c, (decide (1 ≤ k) && decide (k ≤ 3)) = true ∧ A = .func (.func a) #[] #[] ∧ B = .func (.func b) #[] #[] ∧ C = .func (.func c) #[] #[]) ∨ (decide (1 ≤ k) && decide (k ≤ 3)) = false ∧ A = .nilFunc ∧ B = .nilFunc ∧ C = .nilFunc) ∧ ∀ w, Calls Try.prog 44 #[.int .i64 k] w fun e w' => e = .returned (.tuple #[.agg #[A, B, C], .bool (decide (1 ≤ k) && decide (k ≤ 3))]) ∧ Below w.heap.size w w' := by
  by_cases h : 1 ≤ k ∧ k ≤ 3
  · have e : (decide (1 ≤ k) && decide (k ≤ 3)) = true := by simp [h]
    rw [e]
    refine ⟨_, _, _, .inl ⟨stF k, rtF k, nxF k, rfl, rfl, rfl, rfl⟩, fun w => ?_⟩
    exact sender_yes k h w
  · have e : (decide (1 ≤ k) && decide (k ≤ 3)) = false := by simp; omega
    rw [e]
    refine ⟨_, _, _, .inr ⟨rfl, rfl, rfl, rfl⟩, fun w => ?_⟩
    exact sender_no k (by simp; omega) (by simp; omega) (by simp; omega) w

theorem wrong_any (r : Ru) (w : World) :
    Calls Try.prog 43 #[.agg #[.int .i64 r.k0, .int .i64 r.k1, .int .i64 r.r, .int .i64 r.m, .int .i64 r.j]] w fun e w' => e = .returned (.int .i64 (wrong r)) ∧ Below w.heap.size w w' := by
  obtain ⟨A0, B0, C0, h0, s0⟩ := sender_any r.k0
  obtain ⟨A1, B1, C1, h1, s1⟩ := sender_any r.k1
  refine (wrong_of r.k0 r.k1 r.r r.m r.j w _ _ _ _ _ A0 B0 C0 A1 B1 C1 h0 h1 s0 s1 (within_any _ _ _) (within_any _ _ _) (within_any _ _ _)).mono ?_
  rintro e w' ⟨rfl, b⟩
  refine ⟨?_, b⟩
  congr 2
  unfold wrong
  by_cases hk : kinds r
  · rw [if_pos hk]
    unfold kinds at hk
    rw [if_pos (by simp only [Bool.and_eq_true, decide_eq_true_iff]; omega)]
    by_cases hr : ranges r
    · rw [if_pos hr]
      unfold ranges at hr
      rw [if_pos (by simp only [Bool.and_eq_true, decide_eq_true_iff]; omega)]
    · rw [if_neg hr]
      unfold ranges at hr
      rw [if_neg (by simp only [Bool.and_eq_true, decide_eq_true_iff]; omega)]
  · rw [if_neg hk]
    unfold kinds at hk
    rw [if_neg (by simp only [Bool.and_eq_true, decide_eq_true_iff]; omega)]
theorem wrong_is (r : Ru) (e : Int) (h : wrong r = e) (w : World) :
    Calls Try.prog 43 #[.agg #[.int .i64 r.k0, .int .i64 r.k1, .int .i64 r.r, .int .i64 r.m, .int .i64 r.j]] w fun x w' => x = .returned (.int .i64 e) ∧ Below w.heap.size w w' := by subst h; exact wrong_any r w

end Go.Proofs.Ytbnofjpiioneiaa.D

namespace Go.Proofs.Ytbnofjpiioneiaa.V

/-- a window that may be -/
def clip (n : Int) : Int := min (max n 1) 12
theorem clip_in (n : Int) : 1 ≤ clip n ∧ clip n ≤ 12 := by unfold clip; omega
theorem clip_is {n : Int} (h : 1 ≤ n) (h2 : n ≤ 12) : clip n = n := by unfold clip; omega

/-- may it be? -/
def kright (k n b a s q : Int) : Prop := k = 1 ∧ (1 ≤ n ∧ n ≤ 12) ∧ (-1 ≤ b ∧ b ≤ 1099511627776) ∧ a = 0 ∧ s = 0 ∧ q = 0
instance (k n b a s q : Int) : Decidable (kright k n b a s q) := by unfold kright; infer_instance
/-- may such a delay be? -/
def inr (x : Int) : Prop := 0 ≤ x ∧ x ≤ 1099511627776
instance (x : Int) : Decidable (inr x) := by unfold inr; infer_instance

/-- the base behind a delay -/
def nb (b d : Int) : Int := if b < 0 ∨ d < b then d else b
/-- the window behind a delay that is x more than the base -/
def nw (n x d : Int) : Int := if n * x < 1 + d then clip (n + 1) else if 3 * (1 + d) ≤ n * x then clip (n - 1) else n
theorem nb_in {b d : Int} (hd : inr d) : 0 ≤ nb b d ∧ nb b d ≤ d ∧ nb b d ≤ 1099511627776 ∧ 0 ≤ d - nb b d ∧ d - nb b d ≤ 1099511627776 := by
  unfold inr at hd; unfold nb; split <;> omega
theorem nb_least {b d : Int} (hb : -1 ≤ b) (hd : 0 ≤ d) (L : Int) (hL : b = -1 ∧ d ≤ L ∨ 0 ≤ b ∧ b = L) : nb b d = min L d := by
  unfold nb; split <;> omega
theorem nw_in {n : Int} (x d : Int) (h : 1 ≤ n ∧ n ≤ 12) : 1 ≤ nw n x d ∧ nw n x d ≤ 12 := by
  unfold nw; split
  · exact clip_in _
  · split
    · exact clip_in _
    · exact h
theorem nw_near {n : Int} (x d : Int) (h : 1 ≤ n ∧ n ≤ 12) : n - 1 ≤ nw n x d ∧ nw n x d ≤ n + 1 := by
  unfold nw clip; split
  · omega
  · split <;> omega
theorem mul_in {n x : Int} (h : 1 ≤ n ∧ n ≤ 12) (h0 : 0 ≤ x) (h1 : x ≤ 1099511627776) : 0 ≤ n * x ∧ n * x ≤ 13194139533312 := by
  refine ⟨Int.mul_nonneg (by omega) h0, ?_⟩
  have : n * x ≤ 12 * x := Int.mul_le_mul_of_nonneg_right (by omega) h0
  omega
/-- how many more are on their way, by division -/
theorem more_lt {p d : Int} (hd : 0 ≤ d) : (p / (1 + d) < 1 ↔ p < 1 + d) ∧ (2 < p / (1 + d) ↔ 3 * (1 + d) ≤ p) := by
  refine ⟨?_, ?_⟩
  · rw [Int.ediv_lt_iff_lt_mul (by omega)]; omega
  · rw [show (2 < p / (1 + d)) ↔ (3 ≤ p / (1 + d)) by omega, Int.le_ediv_iff_mul_le (by omega)]

theorem cross {c p q x y : Int} (hx : 0 ≤ x) (hy : 0 ≤ y) (h : c * (1 + x) ≤ p) (k : p * (1 + y) ≤ q * (1 + x)) : c * (1 + y) ≤ q := by
  have h1 : c * (1 + x) * (1 + y) ≤ p * (1 + y) := Int.mul_le_mul_of_nonneg_right h (by omega)
  have h2 : c * (1 + y) * (1 + x) ≤ q * (1 + x) := by
    rw [Int.mul_assoc, Int.mul_comm (1 + y) (1 + x), ← Int.mul_assoc]; omega
  exact Int.le_of_mul_le_mul_right h2 (by omega)
/-- who is later sends no more -/
theorem nw_yields {n b x y : Int} (hn : 1 ≤ n ∧ n ≤ 12) (hx : 0 ≤ x) (h : x ≤ y) : nw n (y - nb b y) y ≤ nw n (x - nb b x) x := by
  have key : n * (x - nb b x) * (1 + y) ≤ n * (y - nb b y) * (1 + x) := by
    rw [Int.mul_assoc, Int.mul_assoc]
    apply Int.mul_le_mul_of_nonneg_left _ (by omega)
    unfold nb
    split
    · rw [Int.sub_self, Int.zero_mul]
      exact Int.mul_nonneg (by split <;> omega) (by omega)
    · rw [if_neg (by omega)]
      have hb : (x - b) * (1 + y) = x + x * y - b - b * y := by rw [Int.sub_mul, Int.mul_add, Int.mul_add, Int.mul_one, Int.mul_one]; omega
      have hc : (y - b) * (1 + x) = y + x * y - b - b * x := by rw [Int.sub_mul, Int.mul_add, Int.mul_add, Int.mul_one, Int.mul_one, Int.mul_comm y x]; omega
      have hd : b * x ≤ b * y := Int.mul_le_mul_of_nonneg_left h (by omega)
      omega
  generalize x - nb b x = u at key ⊢
  generalize y - nb b y = v at key ⊢
  unfold nw
  generalize n * u = p at key ⊢
  generalize n * v = q at key ⊢
  have k1 := cross (c := 1) hx (by omega : 0 ≤ y) (p := p) (q := q)
  have k3 := cross (c := 3) hx (by omega : 0 ≤ y) (p := p) (q := q)
  unfold clip
  by_cases h1 : p < 1 + x
  · rw [if_pos h1]; split
    · omega
    · split <;> omega
  · rw [if_neg h1]
    have := k1 (by omega) key
    rw [if_neg (by omega : ¬ q < 1 + y)]
    by_cases h3 : 3 * (1 + x) ≤ p
    · have := k3 h3 key
      rw [if_pos h3, if_pos this]; omega
    · rw [if_neg h3]; split <;> omega
/-- the same delay again: its base is the base -/
theorem nb_again (b d : Int) : nb (nb b d) d = nb b d := by
  unfold nb
  by_cases h : b < 0 ∨ d < b
  · rw [if_pos h]; split <;> rfl
  · rw [if_neg h, if_neg h]
/-- who has what it aims at rests -/
theorem nw_rests (n b d : Int) (h : nw n (d - nb b d) d = n) : nw (nw n (d - nb b d) d) (d - nb (nb b d) d) d = nw n (d - nb b d) d := by
  rw [nb_again b d, h, h]

end Go.Proofs.Ytbnofjpiioneiaa.V

namespace Go.Proofs.Ytbnofjpiioneiaa.V
open Go.RowKit

theorem within_any (n : Int) (w : World) :
    Calls Try.prog 79 #[.int .i64 n] w fun e w' => e = .returned (.int .i64 (clip n)) ∧ w' = w := by
  go_enter Try.func79, Try.ntmps79
  go_wp2
  go_ret
  exact ⟨rfl, rfl⟩

theorem new_any (n : Int) (w : World) :
    Calls Try.prog 59 #[.int .i64 n] w fun e w' => e = .returned (.agg #[.int .i64 1, .int .i64 (clip n), .int .i64 (-1), .int .i64 0, .int .i64 0, .int .i64 0]) ∧ Below w.heap.size w w' := by
  have c := fun v => within_any n v
  generalize clip n = m at c ⊢
  go_enter Try.func59, Try.ntmps59
  go_wp2_with (go_at_call 79; refine (c _).mono ?_; rintro e w'' ⟨rfl, rfl⟩)
  exact bodyPost_ret (v := .agg #[.int .i64 1, .int .i64 m, .int .i64 (-1), .int .i64 0, .int .i64 0, .int .i64 0]) (by simp [results, Try.results59, go_sem]) rfl ⟨rfl, (Below.refl _ _).alloc (Nat.le_refl _) _⟩

attribute [local go_sem ↓] eqS

set_option maxHeartbeats 1600000 in
theorem right_of (k n b a s q m : Int) (w : World) (c : ∀ v, Calls Try.prog 79 #[.int .i64 n] v fun e w' => e = .returned (.int .i64 m) ∧ w' = v) (A : Bool) (hA : sameC k n b a s q 1 m b 0 0 0 = A) (B : Bool) (hB : (A && (decide (-1 ≤ b) && decide (b ≤ 1099511627776))) = B) :
    Calls Try.prog 60 #[.agg #[.int .i64 k, .int .i64 n, .int .i64 b, .int .i64 a, .int .i64 s, .int .i64 q]] w fun e w' => e = .returned (.bool B) ∧ Below w.heap.size w w' := by
  have bb : Below w.heap.size w ((w.alloc (.cells #[.int .i64 k, .int .i64 n, .int .i64 b, .int .i64 a, .int .i64 s, .int .i64 q] 35)).alloc (.cells #[.int .i64 1, .int .i64 m, .int .i64 b, .int .i64 0, .int .i64 0, .int .i64 0] 35)).drew := Below.drew (balloc (balloc (Below.refl _ _) _) _)
  go_enter Try.func60, Try.ntmps60
  go_upto_region 1 with (fail)
  go_cut [3] from 4 to 9 (fun l wc => l = .pointer (some ⟨w.heap.size + 1, 0, none⟩) ∧ wc = ((w.alloc (.cells #[.int .i64 k, .int .i64 n, .int .i64 b, .int .i64 a, .int .i64 s, .int .i64 q] 35)).alloc (.cells #[.int .i64 1, .int .i64 m, .int .i64 b, .int .i64 0, .int .i64 0, .int .i64 0] 35)).drew)
  case first =>
    go_region_with (first | (go_at_call 79; refine (c _).mono ?_; rintro e w'' ⟨rfl, rfl⟩))
    all_goals
      go_wp2
      go_meet
      exact ⟨rfl, rfl⟩
  case rest =>
    obtain ⟨rfl, rfl⟩ := hcut
    cases A
    · obtain rfl : false = B := hB
      go_wp2
      go_ret
      exact ⟨rfl, bb⟩
    · by_cases h1 : -1 ≤ b
      · by_cases h2 : b ≤ 1099511627776
        · obtain rfl : true = B := by rw [← hB, decide_eq_true h1, decide_eq_true h2]; rfl
          clear hB
          go_wp2
          go_ret
          exact ⟨rfl, bb⟩
        · obtain rfl : false = B := by rw [← hB, decide_eq_true h1, decide_eq_false h2]; rfl
          have h2' : decide (b ≤ 1099511627776) = false := decide_eq_false h2
          clear hB h2
          go_wp2
          go_ret
          exact ⟨rfl, bb⟩
      · obtain rfl : false = B := by rw [← hB, decide_eq_false h1]; rfl
        have h1' : decide (-1 ≤ b) = false := decide_eq_false h1
        clear hB h1
        go_wp2
        go_ret
        exact ⟨rfl, bb⟩

theorem right_any (k n b a s q : Int) (w : World) :
    Calls Try.prog 60 #[.agg #[.int .i64 k, .int .i64 n, .int .i64 b, .int .i64 a, .int .i64 s, .int .i64 q]] w fun e w' => e = .returned (.bool (decide (kright k n b a s q))) ∧ Below w.heap.size w w' :=
  right_of k n b a s q (clip n) w (within_any n) _ rfl _ (by
    rw [Bool.eq_iff_iff, Bool.and_eq_true, Bool.and_eq_true, decide_eq_true_iff, decide_eq_true_iff, decide_eq_true_iff, same_is]
    unfold kright clip
    omega)

end Go.Proofs.Ytbnofjpiioneiaa.V

namespace Go.Proofs.Ytbnofjpiioneiaa.C
open Go.RowKit

/-- a control of the call's own, in block C -/
structure Ctl (w : World) (C : Nat) (k n b a s q : Int) : Prop where
  c0 : w.cell? ⟨C, 0, none⟩ = some (.int .i64 k)
  c1 : w.cell? ⟨C, 1, none⟩ = some (.int .i64 n)
  c2 : w.cell? ⟨C, 2, none⟩ = some (.int .i64 b)
  c3 : w.cell? ⟨C, 3, none⟩ = some (.int .i64 a)
  c4 : w.cell? ⟨C, 4, none⟩ = some (.int .i64 s)
  c5 : w.cell? ⟨C, 5, none⟩ = some (.int .i64 q)
  f0 : w.frozen? ⟨C, 0, none⟩ = false
  f1 : w.frozen? ⟨C, 1, none⟩ = false
  f2 : w.frozen? ⟨C, 2, none⟩ = false
  f3 : w.frozen? ⟨C, 3, none⟩ = false
  f4 : w.frozen? ⟨C, 4, none⟩ = false
  f5 : w.frozen? ⟨C, 5, none⟩ = false
theorem Ctl.new (w : World) (C : Nat) (hC : C = w.heap.size) (k n b a s q : Int) : Ctl (w.alloc (.cells #[.int .i64 k, .int .i64 n, .int .i64 b, .int .i64 a, .int .i64 s, .int .i64 q] 35)) C k n b a s q := by
  subst hC
  constructor
  all_goals first
    | (rw [World.cell?_alloc_at _ _ _ _ rfl]; rfl)
    | (rw [World.frozen?_alloc_at _ _ _ _ rfl])
theorem Ctl.kept {w w' : World} {C : Nat} {k n b a s q : Int} (h : Ctl w C k n b a s q) (g : Below w.heap.size w w') : Ctl w' C k n b a s q := by
  have hl : C < w.heap.size := block_lt h.c0
  have e : ∀ o, w'.cell? ⟨C, o, none⟩ = w.cell? ⟨C, o, none⟩ := fun o => g.cell (p := ⟨C, o, none⟩) hl
  have f : ∀ o, w'.frozen? ⟨C, o, none⟩ = w.frozen? ⟨C, o, none⟩ := fun o => g.frozen (p := ⟨C, o, none⟩) hl
  exact ⟨(e 0).trans h.c0, (e 1).trans h.c1, (e 2).trans h.c2, (e 3).trans h.c3, (e 4).trans h.c4, (e 5).trans h.c5, (f 0).trans h.f0, (f 1).trans h.f1, (f 2).trans h.f2, (f 3).trans h.f3, (f 4).trans h.f4, (f 5).trans h.f5⟩
theorem Ctl.alloc {w : World} {C : Nat} {k n b a s q : Int} (h : Ctl w C k n b a s q) (o : Obj) : Ctl (w.alloc o) C k n b a s q := h.kept (balloc (Below.refl _ _) o)
theorem Ctl.drewN {w : World} {C : Nat} {k n b a s q : Int} (h : Ctl w C k n b a s q) (m : Nat) : Ctl (w.drewN m) C k n b a s q := h.kept (below_drewN (Below.refl _ _) m)
theorem Ctl.set1 {w : World} {C : Nat} {k n b a s q : Int} (h : Ctl w C k n b a s q) (v : Int) : Ctl (w.setCell ⟨C, 1, none⟩ (.int .i64 v)) C k v b a s q :=
  ⟨(World.cell?_setCell_other _ _ _ _ (by simp)).trans h.c0, World.cell?_setCell_same _ _ _ h.c1, (World.cell?_setCell_other _ _ _ _ (by simp)).trans h.c2, (World.cell?_setCell_other _ _ _ _ (by simp)).trans h.c3, (World.cell?_setCell_other _ _ _ _ (by simp)).trans h.c4, (World.cell?_setCell_other _ _ _ _ (by simp)).trans h.c5,
    (World.frozen?_setCell _ _ _ _).trans h.f0, (World.frozen?_setCell _ _ _ _).trans h.f1, (World.frozen?_setCell _ _ _ _).trans h.f2, (World.frozen?_setCell _ _ _ _).trans h.f3, (World.frozen?_setCell _ _ _ _).trans h.f4, (World.frozen?_setCell _ _ _ _).trans h.f5⟩
theorem Ctl.set2 {w : World} {C : Nat} {k n b a s q : Int} (h : Ctl w C k n b a s q) (v : Int) : Ctl (w.setCell ⟨C, 2, none⟩ (.int .i64 v)) C k n v a s q :=
  ⟨(World.cell?_setCell_other _ _ _ _ (by simp)).trans h.c0, (World.cell?_setCell_other _ _ _ _ (by simp)).trans h.c1, World.cell?_setCell_same _ _ _ h.c2, (World.cell?_setCell_other _ _ _ _ (by simp)).trans h.c3, (World.cell?_setCell_other _ _ _ _ (by simp)).trans h.c4, (World.cell?_setCell_other _ _ _ _ (by simp)).trans h.c5,
    (World.frozen?_setCell _ _ _ _).trans h.f0, (World.frozen?_setCell _ _ _ _).trans h.f1, (World.frozen?_setCell _ _ _ _).trans h.f2, (World.frozen?_setCell _ _ _ _).trans h.f3, (World.frozen?_setCell _ _ _ _).trans h.f4, (World.frozen?_setCell _ _ _ _).trans h.f5⟩
theorem Ctl.far {w : World} {C D o : Nat} {k n b a s q : Int} (h : Ctl w C k n b a s q) (hD : D ≠ C) (v : Value) : Ctl (w.setCell ⟨D, o, none⟩ v) C k n b a s q := by
  have e : ∀ i, (w.setCell ⟨D, o, none⟩ v).cell? ⟨C, i, none⟩ = w.cell? ⟨C, i, none⟩ := fun i => World.cell?_setCell_other _ _ _ _ (fun p => hD (by injection p))
  have f : ∀ i, (w.setCell ⟨D, o, none⟩ v).frozen? ⟨C, i, none⟩ = w.frozen? ⟨C, i, none⟩ := fun i => World.frozen?_setCell _ _ _ _
  exact ⟨(e 0).trans h.c0, (e 1).trans h.c1, (e 2).trans h.c2, (e 3).trans h.c3, (e 4).trans h.c4, (e 5).trans h.c5, (f 0).trans h.f0, (f 1).trans h.f1, (f 2).trans h.f2, (f 3).trans h.f3, (f 4).trans h.f4, (f 5).trans h.f5⟩
/-- what lies there behind Right -/
theorem two {w w1 : World} {k n b a s q : Int} (hb : Below ((w.alloc (.cells #[.int .i64 k, .int .i64 n, .int .i64 b, .int .i64 a, .int .i64 s, .int .i64 q] 35)).alloc (.cells #[.int .i64 0, .int .i64 0, .int .i64 0, .int .i64 0, .int .i64 0, .int .i64 0] 35)).heap.size ((w.alloc (.cells #[.int .i64 k, .int .i64 n, .int .i64 b, .int .i64 a, .int .i64 s, .int .i64 q] 35)).alloc (.cells #[.int .i64 0, .int .i64 0, .int .i64 0, .int .i64 0, .int .i64 0, .int .i64 0] 35)) w1) :
    Ctl w1 w.heap.size k n b a s q ∧ Ctl w1 (w.heap.size + 1) 0 0 0 0 0 0 :=
  ⟨((Ctl.new w _ rfl k n b a s q).alloc _).kept hb, (Ctl.new (w.alloc _) _ (by simp) 0 0 0 0 0 0).kept hb⟩
theorem up2 {w w1 : World} {o o' : Obj} (h : Below ((w.alloc o).alloc o').heap.size ((w.alloc o).alloc o') w1) : Below w.heap.size w w1 := bthen (balloc (balloc (Below.refl _ _) o) o') h

theorem Ctl.set0 {w : World} {C : Nat} {k n b a s q : Int} (h : Ctl w C k n b a s q) (v : Int) : Ctl (w.setCell ⟨C, 0, none⟩ (.int .i64 v)) C v n b a s q :=
  ⟨World.cell?_setCell_same _ _ _ h.c0, (World.cell?_setCell_other _ _ _ _ (by simp)).trans h.c1, (World.cell?_setCell_other _ _ _ _ (by simp)).trans h.c2, (World.cell?_setCell_other _ _ _ _ (by simp)).trans h.c3, (World.cell?_setCell_other _ _ _ _ (by simp)).trans h.c4, (World.cell?_setCell_other _ _ _ _ (by simp)).trans h.c5,
    (World.frozen?_setCell _ _ _ _).trans h.f0, (World.frozen?_setCell _ _ _ _).trans h.f1, (World.frozen?_setCell _ _ _ _).trans h.f2, (World.frozen?_setCell _ _ _ _).trans h.f3, (World.frozen?_setCell _ _ _ _).trans h.f4, (World.frozen?_setCell _ _ _ _).trans h.f5⟩
theorem Ctl.set3 {w : World} {C : Nat} {k n b a s q : Int} (h : Ctl w C k n b a s q) (v : Int) : Ctl (w.setCell ⟨C, 3, none⟩ (.int .i64 v)) C k n b v s q :=
  ⟨(World.cell?_setCell_other _ _ _ _ (by simp)).trans h.c0, (World.cell?_setCell_other _ _ _ _ (by simp)).trans h.c1, (World.cell?_setCell_other _ _ _ _ (by simp)).trans h.c2, World.cell?_setCell_same _ _ _ h.c3, (World.cell?_setCell_other _ _ _ _ (by simp)).trans h.c4, (World.cell?_setCell_other _ _ _ _ (by simp)).trans h.c5,
    (World.frozen?_setCell _ _ _ _).trans h.f0, (World.frozen?_setCell _ _ _ _).trans h.f1, (World.frozen?_setCell _ _ _ _).trans h.f2, (World.frozen?_setCell _ _ _ _).trans h.f3, (World.frozen?_setCell _ _ _ _).trans h.f4, (World.frozen?_setCell _ _ _ _).trans h.f5⟩
theorem Ctl.set4 {w : World} {C : Nat} {k n b a s q : Int} (h : Ctl w C k n b a s q) (v : Int) : Ctl (w.setCell ⟨C, 4, none⟩ (.int .i64 v)) C k n b a v q :=
  ⟨(World.cell?_setCell_other _ _ _ _ (by simp)).trans h.c0, (World.cell?_setCell_other _ _ _ _ (by simp)).trans h.c1, (World.cell?_setCell_other _ _ _ _ (by simp)).trans h.c2, (World.cell?_setCell_other _ _ _ _ (by simp)).trans h.c3, World.cell?_setCell_same _ _ _ h.c4, (World.cell?_setCell_other _ _ _ _ (by simp)).trans h.c5,
    (World.frozen?_setCell _ _ _ _).trans h.f0, (World.frozen?_setCell _ _ _ _).trans h.f1, (World.frozen?_setCell _ _ _ _).trans h.f2, (World.frozen?_setCell _ _ _ _).trans h.f3, (World.frozen?_setCell _ _ _ _).trans h.f4, (World.frozen?_setCell _ _ _ _).trans h.f5⟩
theorem Ctl.set5 {w : World} {C : Nat} {k n b a s q : Int} (h : Ctl w C k n b a s q) (v : Int) : Ctl (w.setCell ⟨C, 5, none⟩ (.int .i64 v)) C k n b a s v :=
  ⟨(World.cell?_setCell_other _ _ _ _ (by simp)).trans h.c0, (World.cell?_setCell_other _ _ _ _ (by simp)).trans h.c1, (World.cell?_setCell_other _ _ _ _ (by simp)).trans h.c2, (World.cell?_setCell_other _ _ _ _ (by simp)).trans h.c3, (World.cell?_setCell_other _ _ _ _ (by simp)).trans h.c4, World.cell?_setCell_same _ _ _ h.c5,
    (World.frozen?_setCell _ _ _ _).trans h.f0, (World.frozen?_setCell _ _ _ _).trans h.f1, (World.frozen?_setCell _ _ _ _).trans h.f2, (World.frozen?_setCell _ _ _ _).trans h.f3, (World.frozen?_setCell _ _ _ _).trans h.f4, (World.frozen?_setCell _ _ _ _).trans h.f5⟩
theorem Ctl.put {w : World} {C : Nat} {k n b a s q : Int} (h : Ctl w C k n b a s q) (k' n' b' a' s' q' : Int) : Ctl ((((((w.setCell ⟨C, 0, none⟩ (.int .i64 k')).setCell ⟨C, 1, none⟩ (.int .i64 n')).setCell ⟨C, 2, none⟩ (.int .i64 b')).setCell ⟨C, 3, none⟩ (.int .i64 a')).setCell ⟨C, 4, none⟩ (.int .i64 s')).setCell ⟨C, 5, none⟩ (.int .i64 q')) C k' n' b' a' s' q' :=
  (((((h.set0 k').set1 n').set2 b').set3 a').set4 s').set5 q'
theorem Ctl.drew {w : World} {C : Nat} {k n b a s q : Int} (h : Ctl w C k n b a s q) : Ctl w.drew C k n b a s q := h.kept (Below.drew (Below.refl _ _))
/-- one step of a walk that is not taken yet -/
theorem tok : Hid True := trivial
/-- what is behind a call at a world that had one control more -/
theorem up1 {w w1 : World} {o : Obj} (h : Below (w.alloc o).heap.size (w.alloc o) w1) : Below w.heap.size w w1 := bthen (balloc (Below.refl _ _) o) h


end Go.Proofs.Ytbnofjpiioneiaa.C
