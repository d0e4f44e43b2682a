/- PROVED: a control on plain integers: its way, speed, window and base, the next one; who is later sends no more. what copa.within, New, wayOf, speedOf and Right answer. what copa.Right answers. a control of the call's own, in memory: its six cells. CONDITIONS: none beyond each theorem's own. -/
import Derived.Test.YtjageagnclmnjabGreatDoorB16CSame
import Derived.Deep.RegionWith
import Derived.Deep.CutRange
import Derived.Test.YtjageagnclmnjabGreatDoorB00Pw
namespace Go.Proofs.YtjageagnclmnjabGreatDoor.C

/-- a window that may be -/
def clip (n : Int) : Int := min (max n 1) 12
theorem clip_in (n : Int) : 1 ≤ clip n ∧ clip n ≤ 12 := by unfold clip; omega
theorem clip_is {n : Int} (h : 1 ≤ n) (h2 : n ≤ 12) : clip n = n := by unfold clip; omega

/-- may it be? -/
def lright (k n b a s q : Int) : Prop := k = 2 ∧ (1 ≤ n ∧ n ≤ 12) ∧ (-1 ≤ b ∧ b ≤ 1099511627776) ∧ (-1 ≤ a ∧ a ≤ 1) ∧ (0 ≤ s ∧ s ≤ 4) ∧ q = 0
instance (k n b a s q : Int) : Decidable (lright k n b a s q) := by unfold lright; infer_instance
/-- may such a delay be? -/
def inr (x : Int) : Prop := 0 ≤ x ∧ x ≤ 1099511627776
instance (x : Int) : Decidable (inr x) := by unfold inr; infer_instance

/-- the base behind a delay -/
def nb (b d : Int) : Int := if b < 0 ∨ d < b then d else b
/-- which way it goes, behind a delay d that is x more than the base -/
def wy (n x d : Int) : Int := if n * x ≤ 2 * (1 + d) then 1 else -1
/-- how fast, on the way y, who went the way a so fast as s -/
def spd (a s y : Int) : Int := if y = a then min (max (2 * s) 1) 4 else 1
/-- the window then -/
def nw (n a s y : Int) : Int := clip (n + y * spd a s y)

theorem nb_in {b d : Int} (hd : inr d) : 0 ≤ nb b d ∧ nb b d ≤ d ∧ nb b d ≤ 1099511627776 ∧ 0 ≤ d - nb b d ∧ d - nb b d ≤ 1099511627776 := by
  unfold inr at hd; unfold nb; split <;> omega
theorem wy_is (n x d : Int) : wy n x d = 1 ∨ wy n x d = -1 := by unfold wy; split <;> simp
theorem spd_in (a s y : Int) : 1 ≤ spd a s y ∧ spd a s y ≤ 4 := by unfold spd; split <;> omega
/-- what the window is held against, by division -/
theorem wy_div {n x d : Int} (hx : 0 < x) : n ≤ 2 * (1 + d) / x ↔ n * x ≤ 2 * (1 + d) := Int.le_ediv_iff_mul_le hx

end Go.Proofs.YtjageagnclmnjabGreatDoor.C

namespace Go.Proofs.YtjageagnclmnjabGreatDoor.C
open Go.RowKit

theorem within_any (n : Int) (w : World) :
    Calls Tryz.prog 133 #[.int .i64 n] w fun e w' => e = .returned (.int .i64 (clip n)) ∧ w' = w := by
  go_enter Tryz.func133, Tryz.ntmps133
  go_wp2
  go_ret
  exact ⟨rfl, rfl⟩

theorem new_any (n : Int) (w : World) :
    Calls Tryz.prog 111 #[.int .i64 n] w fun e w' => e = .returned (.agg #[.int .i64 2, .int .i64 (clip n), .int .i64 (-1), .int .i64 0, .int .i64 0, .int .i64 0]) ∧ Below w.heap.size w w' := by
  have c := fun v => within_any n v
  generalize clip n = m at c ⊢
  go_enter Tryz.func111, Tryz.ntmps111
  go_wp2_with (go_at_call 133; refine (c _).mono ?_; rintro e w'' ⟨rfl, rfl⟩)
  exact bodyPost_ret (v := .agg #[.int .i64 2, .int .i64 m, .int .i64 (-1), .int .i64 0, .int .i64 0, .int .i64 0]) (by simp [results, Tryz.results111, go_sem]) rfl ⟨rfl, (Below.refl _ _).alloc (Nat.le_refl _) _⟩

theorem way_of (n x d y m : Int) (w : World) (hd0 : 0 ≤ d) (hd1 : d ≤ 1099511627776) (h : x = 0 ∧ y = 1 ∨ (x == 0) = false ∧ ¬ x = 0 ∧ (2 * (1 + d)).tdiv x = m ∧ 0 ≤ m ∧ m ≤ 2199023255554 ∧ (decide (n ≤ m) = true ∧ y = 1 ∨ decide (n ≤ m) = false ∧ y = -1)) :
    Calls Tryz.prog 134 #[.int .i64 n, .int .i64 x, .int .i64 d] w fun e w' => e = .returned (.int .i64 y) ∧ w' = w := by
  rcases h with ⟨rfl, rfl⟩ | ⟨h0, hx, hm, hm0, hm1, ⟨h2, rfl⟩ | ⟨h2, rfl⟩⟩
  all_goals
    go_enter Tryz.func134, Tryz.ntmps134
    go_wp2
    go_ret
    exact ⟨rfl, rfl⟩

theorem way_any (n x d : Int) (w : World) (hx0 : 0 ≤ x) (hd0 : 0 ≤ d) (hd1 : d ≤ 1099511627776) :
    Calls Tryz.prog 134 #[.int .i64 n, .int .i64 x, .int .i64 d] w fun e w' => e = .returned (.int .i64 (wy n x d)) ∧ w' = w := by
  by_cases h : x = 0
  · refine way_of n x d _ 0 w hd0 hd1 (.inl ⟨h, ?_⟩)
    unfold wy; rw [h, Int.mul_zero, if_pos (by omega)]
  · have h0 : 0 < x := by omega
    have q := wy_div (n := n) (d := d) h0
    have tv : (2 * (1 + d)).tdiv x = 2 * (1 + d) / x := Int.tdiv_eq_ediv_of_nonneg (by omega)
    have m0 : 0 ≤ 2 * (1 + d) / x := Int.ediv_nonneg (by omega) (by omega)
    have m1 : 2 * (1 + d) / x ≤ 2 * (1 + d) := Int.ediv_le_self _ (by omega)
    refine way_of n x d _ _ w hd0 hd1 (.inr ⟨by simpa using h, h, tv, m0, by omega, ?_⟩)
    unfold wy
    by_cases c : n * x ≤ 2 * (1 + d)
    · exact .inl ⟨decide_eq_true (q.2 c), if_pos c⟩
    · exact .inr ⟨decide_eq_false fun h => c (q.1 h), if_neg c⟩

set_option maxHeartbeats 1600000 in
theorem speed_any (k n b a s q y : Int) (w : World) (hs0 : 0 ≤ s) (hs1 : s ≤ 4) :
    Calls Tryz.prog 135 #[.agg #[.int .i64 k, .int .i64 n, .int .i64 b, .int .i64 a, .int .i64 s, .int .i64 q], .int .i64 y] w fun e w' => e = .returned (.int .i64 (spd a s y)) ∧ Below w.heap.size w w' := by
  by_cases h : y = a
  · rw [show spd a s y = min (max (2 * s) 1) 4 by unfold spd; rw [if_pos h]]
    subst h
    go_enter Tryz.func135, Tryz.ntmps135
    go_wp2
    go_ret
    exact ⟨rfl, balloc (Below.refl _ _) _⟩
  · rw [show spd a s y = 1 by unfold spd; rw [if_neg h]]
    go_enter Tryz.func135, Tryz.ntmps135
    go_wp2
    go_ret
    exact ⟨rfl, balloc (Below.refl _ _) _⟩

end Go.Proofs.YtjageagnclmnjabGreatDoor.C

namespace Go.Proofs.YtjageagnclmnjabGreatDoor.C
open Go.RowKit

set_option maxHeartbeats 4000000 in
theorem right_of (k n b a s q m : Int) (w : World) (c : ∀ v, Calls Tryz.prog 133 #[.int .i64 n] v fun e w' => e = .returned (.int .i64 m) ∧ w' = v) (t0 t1 t2 t3 t4 t5 t6 t7 t8 : Bool) (h0 : (k == 2) = t0) (h1 : (n == m) = t1) (h2 : (q == 0) = t2) (h3 : decide (-1 ≤ b) = t3) (h4 : decide (b ≤ 1099511627776) = t4) (h5 : decide (-1 ≤ a) = t5) (h6 : decide (a ≤ 1) = t6) (h7 : decide (0 ≤ s) = t7) (h8 : decide (s ≤ 4) = t8) :
    Calls Tryz.prog 112 #[.agg #[.int .i64 k, .int .i64 n, .int .i64 b, .int .i64 a, .int .i64 s, .int .i64 q]] w fun e w' => e = .returned (.bool (t0 && (t1 && (t2 && (t3 && (t4 && (t5 && (t6 && (t7 && t8))))))))) ∧ Below w.heap.size w w' := by
  obtain ⟨c0, c1, c2, c3, c4, c5, f0, f1, f2, f3, f4, f5⟩ := Ctl.new w _ rfl k n b a s q
  have bb : Below w.heap.size w (w.alloc (.cells #[.int .i64 k, .int .i64 n, .int .i64 b, .int .i64 a, .int .i64 s, .int .i64 q] 45)) := balloc (Below.refl _ _) _
  cases t0
  case' true => cases t1
  case' true.true => cases t2
  case' true.true.true => cases t3
  case' true.true.true.true => cases t4
  case' true.true.true.true.true => cases t5
  case' true.true.true.true.true.true => cases t6
  case' true.true.true.true.true.true.true => cases t7
  case' true.true.true.true.true.true.true.true => cases t8
  all_goals
    go_enter Tryz.func112, Tryz.ntmps112
    go_wp2
    go_quiet ((go_at_call 133; refine (c _).mono ?_; rintro e w'' ⟨rfl, rfl⟩; exact ⟨rfl, _, rfl⟩))
    go_wp2
    go_ret
    exact ⟨rfl, below_drewN bb _⟩

theorem right_any (k n b a s q : Int) (w : World) :
    Calls Tryz.prog 112 #[.agg #[.int .i64 k, .int .i64 n, .int .i64 b, .int .i64 a, .int .i64 s, .int .i64 q]] w fun e w' => e = .returned (.bool (decide (lright k n b a s q))) ∧ Below w.heap.size w w' := by
  have := right_of k n b a s q (clip n) w (within_any n) _ _ _ _ _ _ _ _ _ rfl rfl rfl rfl rfl rfl rfl rfl rfl
  rw [show (k == 2 && (n == clip n && (q == 0 && (decide (-1 ≤ b) && (decide (b ≤ 1099511627776) && (decide (-1 ≤ a) && (decide (a ≤ 1) && (decide (0 ≤ s) && decide (s ≤ 4))))))))) = decide (lright k n b a s q) by
    rw [Bool.eq_iff_iff]
    simp only [Bool.and_eq_true, decide_eq_true_iff, beq_iff_eq]
    unfold lright clip
    omega] at this
  exact this

end Go.Proofs.YtjageagnclmnjabGreatDoor.C

namespace Go.Proofs.YtjageagnclmnjabGreatDoor.L
open Go.RowKit

/-- a control of the call's own, in block C -/
structure Ctl (w : World) (C : Nat) (k n b a s q : Int) : Prop where
  c0 : w.cell? ⟨C, 0, none⟩ = some (.int .i64 k)
  c1 : w.cell? ⟨C, 1, none⟩ = some (.int .i64 n)
  c2 : w.cell? ⟨C, 2, none⟩ = some (.int .i64 b)
  c3 : w.cell? ⟨C, 3, none⟩ = some (.int .i64 a)
  c4 : w.cell? ⟨C, 4, none⟩ = some (.int .i64 s)
  c5 : w.cell? ⟨C, 5, none⟩ = some (.int .i64 q)
  f0 : w.frozen? ⟨C, 0, none⟩ = false
  f1 : w.frozen? ⟨C, 1, none⟩ = false
  f2 : w.frozen? ⟨C, 2, none⟩ = false
  f3 : w.frozen? ⟨C, 3, none⟩ = false
  f4 : w.frozen? ⟨C, 4, none⟩ = false
  f5 : w.frozen? ⟨C, 5, none⟩ = false
theorem Ctl.new (w : World) (C : Nat) (hC : C = w.heap.size) (k n b a s q : Int) : Ctl (w.alloc (.cells #[.int .i64 k, .int .i64 n, .int .i64 b, .int .i64 a, .int .i64 s, .int .i64 q] 45)) C k n b a s q := by
  subst hC
  constructor
  all_goals first
    | (rw [World.cell?_alloc_at _ _ _ _ rfl]; rfl)
    | (rw [World.frozen?_alloc_at _ _ _ _ rfl])
theorem Ctl.kept {w w' : World} {C : Nat} {k n b a s q : Int} (h : Ctl w C k n b a s q) (g : Below w.heap.size w w') : Ctl w' C k n b a s q := by
  have hl : C < w.heap.size := block_lt h.c0
  have e : ∀ o, w'.cell? ⟨C, o, none⟩ = w.cell? ⟨C, o, none⟩ := fun o => g.cell (p := ⟨C, o, none⟩) hl
  have f : ∀ o, w'.frozen? ⟨C, o, none⟩ = w.frozen? ⟨C, o, none⟩ := fun o => g.frozen (p := ⟨C, o, none⟩) hl
  exact ⟨(e 0).trans h.c0, (e 1).trans h.c1, (e 2).trans h.c2, (e 3).trans h.c3, (e 4).trans h.c4, (e 5).trans h.c5, (f 0).trans h.f0, (f 1).trans h.f1, (f 2).trans h.f2, (f 3).trans h.f3, (f 4).trans h.f4, (f 5).trans h.f5⟩
theorem Ctl.alloc {w : World} {C : Nat} {k n b a s q : Int} (h : Ctl w C k n b a s q) (o : Obj) : Ctl (w.alloc o) C k n b a s q := h.kept (balloc (Below.refl _ _) o)
theorem Ctl.set1 {w : World} {C : Nat} {k n b a s q : Int} (h : Ctl w C k n b a s q) (v : Int) : Ctl (w.setCell ⟨C, 1, none⟩ (.int .i64 v)) C k v b a s q :=
  ⟨(World.cell?_setCell_other _ _ _ _ (by simp)).trans h.c0, World.cell?_setCell_same _ _ _ h.c1, (World.cell?_setCell_other _ _ _ _ (by simp)).trans h.c2, (World.cell?_setCell_other _ _ _ _ (by simp)).trans h.c3, (World.cell?_setCell_other _ _ _ _ (by simp)).trans h.c4, (World.cell?_setCell_other _ _ _ _ (by simp)).trans h.c5,
    (World.frozen?_setCell _ _ _ _).trans h.f0, (World.frozen?_setCell _ _ _ _).trans h.f1, (World.frozen?_setCell _ _ _ _).trans h.f2, (World.frozen?_setCell _ _ _ _).trans h.f3, (World.frozen?_setCell _ _ _ _).trans h.f4, (World.frozen?_setCell _ _ _ _).trans h.f5⟩
theorem Ctl.set2 {w : World} {C : Nat} {k n b a s q : Int} (h : Ctl w C k n b a s q) (v : Int) : Ctl (w.setCell ⟨C, 2, none⟩ (.int .i64 v)) C k n v a s q :=
  ⟨(World.cell?_setCell_other _ _ _ _ (by simp)).trans h.c0, (World.cell?_setCell_other _ _ _ _ (by simp)).trans h.c1, World.cell?_setCell_same _ _ _ h.c2, (World.cell?_setCell_other _ _ _ _ (by simp)).trans h.c3, (World.cell?_setCell_other _ _ _ _ (by simp)).trans h.c4, (World.cell?_setCell_other _ _ _ _ (by simp)).trans h.c5,
    (World.frozen?_setCell _ _ _ _).trans h.f0, (World.frozen?_setCell _ _ _ _).trans h.f1, (World.frozen?_setCell _ _ _ _).trans h.f2, (World.frozen?_setCell _ _ _ _).trans h.f3, (World.frozen?_setCell _ _ _ _).trans h.f4, (World.frozen?_setCell _ _ _ _).trans h.f5⟩
theorem Ctl.far {w : World} {C D o : Nat} {k n b a s q : Int} (h : Ctl w C k n b a s q) (hD : D ≠ C) (v : Value) : Ctl (w.setCell ⟨D, o, none⟩ v) C k n b a s q := by
  have e : ∀ i, (w.setCell ⟨D, o, none⟩ v).cell? ⟨C, i, none⟩ = w.cell? ⟨C, i, none⟩ := fun i => World.cell?_setCell_other _ _ _ _ (fun p => hD (by injection p))
  have f : ∀ i, (w.setCell ⟨D, o, none⟩ v).frozen? ⟨C, i, none⟩ = w.frozen? ⟨C, i, none⟩ := fun i => World.frozen?_setCell _ _ _ _
  exact ⟨(e 0).trans h.c0, (e 1).trans h.c1, (e 2).trans h.c2, (e 3).trans h.c3, (e 4).trans h.c4, (e 5).trans h.c5, (f 0).trans h.f0, (f 1).trans h.f1, (f 2).trans h.f2, (f 3).trans h.f3, (f 4).trans h.f4, (f 5).trans h.f5⟩
/-- what lies there behind Right -/
theorem two {w w1 : World} {k n b a s q : Int} (hb : Below ((w.alloc (.cells #[.int .i64 k, .int .i64 n, .int .i64 b, .int .i64 a, .int .i64 s, .int .i64 q] 45)).alloc (.cells #[.int .i64 0, .int .i64 0, .int .i64 0, .int .i64 0, .int .i64 0, .int .i64 0] 45)).heap.size ((w.alloc (.cells #[.int .i64 k, .int .i64 n, .int .i64 b, .int .i64 a, .int .i64 s, .int .i64 q] 45)).alloc (.cells #[.int .i64 0, .int .i64 0, .int .i64 0, .int .i64 0, .int .i64 0, .int .i64 0] 45)) w1) :
    Ctl w1 w.heap.size k n b a s q ∧ Ctl w1 (w.heap.size + 1) 0 0 0 0 0 0 :=
  ⟨((Ctl.new w _ rfl k n b a s q).alloc _).kept hb, (Ctl.new (w.alloc _) _ (by simp) 0 0 0 0 0 0).kept hb⟩
theorem up2 {w w1 : World} {o o' : Obj} (h : Below ((w.alloc o).alloc o').heap.size ((w.alloc o).alloc o') w1) : Below w.heap.size w w1 := bthen (balloc (balloc (Below.refl _ _) o) o') h

theorem Ctl.set3 {w : World} {C : Nat} {k n b a s q : Int} (h : Ctl w C k n b a s q) (v : Int) : Ctl (w.setCell ⟨C, 3, none⟩ (.int .i64 v)) C k n b v s q :=
  ⟨(World.cell?_setCell_other _ _ _ _ (by simp)).trans h.c0, (World.cell?_setCell_other _ _ _ _ (by simp)).trans h.c1, (World.cell?_setCell_other _ _ _ _ (by simp)).trans h.c2, World.cell?_setCell_same _ _ _ h.c3, (World.cell?_setCell_other _ _ _ _ (by simp)).trans h.c4, (World.cell?_setCell_other _ _ _ _ (by simp)).trans h.c5,
    (World.frozen?_setCell _ _ _ _).trans h.f0, (World.frozen?_setCell _ _ _ _).trans h.f1, (World.frozen?_setCell _ _ _ _).trans h.f2, (World.frozen?_setCell _ _ _ _).trans h.f3, (World.frozen?_setCell _ _ _ _).trans h.f4, (World.frozen?_setCell _ _ _ _).trans h.f5⟩
theorem Ctl.set4 {w : World} {C : Nat} {k n b a s q : Int} (h : Ctl w C k n b a s q) (v : Int) : Ctl (w.setCell ⟨C, 4, none⟩ (.int .i64 v)) C k n b a v q :=
  ⟨(World.cell?_setCell_other _ _ _ _ (by simp)).trans h.c0, (World.cell?_setCell_other _ _ _ _ (by simp)).trans h.c1, (World.cell?_setCell_other _ _ _ _ (by simp)).trans h.c2, (World.cell?_setCell_other _ _ _ _ (by simp)).trans h.c3, World.cell?_setCell_same _ _ _ h.c4, (World.cell?_setCell_other _ _ _ _ (by simp)).trans h.c5,
    (World.frozen?_setCell _ _ _ _).trans h.f0, (World.frozen?_setCell _ _ _ _).trans h.f1, (World.frozen?_setCell _ _ _ _).trans h.f2, (World.frozen?_setCell _ _ _ _).trans h.f3, (World.frozen?_setCell _ _ _ _).trans h.f4, (World.frozen?_setCell _ _ _ _).trans h.f5⟩
theorem Ctl.drew {w : World} {C : Nat} {k n b a s q : Int} (h : Ctl w C k n b a s q) : Ctl w.drew C k n b a s q := h.kept (Below.drew (Below.refl _ _))
/-- one step of a walk that is not taken yet -/
theorem tok : Hid True := trivial
end Go.Proofs.YtjageagnclmnjabGreatDoor.L
