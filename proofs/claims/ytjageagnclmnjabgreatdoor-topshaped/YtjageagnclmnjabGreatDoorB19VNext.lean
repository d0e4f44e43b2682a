/- PROVED: what vegas.Next answers. CONDITIONS: none beyond each theorem's own. -/
import Derived.Test.YtjageagnclmnjabGreatDoorB16CSame
namespace Go.Proofs.YtjageagnclmnjabGreatDoor.V
open Go.RowKit
set_option linter.unusedVariables false

/-- a control of the call's own, in block C -/
structure Ctl (w : World) (C : Nat) (k n b a s q : Int) : Prop where
  c0 : w.cell? ⟨C, 0, none⟩ = some (.int .i64 k)
  c1 : w.cell? ⟨C, 1, none⟩ = some (.int .i64 n)
  c2 : w.cell? ⟨C, 2, none⟩ = some (.int .i64 b)
  c3 : w.cell? ⟨C, 3, none⟩ = some (.int .i64 a)
  c4 : w.cell? ⟨C, 4, none⟩ = some (.int .i64 s)
  c5 : w.cell? ⟨C, 5, none⟩ = some (.int .i64 q)
  f0 : w.frozen? ⟨C, 0, none⟩ = false
  f1 : w.frozen? ⟨C, 1, none⟩ = false
  f2 : w.frozen? ⟨C, 2, none⟩ = false
  f3 : w.frozen? ⟨C, 3, none⟩ = false
  f4 : w.frozen? ⟨C, 4, none⟩ = false
  f5 : w.frozen? ⟨C, 5, none⟩ = false
theorem Ctl.new (w : World) (C : Nat) (hC : C = w.heap.size) (k n b a s q : Int) : Ctl (w.alloc (.cells #[.int .i64 k, .int .i64 n, .int .i64 b, .int .i64 a, .int .i64 s, .int .i64 q] 45)) C k n b a s q := by
  subst hC
  constructor
  all_goals first
    | (rw [World.cell?_alloc_at _ _ _ _ rfl]; rfl)
    | (rw [World.frozen?_alloc_at _ _ _ _ rfl])
theorem Ctl.kept {w w' : World} {C : Nat} {k n b a s q : Int} (h : Ctl w C k n b a s q) (g : Below w.heap.size w w') : Ctl w' C k n b a s q := by
  have hl : C < w.heap.size := block_lt h.c0
  have e : ∀ o, w'.cell? ⟨C, o, none⟩ = w.cell? ⟨C, o, none⟩ := fun o => g.cell (p := ⟨C, o, none⟩) hl
  have f : ∀ o, w'.frozen? ⟨C, o, none⟩ = w.frozen? ⟨C, o, none⟩ := fun o => g.frozen (p := ⟨C, o, none⟩) hl
  exact ⟨(e 0).trans h.c0, (e 1).trans h.c1, (e 2).trans h.c2, (e 3).trans h.c3, (e 4).trans h.c4, (e 5).trans h.c5, (f 0).trans h.f0, (f 1).trans h.f1, (f 2).trans h.f2, (f 3).trans h.f3, (f 4).trans h.f4, (f 5).trans h.f5⟩
theorem Ctl.alloc {w : World} {C : Nat} {k n b a s q : Int} (h : Ctl w C k n b a s q) (o : Obj) : Ctl (w.alloc o) C k n b a s q := h.kept (balloc (Below.refl _ _) o)
theorem Ctl.set1 {w : World} {C : Nat} {k n b a s q : Int} (h : Ctl w C k n b a s q) (v : Int) : Ctl (w.setCell ⟨C, 1, none⟩ (.int .i64 v)) C k v b a s q :=
  ⟨(World.cell?_setCell_other _ _ _ _ (by simp)).trans h.c0, World.cell?_setCell_same _ _ _ h.c1, (World.cell?_setCell_other _ _ _ _ (by simp)).trans h.c2, (World.cell?_setCell_other _ _ _ _ (by simp)).trans h.c3, (World.cell?_setCell_other _ _ _ _ (by simp)).trans h.c4, (World.cell?_setCell_other _ _ _ _ (by simp)).trans h.c5,
    (World.frozen?_setCell _ _ _ _).trans h.f0, (World.frozen?_setCell _ _ _ _).trans h.f1, (World.frozen?_setCell _ _ _ _).trans h.f2, (World.frozen?_setCell _ _ _ _).trans h.f3, (World.frozen?_setCell _ _ _ _).trans h.f4, (World.frozen?_setCell _ _ _ _).trans h.f5⟩
theorem Ctl.set2 {w : World} {C : Nat} {k n b a s q : Int} (h : Ctl w C k n b a s q) (v : Int) : Ctl (w.setCell ⟨C, 2, none⟩ (.int .i64 v)) C k n v a s q :=
  ⟨(World.cell?_setCell_other _ _ _ _ (by simp)).trans h.c0, (World.cell?_setCell_other _ _ _ _ (by simp)).trans h.c1, World.cell?_setCell_same _ _ _ h.c2, (World.cell?_setCell_other _ _ _ _ (by simp)).trans h.c3, (World.cell?_setCell_other _ _ _ _ (by simp)).trans h.c4, (World.cell?_setCell_other _ _ _ _ (by simp)).trans h.c5,
    (World.frozen?_setCell _ _ _ _).trans h.f0, (World.frozen?_setCell _ _ _ _).trans h.f1, (World.frozen?_setCell _ _ _ _).trans h.f2, (World.frozen?_setCell _ _ _ _).trans h.f3, (World.frozen?_setCell _ _ _ _).trans h.f4, (World.frozen?_setCell _ _ _ _).trans h.f5⟩
theorem Ctl.far {w : World} {C D o : Nat} {k n b a s q : Int} (h : Ctl w C k n b a s q) (hD : D ≠ C) (v : Value) : Ctl (w.setCell ⟨D, o, none⟩ v) C k n b a s q := by
  have e : ∀ i, (w.setCell ⟨D, o, none⟩ v).cell? ⟨C, i, none⟩ = w.cell? ⟨C, i, none⟩ := fun i => World.cell?_setCell_other _ _ _ _ (fun p => hD (by injection p))
  have f : ∀ i, (w.setCell ⟨D, o, none⟩ v).frozen? ⟨C, i, none⟩ = w.frozen? ⟨C, i, none⟩ := fun i => World.frozen?_setCell _ _ _ _
  exact ⟨(e 0).trans h.c0, (e 1).trans h.c1, (e 2).trans h.c2, (e 3).trans h.c3, (e 4).trans h.c4, (e 5).trans h.c5, (f 0).trans h.f0, (f 1).trans h.f1, (f 2).trans h.f2, (f 3).trans h.f3, (f 4).trans h.f4, (f 5).trans h.f5⟩
/-- what lies there behind Right -/
theorem two {w w1 : World} {k n b a s q : Int} (hb : Below ((w.alloc (.cells #[.int .i64 k, .int .i64 n, .int .i64 b, .int .i64 a, .int .i64 s, .int .i64 q] 45)).alloc (.cells #[.int .i64 0, .int .i64 0, .int .i64 0, .int .i64 0, .int .i64 0, .int .i64 0] 45)).heap.size ((w.alloc (.cells #[.int .i64 k, .int .i64 n, .int .i64 b, .int .i64 a, .int .i64 s, .int .i64 q] 45)).alloc (.cells #[.int .i64 0, .int .i64 0, .int .i64 0, .int .i64 0, .int .i64 0, .int .i64 0] 45)) w1) :
    Ctl w1 w.heap.size k n b a s q ∧ Ctl w1 (w.heap.size + 1) 0 0 0 0 0 0 :=
  ⟨((Ctl.new w _ rfl k n b a s q).alloc _).kept hb, (Ctl.new (w.alloc _) _ (by simp) 0 0 0 0 0 0).kept hb⟩
theorem up2 {w w1 : World} {o o' : Obj} (h : Below ((w.alloc o).alloc o').heap.size ((w.alloc o).alloc o') w1) : Below w.heap.size w w1 := bthen (balloc (balloc (Below.refl _ _) o) o') h

set_option maxHeartbeats 1600000 in
theorem next_form (k n b a s q d : Int) (w : World) (h : ¬ kright k n b a s q) :
    Calls Tryz.prog 110 #[.agg #[.int .i64 k, .int .i64 n, .int .i64 b, .int .i64 a, .int .i64 s, .int .i64 q], .int .i64 d] w fun e w' => e = .returned (.tuple #[.agg #[.int .i64 0, .int .i64 0, .int .i64 0, .int .i64 0, .int .i64 0, .int .i64 0], .int .i64 1]) ∧ Below w.heap.size w w' := by
  have r := fun v => right_any k n b a s q v
  rw [decide_eq_false h] at r
  clear h
  go_enter Tryz.func110, Tryz.ntmps110
  go_wp2_with (go_at_call 109; refine (r _).mono ?_; rintro e w1 ⟨rfl, hb⟩; obtain ⟨d0, d1, d2, d3, d4, d5, g0, g1, g2, g3, g4, g5⟩ := (two hb).2)
  refine bodyPost_ret (v := .tuple #[.agg #[.int .i64 0, .int .i64 0, .int .i64 0, .int .i64 0, .int .i64 0, .int .i64 0], .int .i64 1]) (by simp [results, Tryz.results110, go_sem, d0, d1, d2, d3, d4, d5]) rfl ⟨rfl, ?_⟩
  repeat (refine Below.setCell ?_ (by simp) _)
  exact up2 hb

set_option maxHeartbeats 1600000 in
theorem next_new (n b d V : Int) (w : World) (hn : 1 ≤ n ∧ n ≤ 12) (r : ∀ v, Calls Tryz.prog 109 #[.agg #[.int .i64 1, .int .i64 n, .int .i64 b, .int .i64 0, .int .i64 0, .int .i64 0]] v fun e w' => e = .returned (.bool true) ∧ Below v.heap.size v w')
    (c : ∀ v, Calls Tryz.prog 132 #[.int .i64 (n + 1)] v fun e w' => e = .returned (.int .i64 V) ∧ w' = v) (h0 : 0 ≤ d) (h1 : d ≤ 1099511627776) (h : b < 0 ∨ d < b) :
    Calls Tryz.prog 110 #[.agg #[.int .i64 1, .int .i64 n, .int .i64 b, .int .i64 0, .int .i64 0, .int .i64 0], .int .i64 d] w fun e w' => e = .returned (.tuple #[.agg #[.int .i64 1, .int .i64 V, .int .i64 d, .int .i64 0, .int .i64 0, .int .i64 0], .int .i64 0]) ∧ Below w.heap.size w w' := by
  by_cases hb : b < 0
  · clear h
    go_enter Tryz.func110, Tryz.ntmps110
    go_wp2_with (first
      | (go_at_call 109; refine (r _).mono ?_; rintro e w1 ⟨rfl, HB⟩; obtain ⟨X, Y⟩ := two HB; clear r; obtain ⟨c0, c1, c2, c3, c4, c5, f0, f1, f2, f3, f4, f5⟩ := X)
      | (go_at_call 132; refine (c _).mono ?_; rintro e w2 ⟨rfl, hw⟩; clear c; have X2 : Ctl w2 w.heap.size 1 (n + 1) d 0 0 0 := (by rw [hw]; exact Ctl.set1 (Ctl.set2 ⟨c0, c1, c2, c3, c4, c5, f0, f1, f2, f3, f4, f5⟩ d) (n + 1)); have Y2 : Ctl w2 (w.heap.size + 1) 0 0 0 0 0 0 := (by rw [hw]; exact ((Y.far (by omega) _).far (by omega) _)); have B2 : Below w.heap.size w w2 := (by rw [hw]; exact (((up2 HB).setCell (by simp) _).setCell (by simp) _)); clear hw; clear Y c0 c1 c2 c3 c4 c5 f0 f1 f2 f3 f4 f5; obtain ⟨c0, c1, c2, c3, c4, c5, f0, f1, f2, f3, f4, f5⟩ := X2; obtain ⟨d0, d1, d2, d3, d4, d5, g0, g1, g2, g3, g4, g5⟩ := Y2))
    refine bodyPost_ret (v := .tuple #[.agg #[.int .i64 1, .int .i64 V, .int .i64 d, .int .i64 0, .int .i64 0, .int .i64 0], .int .i64 0]) (by simp [results, Tryz.results110, go_sem, d0, d1, d2, d3, d4, d5]) rfl ⟨rfl, ?_⟩
    repeat (refine Below.setCell ?_ (by simp) _)
    exact B2
  · have h2 : d < b := by omega
    clear h
    go_enter Tryz.func110, Tryz.ntmps110
    go_wp2_with (first
      | (go_at_call 109; refine (r _).mono ?_; rintro e w1 ⟨rfl, HB⟩; obtain ⟨X, Y⟩ := two HB; clear r; obtain ⟨c0, c1, c2, c3, c4, c5, f0, f1, f2, f3, f4, f5⟩ := X)
      | (go_at_call 132; refine (c _).mono ?_; rintro e w2 ⟨rfl, hw⟩; clear c; have X2 : Ctl w2 w.heap.size 1 (n + 1) d 0 0 0 := (by rw [hw]; exact Ctl.set1 (Ctl.set2 ⟨c0, c1, c2, c3, c4, c5, f0, f1, f2, f3, f4, f5⟩ d) (n + 1)); have Y2 : Ctl w2 (w.heap.size + 1) 0 0 0 0 0 0 := (by rw [hw]; exact ((Y.far (by omega) _).far (by omega) _)); have B2 : Below w.heap.size w w2 := (by rw [hw]; exact (((up2 HB).setCell (by simp) _).setCell (by simp) _)); clear hw; clear Y c0 c1 c2 c3 c4 c5 f0 f1 f2 f3 f4 f5; obtain ⟨c0, c1, c2, c3, c4, c5, f0, f1, f2, f3, f4, f5⟩ := X2; obtain ⟨d0, d1, d2, d3, d4, d5, g0, g1, g2, g3, g4, g5⟩ := Y2))
    refine bodyPost_ret (v := .tuple #[.agg #[.int .i64 1, .int .i64 V, .int .i64 d, .int .i64 0, .int .i64 0, .int .i64 0], .int .i64 0]) (by simp [results, Tryz.results110, go_sem, d0, d1, d2, d3, d4, d5]) rfl ⟨rfl, ?_⟩
    repeat (refine Below.setCell ?_ (by simp) _)
    exact B2

set_option maxHeartbeats 1600000 in
theorem next_more (n b d V x p m : Int) (w : World) (hn : 1 ≤ n ∧ n ≤ 12) (r : ∀ v, Calls Tryz.prog 109 #[.agg #[.int .i64 1, .int .i64 n, .int .i64 b, .int .i64 0, .int .i64 0, .int .i64 0]] v fun e w' => e = .returned (.bool true) ∧ Below v.heap.size v w')
    (c : ∀ v, Calls Tryz.prog 132 #[.int .i64 (n + 1)] v fun e w' => e = .returned (.int .i64 V) ∧ w' = v) (h0 : 0 ≤ d) (h1 : d ≤ 1099511627776) (hb0 : decide (b < 0) = false) (hb1 : decide (d < b) = false) (hx : d - b = x) (hx0 : 0 ≤ x) (hx1 : x ≤ 1099511627776) (hp : n * x = p) (hp0 : 0 ≤ p) (hp1 : p ≤ 13194139533312)
    (hm2 : p.tdiv (1 + d) = m) (hm0 : 0 ≤ m) (hm1 : m ≤ 13194139533312) (h2 : decide (m < 1) = true) :
    Calls Tryz.prog 110 #[.agg #[.int .i64 1, .int .i64 n, .int .i64 b, .int .i64 0, .int .i64 0, .int .i64 0], .int .i64 d] w fun e w' => e = .returned (.tuple #[.agg #[.int .i64 1, .int .i64 V, .int .i64 b, .int .i64 0, .int .i64 0, .int .i64 0], .int .i64 0]) ∧ Below w.heap.size w w' := by
  go_enter Tryz.func110, Tryz.ntmps110
  go_wp2_with (first
    | (go_at_call 109; refine (r _).mono ?_; rintro e w1 ⟨rfl, HB⟩; obtain ⟨X, Y⟩ := two HB; clear r; obtain ⟨c0, c1, c2, c3, c4, c5, f0, f1, f2, f3, f4, f5⟩ := X)
    | (go_at_call 132; refine (c _).mono ?_; rintro e w2 ⟨rfl, hw⟩; clear c; have X2 : Ctl w2 w.heap.size 1 (n + 1) b 0 0 0 := (by rw [hw]; exact Ctl.set1 (show Ctl w1 w.heap.size 1 n b 0 0 0 from ⟨c0, c1, c2, c3, c4, c5, f0, f1, f2, f3, f4, f5⟩) (n + 1)); have Y2 : Ctl w2 (w.heap.size + 1) 0 0 0 0 0 0 := (by rw [hw]; exact (Y.far (by omega) _)); have B2 : Below w.heap.size w w2 := (by rw [hw]; exact ((up2 HB).setCell (by simp) _)); clear hw; clear Y c0 c1 c2 c3 c4 c5 f0 f1 f2 f3 f4 f5; obtain ⟨c0, c1, c2, c3, c4, c5, f0, f1, f2, f3, f4, f5⟩ := X2; obtain ⟨d0, d1, d2, d3, d4, d5, g0, g1, g2, g3, g4, g5⟩ := Y2))
  refine bodyPost_ret (v := .tuple #[.agg #[.int .i64 1, .int .i64 V, .int .i64 b, .int .i64 0, .int .i64 0, .int .i64 0], .int .i64 0]) (by simp [results, Tryz.results110, go_sem, d0, d1, d2, d3, d4, d5]) rfl ⟨rfl, ?_⟩
  repeat (refine Below.setCell ?_ (by simp) _)
  exact B2

set_option maxHeartbeats 1600000 in
theorem next_less (n b d V x p m : Int) (w : World) (hn : 1 ≤ n ∧ n ≤ 12) (r : ∀ v, Calls Tryz.prog 109 #[.agg #[.int .i64 1, .int .i64 n, .int .i64 b, .int .i64 0, .int .i64 0, .int .i64 0]] v fun e w' => e = .returned (.bool true) ∧ Below v.heap.size v w')
    (c : ∀ v, Calls Tryz.prog 132 #[.int .i64 (n - 1)] v fun e w' => e = .returned (.int .i64 V) ∧ w' = v) (h0 : 0 ≤ d) (h1 : d ≤ 1099511627776) (hb0 : decide (b < 0) = false) (hb1 : decide (d < b) = false) (hx : d - b = x) (hx0 : 0 ≤ x) (hx1 : x ≤ 1099511627776) (hp : n * x = p) (hp0 : 0 ≤ p) (hp1 : p ≤ 13194139533312)
    (hm2 : p.tdiv (1 + d) = m) (hm0 : 0 ≤ m) (hm1 : m ≤ 13194139533312) (h2 : decide (m < 1) = false) (h3 : decide (2 < m) = true) :
    Calls Tryz.prog 110 #[.agg #[.int .i64 1, .int .i64 n, .int .i64 b, .int .i64 0, .int .i64 0, .int .i64 0], .int .i64 d] w fun e w' => e = .returned (.tuple #[.agg #[.int .i64 1, .int .i64 V, .int .i64 b, .int .i64 0, .int .i64 0, .int .i64 0], .int .i64 0]) ∧ Below w.heap.size w w' := by
  go_enter Tryz.func110, Tryz.ntmps110
  go_wp2_with (first
    | (go_at_call 109; refine (r _).mono ?_; rintro e w1 ⟨rfl, HB⟩; obtain ⟨X, Y⟩ := two HB; clear r; obtain ⟨c0, c1, c2, c3, c4, c5, f0, f1, f2, f3, f4, f5⟩ := X)
    | (go_at_call 132; refine (c _).mono ?_; rintro e w2 ⟨rfl, hw⟩; clear c; have X2 : Ctl w2 w.heap.size 1 (n - 1) b 0 0 0 := (by rw [hw]; exact Ctl.set1 (show Ctl w1 w.heap.size 1 n b 0 0 0 from ⟨c0, c1, c2, c3, c4, c5, f0, f1, f2, f3, f4, f5⟩) (n - 1)); have Y2 : Ctl w2 (w.heap.size + 1) 0 0 0 0 0 0 := (by rw [hw]; exact (Y.far (by omega) _)); have B2 : Below w.heap.size w w2 := (by rw [hw]; exact ((up2 HB).setCell (by simp) _)); clear hw; clear Y c0 c1 c2 c3 c4 c5 f0 f1 f2 f3 f4 f5; obtain ⟨c0, c1, c2, c3, c4, c5, f0, f1, f2, f3, f4, f5⟩ := X2; obtain ⟨d0, d1, d2, d3, d4, d5, g0, g1, g2, g3, g4, g5⟩ := Y2))
  refine bodyPost_ret (v := .tuple #[.agg #[.int .i64 1, .int .i64 V, .int .i64 b, .int .i64 0, .int .i64 0, .int .i64 0], .int .i64 0]) (by simp [results, Tryz.results110, go_sem, d0, d1, d2, d3, d4, d5]) rfl ⟨rfl, ?_⟩
  repeat (refine Below.setCell ?_ (by simp) _)
  exact B2

set_option maxHeartbeats 1600000 in
theorem next_stay (n b d V x p m : Int) (w : World) (hn : 1 ≤ n ∧ n ≤ 12) (r : ∀ v, Calls Tryz.prog 109 #[.agg #[.int .i64 1, .int .i64 n, .int .i64 b, .int .i64 0, .int .i64 0, .int .i64 0]] v fun e w' => e = .returned (.bool true) ∧ Below v.heap.size v w')
    (c : ∀ v, Calls Tryz.prog 132 #[.int .i64 n] v fun e w' => e = .returned (.int .i64 V) ∧ w' = v) (h0 : 0 ≤ d) (h1 : d ≤ 1099511627776) (hb0 : decide (b < 0) = false) (hb1 : decide (d < b) = false) (hx : d - b = x) (hx0 : 0 ≤ x) (hx1 : x ≤ 1099511627776) (hp : n * x = p) (hp0 : 0 ≤ p) (hp1 : p ≤ 13194139533312)
    (hm2 : p.tdiv (1 + d) = m) (hm0 : 0 ≤ m) (hm1 : m ≤ 13194139533312) (h2 : decide (m < 1) = false) (h3 : decide (2 < m) = false) :
    Calls Tryz.prog 110 #[.agg #[.int .i64 1, .int .i64 n, .int .i64 b, .int .i64 0, .int .i64 0, .int .i64 0], .int .i64 d] w fun e w' => e = .returned (.tuple #[.agg #[.int .i64 1, .int .i64 V, .int .i64 b, .int .i64 0, .int .i64 0, .int .i64 0], .int .i64 0]) ∧ Below w.heap.size w w' := by
  go_enter Tryz.func110, Tryz.ntmps110
  go_wp2_with (first
    | (go_at_call 109; refine (r _).mono ?_; rintro e w1 ⟨rfl, HB⟩; obtain ⟨X, Y⟩ := two HB; clear r; obtain ⟨c0, c1, c2, c3, c4, c5, f0, f1, f2, f3, f4, f5⟩ := X)
    | (go_at_call 132; refine (c _).mono ?_; rintro e w2 ⟨rfl, hw⟩; clear c; have X2 : Ctl w2 w.heap.size 1 n b 0 0 0 := (by rw [hw]; exact show Ctl w1 w.heap.size 1 n b 0 0 0 from ⟨c0, c1, c2, c3, c4, c5, f0, f1, f2, f3, f4, f5⟩); have Y2 : Ctl w2 (w.heap.size + 1) 0 0 0 0 0 0 := (by rw [hw]; exact Y); have B2 : Below w.heap.size w w2 := (by rw [hw]; exact (up2 HB)); clear hw; clear Y c0 c1 c2 c3 c4 c5 f0 f1 f2 f3 f4 f5; obtain ⟨c0, c1, c2, c3, c4, c5, f0, f1, f2, f3, f4, f5⟩ := X2; obtain ⟨d0, d1, d2, d3, d4, d5, g0, g1, g2, g3, g4, g5⟩ := Y2))
  refine bodyPost_ret (v := .tuple #[.agg #[.int .i64 1, .int .i64 V, .int .i64 b, .int .i64 0, .int .i64 0, .int .i64 0], .int .i64 0]) (by simp [results, Tryz.results110, go_sem, d0, d1, d2, d3, d4, d5]) rfl ⟨rfl, ?_⟩
  repeat (refine Below.setCell ?_ (by simp) _)
  exact B2

theorem next_yes (k n b a s q d : Int) (w : World) (h : kright k n b a s q) (hd : inr d) :
    Calls Tryz.prog 110 #[.agg #[.int .i64 k, .int .i64 n, .int .i64 b, .int .i64 a, .int .i64 s, .int .i64 q], .int .i64 d] w fun e w' => e = .returned (.tuple #[.agg #[.int .i64 1, .int .i64 (nw n (d - nb b d) d), .int .i64 (nb b d), .int .i64 0, .int .i64 0, .int .i64 0], .int .i64 0]) ∧ Below w.heap.size w w' := by
  have r := fun v => right_any k n b a s q v
  rw [decide_eq_true h] at r
  obtain ⟨rfl, hn, ⟨hb0, hb1⟩, rfl, rfl, rfl⟩ := h
  have hdd := hd
  obtain ⟨h0, h1⟩ := hd
  by_cases hb : b < 0 ∨ d < b
  · have e : nb b d = d := by unfold nb; rw [if_pos hb]
    rw [e, show nw n (d - d) d = clip (n + 1) by unfold nw; rw [Int.sub_self, Int.mul_zero, if_pos (by omega)]]
    exact next_new n b d _ w hn r (within_any _) h0 h1 hb
  · have e : nb b d = b := by unfold nb; rw [if_neg hb]
    rw [e]
    obtain ⟨p0, p1⟩ := mul_in (n := n) (x := d - b) hn (by omega) (by omega)
    obtain ⟨q1, q2⟩ := more_lt (p := n * (d - b)) h0
    have tv : (n * (d - b)).tdiv (1 + d) = n * (d - b) / (1 + d) := Int.tdiv_eq_ediv_of_nonneg p0
    have m0 : 0 ≤ n * (d - b) / (1 + d) := Int.ediv_nonneg p0 (by omega)
    have m1 : n * (d - b) / (1 + d) ≤ n * (d - b) := Int.ediv_le_self _ p0
    unfold nw
    by_cases c1 : n * (d - b) < 1 + d
    · rw [if_pos c1]
      exact next_more n b d _ _ _ _ w hn r (within_any _) h0 h1 (decide_eq_false (by omega)) (decide_eq_false (by omega)) rfl (by omega) (by omega) rfl p0 p1 tv m0 (by omega) (decide_eq_true (q1.2 c1))
    · rw [if_neg c1]
      by_cases c2 : 3 * (1 + d) ≤ n * (d - b)
      · rw [if_pos c2]
        exact next_less n b d _ _ _ _ w hn r (within_any _) h0 h1 (decide_eq_false (by omega)) (decide_eq_false (by omega)) rfl (by omega) (by omega) rfl p0 p1 tv m0 (by omega) (decide_eq_false (fun c => c1 (q1.1 c))) (decide_eq_true (q2.2 c2))
      · rw [if_neg c2]
        refine next_stay n b d n _ _ _ w hn r (fun v => ?_) h0 h1 (decide_eq_false (by omega)) (decide_eq_false (by omega)) rfl (by omega) (by omega) rfl p0 p1 tv m0 (by omega) (decide_eq_false (fun c => c1 (q1.1 c))) (decide_eq_false (fun c => c2 (q2.1 c)))
        have := within_any n v
        rw [clip_is hn.1 hn.2] at this
        exact this

end Go.Proofs.YtjageagnclmnjabGreatDoor.V
