/- PROVED: what bench.Parse answers. bench.Parse reads just the texts that rules have. CONDITIONS: none beyond each theorem's own. -/
import Derived.Test.YtjageagnclmnjaaGreatDoorX05Spl
namespace Go.Proofs.YtjageagnclmnjaaGreatDoor.D
set_option maxRecDepth 100000
open Go.RowKit K
set_option linter.unusedVariables false

/-- what lies there while the parts are read -/
structure Ps (w : World) (P : Nat) (p0 p1 p2 p3 p4 : ByteArray) (v : World) : Prop where
  l0 : Lw w
  lw : Lw v
  c0 : v.cell? ⟨P, 0, none⟩ = some (.string p0)
  c1 : v.cell? ⟨P, 1, none⟩ = some (.string p1)
  c2 : v.cell? ⟨P, 2, none⟩ = some (.string p2)
  c3 : v.cell? ⟨P, 3, none⟩ = some (.string p3)
  c4 : v.cell? ⟨P, 4, none⟩ = some (.string p4)
  z : Rul v w.heap.size 0 0 0 0 0
  b : Below w.heap.size w v
section
variable {w v v' : World} {P : Nat} {p0 p1 p2 p3 p4 : ByteArray}
theorem Ps.kept (h : Ps w P p0 p1 p2 p3 p4 v) (g : Below v.heap.size v v') : Ps w P p0 p1 p2 p3 p4 v' := by
  have hl : P < v.heap.size := block_lt h.c0
  have c : ∀ o, v'.cell? ⟨P, o, none⟩ = v.cell? ⟨P, o, none⟩ := fun o => g.cell (p := ⟨P, o, none⟩) hl
  exact ⟨h.l0, h.lw.kept g, (c 0).trans h.c0, (c 1).trans h.c1, (c 2).trans h.c2, (c 3).trans h.c3, (c 4).trans h.c4, h.z.kept g, bthen h.b g⟩
theorem Ps.alloc (h : Ps w P p0 p1 p2 p3 p4 v) (o : Obj) : Ps w P p0 p1 p2 p3 p4 (v.alloc o) := h.kept (balloc (Below.refl _ _) _)
theorem Ps.drew (h : Ps w P p0 p1 p2 p3 p4 v) : Ps w P p0 p1 p2 p3 p4 v.drew := h.kept (below_drewN (Below.refl _ _) 1)
theorem Ps.five (h : Ps w P p0 p1 p2 p3 p4 v) : v.cell? ⟨P, 0, none⟩ = some (.string p0) ∧ v.cell? ⟨P, 1, none⟩ = some (.string p1) ∧ v.cell? ⟨P, 2, none⟩ = some (.string p2) ∧ v.cell? ⟨P, 3, none⟩ = some (.string p3) ∧ v.cell? ⟨P, 4, none⟩ = some (.string p4) := ⟨h.c0, h.c1, h.c2, h.c3, h.c4⟩
theorem Ps.far {D o : Nat} (h : Ps w P p0 p1 p2 p3 p4 v) (h1 : D ≠ P) (h2 : w.heap.size < D) (x : Value) : Ps w P p0 p1 p2 p3 p4 (v.setCell ⟨D, o, none⟩ x) := by
  have b := Below.setCell h.b (p := ⟨D, o, none⟩) (Nat.le_of_lt h2) x
  have c : ∀ k, (v.setCell ⟨D, o, none⟩ x).cell? ⟨P, k, none⟩ = v.cell? ⟨P, k, none⟩ := fun k => World.cell?_setCell_other _ _ _ _ (fun p => h1 (by injection p))
  exact ⟨h.l0, h.l0.kept b, (c 0).trans h.c0, (c 1).trans h.c1, (c 2).trans h.c2, (c 3).trans h.c3, (c 4).trans h.c4, h.z.far (by omega) x, b⟩
theorem Ps.put {D : Nat} (h : Ps w P p0 p1 p2 p3 p4 v) (h1 : D ≠ P) (h2 : w.heap.size < D) (x0 x1 x2 x3 x4 : Value) : Ps w P p0 p1 p2 p3 p4 (((((v.setCell ⟨D, 0, none⟩ x0).setCell ⟨D, 1, none⟩ x1).setCell ⟨D, 2, none⟩ x2).setCell ⟨D, 3, none⟩ x3).setCell ⟨D, 4, none⟩ x4) :=
  ((((h.far h1 h2 x0).far h1 h2 x1).far h1 h2 x2).far h1 h2 x3).far h1 h2 x4
theorem Ps.new (h : Ps w (w.heap.size + 1) p0 p1 p2 p3 p4 v) : v.heap.size ≠ w.heap.size + 1 ∧ w.heap.size < v.heap.size := by
  have := block_lt h.c0
  exact ⟨by simp only at this; omega, by simp only at this; omega⟩
end

set_option maxRecDepth 100000 in
set_option maxHeartbeats 3200000 in
theorem parse_no (s : ByteArray) (hs : s.size ≤ 140737488355328) (h5 : (wds s.data.toList).length ≠ 5) (w : World) :
    Calls Tryz.prog 13 #[.string s] w fun e w' => e = .returned (.tuple #[.agg #[.int .i64 0, .int .i64 0, .int .i64 0, .int .i64 0, .int .i64 0], .int .i64 1]) ∧ Below w.heap.size w w' := by
  obtain ⟨n, N, hn, c⟩ := split_no s hs h5
  have Z := Rul.new w _ rfl 0 0 0 0 0
  have B : Below w.heap.size w (w.alloc (.cells #[.int .i64 0, .int .i64 0, .int .i64 0, .int .i64 0, .int .i64 0] 33)) := balloc (Below.refl _ _) _
  go_enter Tryz.func13, Tryz.ntmps13
  go_wp2_with (go_at_call 28; refine (c _).mono ?_; clear c; rintro x v ⟨rfl, b⟩; replace Z := Z.kept b; replace B := bthen B b; obtain ⟨z0, z1, z2, z3, z4, y0, y1, y2, y3, y4⟩ := id Z)
  refine bodyPost_ret (v := .tuple #[.agg #[.int .i64 0, .int .i64 0, .int .i64 0, .int .i64 0, .int .i64 0], .int .i64 1]) ?_ rfl ⟨rfl, ?_⟩
  · simp [results, Tryz.results13, go_sem, z0, z1, z2, z3, z4]
  · repeat (with_reducible refine Below.setCell ?_ (by simp) _)
    exact B

set_option maxRecDepth 100000 in
set_option maxHeartbeats 6400000 in
theorem parse_of (s p0 p1 p2 p3 p4 u : ByteArray) (N : Nat) (K0 K1 M0 M1 M2 E : Int) (w : World) (L : Lw w)
    (c : ∀ w, Calls Tryz.prog 28 #[.string s, .string bl, .int .i64 6] w fun e w' => e = .returned (.slice (some ⟨w.heap.size, 0, none⟩) 5 N) ∧ (w'.cell? ⟨w.heap.size, 0, none⟩ = some (.string p0) ∧ w'.cell? ⟨w.heap.size, 1, none⟩ = some (.string p1) ∧ w'.cell? ⟨w.heap.size, 2, none⟩ = some (.string p2) ∧ w'.cell? ⟨w.heap.size, 3, none⟩ = some (.string p3) ∧ w'.cell? ⟨w.heap.size, 4, none⟩ = some (.string p4)) ∧ Below w.heap.size w w')
    (k0 : ∀ v, Lw v → Calls Tryz.prog 29 #[.string p0] v fun e w' => e = .returned (.int .i64 K0) ∧ w' = v)
    (k1 : ∀ v, Lw v → Calls Tryz.prog 29 #[.string p1] v fun e w' => e = .returned (.int .i64 K1) ∧ w' = v)
    (m0 : ∀ v, Lw v → Calls Tryz.prog 30 #[.string p2] v fun e w' => e = .returned (.int .i64 M0) ∧ Below v.heap.size v w')
    (m1 : ∀ v, Lw v → Calls Tryz.prog 30 #[.string p3] v fun e w' => e = .returned (.int .i64 M1) ∧ Below v.heap.size v w')
    (m2 : ∀ v, Lw v → Calls Tryz.prog 30 #[.string p4] v fun e w' => e = .returned (.int .i64 M2) ∧ Below v.heap.size v w')
    (pr : ∀ v, Lw v → Calls Tryz.prog 23 #[.agg #[.int .i64 K0, .int .i64 K1, .int .i64 M0, .int .i64 M1, .int .i64 M2]] v fun e w' => e = .returned (.tuple #[.string u, .int .i64 E]) ∧ Below v.heap.size v w')
    (t0 t1 : Bool) (h0 : (E != 0) = t0) (h1 : (u.toList == s.toList) = !t1) :
    Calls Tryz.prog 13 #[.string s] w fun e w' => e = .returned (if t0 || t1 then .tuple #[.agg #[.int .i64 0, .int .i64 0, .int .i64 0, .int .i64 0, .int .i64 0], .int .i64 1] else .tuple #[.agg #[.int .i64 K0, .int .i64 K1, .int .i64 M0, .int .i64 M1, .int .i64 M2], .int .i64 0]) ∧ Below w.heap.size w w' := by
  have Z := Rul.new w _ rfl 0 0 0 0 0
  have B : Below w.heap.size w (w.alloc (.cells #[.int .i64 0, .int .i64 0, .int .i64 0, .int .i64 0, .int .i64 0] 33)) := balloc (Below.refl _ _) _
  have hP : (w.alloc (.cells #[.int .i64 0, .int .i64 0, .int .i64 0, .int .i64 0, .int .i64 0] 33)).heap.size = w.heap.size + 1 := by simp
  have L0 := L
  replace L := L.kept B
  go_enter Tryz.func13, Tryz.ntmps13
  go_wp2_with (go_at_call 28; refine (c _).mono ?_; clear c; rintro x v ⟨rfl, ⟨a0, a1, a2, a3, a4⟩, b⟩; rw [hP] at a0 a1 a2 a3 a4; have T : Ps w (w.heap.size + 1) p0 p1 p2 p3 p4 v := ⟨L0, L.kept b, a0, a1, a2, a3, a4, Z.kept b, bthen B b⟩; clear a0 a1 a2 a3 a4 Z L B b)
  go_region_held3 (fun w' => w'.cell? ⟨w.heap.size + 1, 0, none⟩ = some (.string p0) ∧ w'.cell? ⟨w.heap.size + 1, 1, none⟩ = some (.string p1) ∧ w'.cell? ⟨w.heap.size + 1, 2, none⟩ = some (.string p2) ∧ w'.cell? ⟨w.heap.size + 1, 3, none⟩ = some (.string p3) ∧ w'.cell? ⟨w.heap.size + 1, 4, none⟩ = some (.string p4))
    (first | with_reducible exact (T.put hne.1 hne.2 _ _ _ _ _).five | with_reducible exact T.five | with_reducible exact T.drew.five | with_reducible exact (T.drewN 1).five | with_reducible exact (T.alloc _).five | with_reducible exact (T.drew.alloc _).five | with_reducible exact ((T.drewN 1).alloc _).five | with_reducible exact (T.alloc _).drew.five | with_reducible exact ((T.alloc _).drewN 1).five)
    (first
    | (go_at_call 29; with_reducible refine (k0 _ (by first | with_reducible exact T.lw | with_reducible exact T.drew.lw | with_reducible exact (T.drewN 1).lw | with_reducible exact (T.alloc _).lw | with_reducible exact (T.drew.alloc _).lw | with_reducible exact ((T.drewN 1).alloc _).lw | with_reducible exact (T.alloc _).drew.lw | with_reducible exact ((T.alloc _).drewN 1).lw)).mono ?_; rintro x v1 ⟨rfl, rfl⟩)
    | (go_at_call 29; with_reducible refine (k1 _ (by first | with_reducible exact T.lw | with_reducible exact T.drew.lw | with_reducible exact (T.drewN 1).lw | with_reducible exact (T.alloc _).lw | with_reducible exact (T.drew.alloc _).lw | with_reducible exact ((T.drewN 1).alloc _).lw | with_reducible exact (T.alloc _).drew.lw | with_reducible exact ((T.alloc _).drewN 1).lw)).mono ?_; rintro x v1 ⟨rfl, rfl⟩)
    | (go_at_call 30; with_reducible refine (m0 _ (by first | with_reducible exact T.lw | with_reducible exact T.drew.lw | with_reducible exact (T.drewN 1).lw | with_reducible exact (T.alloc _).lw | with_reducible exact (T.drew.alloc _).lw | with_reducible exact ((T.drewN 1).alloc _).lw | with_reducible exact (T.alloc _).drew.lw | with_reducible exact ((T.alloc _).drewN 1).lw)).mono ?_; rintro x v2 ⟨rfl, b⟩; (first | (with_reducible have R := (Rul.new _ _ rfl 0 0 0 0 0).kept b; have hne := T.new) | (with_reducible have R := (Rul.new _ _ rfl 0 0 0 0 0).drew.kept b; have hne := T.new) | (with_reducible replace R := Rul.kept R b) | (with_reducible replace R := Rul.kept R.drew b) | skip); (first | (with_reducible replace T := Ps.kept T b) | (with_reducible replace T := Ps.kept T.drew b) | (with_reducible replace T := Ps.kept (T.drewN 1) b) | (with_reducible replace T := Ps.kept (T.alloc _) b) | (with_reducible replace T := Ps.kept (T.drew.alloc _) b) | (with_reducible replace T := Ps.kept ((T.drewN 1).alloc _) b) | (with_reducible replace T := Ps.kept (T.alloc _).drew b) | (with_reducible replace T := Ps.kept ((T.alloc _).drewN 1) b)); clear b)
    | (go_at_call 30; with_reducible refine (m1 _ (by first | with_reducible exact T.lw | with_reducible exact T.drew.lw | with_reducible exact (T.drewN 1).lw | with_reducible exact (T.alloc _).lw | with_reducible exact (T.drew.alloc _).lw | with_reducible exact ((T.drewN 1).alloc _).lw | with_reducible exact (T.alloc _).drew.lw | with_reducible exact ((T.alloc _).drewN 1).lw)).mono ?_; rintro x v3 ⟨rfl, b⟩; (first | (with_reducible have R := (Rul.new _ _ rfl 0 0 0 0 0).kept b; have hne := T.new) | (with_reducible have R := (Rul.new _ _ rfl 0 0 0 0 0).drew.kept b; have hne := T.new) | (with_reducible replace R := Rul.kept R b) | (with_reducible replace R := Rul.kept R.drew b) | skip); (first | (with_reducible replace T := Ps.kept T b) | (with_reducible replace T := Ps.kept T.drew b) | (with_reducible replace T := Ps.kept (T.drewN 1) b) | (with_reducible replace T := Ps.kept (T.alloc _) b) | (with_reducible replace T := Ps.kept (T.drew.alloc _) b) | (with_reducible replace T := Ps.kept ((T.drewN 1).alloc _) b) | (with_reducible replace T := Ps.kept (T.alloc _).drew b) | (with_reducible replace T := Ps.kept ((T.alloc _).drewN 1) b)); clear b)
    | (go_at_call 30; with_reducible refine (m2 _ (by first | with_reducible exact T.lw | with_reducible exact T.drew.lw | with_reducible exact (T.drewN 1).lw | with_reducible exact (T.alloc _).lw | with_reducible exact (T.drew.alloc _).lw | with_reducible exact ((T.drewN 1).alloc _).lw | with_reducible exact (T.alloc _).drew.lw | with_reducible exact ((T.alloc _).drewN 1).lw)).mono ?_; rintro x v4 ⟨rfl, b⟩; (first | (with_reducible have R := (Rul.new _ _ rfl 0 0 0 0 0).kept b; have hne := T.new) | (with_reducible have R := (Rul.new _ _ rfl 0 0 0 0 0).drew.kept b; have hne := T.new) | (with_reducible replace R := Rul.kept R b) | (with_reducible replace R := Rul.kept R.drew b) | skip); (first | (with_reducible replace T := Ps.kept T b) | (with_reducible replace T := Ps.kept T.drew b) | (with_reducible replace T := Ps.kept (T.drewN 1) b) | (with_reducible replace T := Ps.kept (T.alloc _) b) | (with_reducible replace T := Ps.kept (T.drew.alloc _) b) | (with_reducible replace T := Ps.kept ((T.drewN 1).alloc _) b) | (with_reducible replace T := Ps.kept (T.alloc _).drew b) | (with_reducible replace T := Ps.kept ((T.alloc _).drewN 1) b)); (try obtain ⟨r0, r1, r2, r3, r4, g0, g1, g2, g3, g4⟩ := id R); clear b))
  all_goals
    first
    | (with_reducible have X := R.put K0 K1 M0 M1 M2; with_reducible have T5 := T.put hne.1 hne.2 (.int .i64 K0) (.int .i64 K1) (.int .i64 M0) (.int .i64 M1) (.int .i64 M2); have hq := hne.2; clear r0 r1 r2 r3 r4 g0 g1 g2 g3 g4 R hne)
    | (have X := Rul.new v4 _ rfl K0 K1 M0 M1 M2; have T5 := T.alloc (.cells #[.int .i64 K0, .int .i64 K1, .int .i64 M0, .int .i64 M1, .int .i64 M2] 33); have hq := T.new.2)
    obtain ⟨x0, x1, x2, x3, x4, -, -, -, -, -⟩ := id X
    clear T k0 k1 m0 m1 m2
    cases t0
    case' false => cases t1
    all_goals
      go_wp2_with (go_at_call 23; with_reducible refine (pr _ T5.lw).mono ?_; clear pr x0 x1 x2 x3 x4; rintro x v6 ⟨rfl, b⟩; replace X := X.kept b; replace T5 := T5.kept b; clear b; obtain ⟨x0, x1, x2, x3, x4, -, -, -, -, -⟩ := id X; obtain ⟨z0, z1, z2, z3, z4, y0, y1, y2, y3, y4⟩ := id T5.z)
      refine bodyPost_ret ?_ rfl ⟨rfl, ?_⟩
      · simp [results, Tryz.results13, go_sem, z0, z1, z2, z3, z4]
      · repeat (with_reducible refine Below.setCell ?_ (by simp) _)
        exact T5.b
end Go.Proofs.YtjageagnclmnjaaGreatDoor.D

namespace Go.Proofs.YtjageagnclmnjaaGreatDoor.D
set_option maxRecDepth 100000
open Go.RowKit K
set_option linter.unusedVariables false

/-- a text is that of rules that hold -/
def Rd (l : List UInt8) (r : Ru) : Prop := wrong r = 0 ∧ tx r = l
theorem kd_nme {k : Int} (h : 1 ≤ k ∧ k ≤ 3) : kd (nme k) = k := by
  rcases (show k = 1 ∨ k = 2 ∨ k = 3 by omega) with rfl | rfl | rfl <;> rfl
theorem nb_of {n : Int} (h : 0 ≤ n ∧ n ≤ 16) : nb (dig n.toNat) = n := by
  have := nb_dig n.toNat (by omega)
  show nb (Lib.decDigits n.toNat) = n
  omega
theorem same_text {l : List UInt8} {s : ByteArray} {b : Bool} (h : decide (l = s.data.toList) = b) : ((ByteArray.mk l.toArray).toList == s.toList) = b := by
  rw [same_is, ← h]
  congr 1
  exact propext ⟨fun e => e.symm, fun e => e.symm⟩

theorem parse_rd (s : ByteArray) (hs : s.size ≤ 140737488355328) (r : Ru) (h : Rd s.data.toList r) (w : World) (L : Lw w) :
    Calls Tryz.prog 13 #[.string s] w fun e w' => e = .returned (.tuple #[.agg #[.int .i64 r.k0, .int .i64 r.k1, .int .i64 r.r, .int .i64 r.m, .int .i64 r.j], .int .i64 0]) ∧ Below w.heap.size w w' := by
  obtain ⟨hk, hr⟩ := rgt_of h.1
  have hw := tx_words hr
  rw [h.2] at hw
  obtain ⟨p0, p1, p2, p3, p4, N, hp, ⟨z0, z1, z2, z3, z4⟩, c⟩ := split_yes s hs (by rw [hw]; rfl)
  rw [hp] at hw
  simp only [List.cons.injEq, and_true] at hw
  obtain ⟨e0, e1, e2, e3, e4⟩ := hw
  unfold kinds at hk
  unfold ranges at hr
  have k0 : ∀ v, Lw v → Calls Tryz.prog 29 #[.string p0] v fun e w' => e = .returned (.int .i64 r.k0) ∧ w' = v := fun v l => by
    have := kindof p0 v l
    rwa [e0, kd_nme hk.1] at this
  have k1 : ∀ v, Lw v → Calls Tryz.prog 29 #[.string p1] v fun e w' => e = .returned (.int .i64 r.k1) ∧ w' = v := fun v l => by
    have := kindof p1 v l
    rwa [e1, kd_nme hk.2] at this
  have m0 : ∀ v, Lw v → Calls Tryz.prog 30 #[.string p2] v fun e w' => e = .returned (.int .i64 r.r) ∧ Below v.heap.size v w' := fun v l => by
    have := numberof p2 (by omega) v l
    rwa [e2, nb_of (by omega)] at this
  have m1 : ∀ v, Lw v → Calls Tryz.prog 30 #[.string p3] v fun e w' => e = .returned (.int .i64 r.m) ∧ Below v.heap.size v w' := fun v l => by
    have := numberof p3 (by omega) v l
    rwa [e3, nb_of (by omega)] at this
  have m2 : ∀ v, Lw v → Calls Tryz.prog 30 #[.string p4] v fun e w' => e = .returned (.int .i64 r.j) ∧ Below v.heap.size v w' := fun v l => by
    have := numberof p4 (by omega) v l
    rwa [e4, nb_of (by omega)] at this
  exact parse_of s p0 p1 p2 p3 p4 ⟨(tx r).toArray⟩ N r.k0 r.k1 r.r r.m r.j 0 w L c k0 k1 m0 m1 m2 (fun v l => print_yes r h.1 v l) false false rfl (same_text (decide_eq_true h.2))

theorem parse_not (s : ByteArray) (hs : s.size ≤ 140737488355328) (h : ∀ r, ¬ Rd s.data.toList r) (w : World) (L : Lw w) :
    Calls Tryz.prog 13 #[.string s] w fun e w' => e = .returned (.tuple #[.agg #[.int .i64 0, .int .i64 0, .int .i64 0, .int .i64 0, .int .i64 0], .int .i64 1]) ∧ Below w.heap.size w w' := by
  by_cases h5 : (wds s.data.toList).length = 5
  · obtain ⟨p0, p1, p2, p3, p4, N, hp, ⟨z0, z1, z2, z3, z4⟩, c⟩ := split_yes s hs h5
    have k0 := fun v l => kindof p0 v l
    have k1 := fun v l => kindof p1 v l
    have m0 := fun v l => numberof p2 (by omega) v l
    have m1 := fun v l => numberof p3 (by omega) v l
    have m2 := fun v l => numberof p4 (by omega) v l
    obtain ⟨r, hr⟩ : ∃ r : Ru, r = ⟨kd p0.data.toList, kd p1.data.toList, nb p2.data.toList, nb p3.data.toList, nb p4.data.toList⟩ := ⟨_, rfl⟩
    by_cases hE : wrong r = 0
    · have hne : ¬ tx r = s.data.toList := fun e => h r ⟨hE, e⟩
      have pr := fun v l => print_yes r hE v l
      subst hr
      exact parse_of s p0 p1 p2 p3 p4 ⟨(tx _).toArray⟩ N _ _ _ _ _ 0 w L c k0 k1 m0 m1 m2 pr false true rfl (same_text (decide_eq_false hne))
    · have he : (wrong r != 0) = true := by simpa using hE
      have pr := fun v (_ : Lw v) => print_no r (wrong r) rfl he v
      subst hr
      have q := parse_of s p0 p1 p2 p3 p4 ⟨#[]⟩ N _ _ _ _ _ _ w L c k0 k1 m0 m1 m2 pr true (!((ByteArray.mk #[]).toList == s.toList)) he (by rw [Bool.not_not])
      simpa using q
  · exact parse_no s hs h5 w
end Go.Proofs.YtjageagnclmnjaaGreatDoor.D
