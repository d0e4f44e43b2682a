/- PROVED: what bench.Parse answers. bench.Parse reads just the texts that rules have. states that are found one after another, on plain lists: each is there once, nothing else is come to, what leads to each is the shortest. CONDITIONS: none beyond each theorem's own. -/
import Derived.Test.YtjageagnclmnjaaGreatDoorB05Spl
namespace Go.Proofs.YtjageagnclmnjaaGreatDoor.D
set_option maxRecDepth 100000
open Go.RowKit K
set_option linter.unusedVariables false

/-- what lies there while the parts are read -/
structure Ps (w : World) (P : Nat) (p0 p1 p2 p3 p4 : ByteArray) (v : World) : Prop where
  l0 : Lw w
  lw : Lw v
  c0 : v.cell? ⟨P, 0, none⟩ = some (.string p0)
  c1 : v.cell? ⟨P, 1, none⟩ = some (.string p1)
  c2 : v.cell? ⟨P, 2, none⟩ = some (.string p2)
  c3 : v.cell? ⟨P, 3, none⟩ = some (.string p3)
  c4 : v.cell? ⟨P, 4, none⟩ = some (.string p4)
  z : Rul v w.heap.size 0 0 0 0 0
  b : Below w.heap.size w v
section
variable {w v v' : World} {P : Nat} {p0 p1 p2 p3 p4 : ByteArray}
theorem Ps.kept (h : Ps w P p0 p1 p2 p3 p4 v) (g : Below v.heap.size v v') : Ps w P p0 p1 p2 p3 p4 v' := by
  have hl : P < v.heap.size := block_lt h.c0
  have c : ∀ o, v'.cell? ⟨P, o, none⟩ = v.cell? ⟨P, o, none⟩ := fun o => g.cell (p := ⟨P, o, none⟩) hl
  exact ⟨h.l0, h.lw.kept g, (c 0).trans h.c0, (c 1).trans h.c1, (c 2).trans h.c2, (c 3).trans h.c3, (c 4).trans h.c4, h.z.kept g, bthen h.b g⟩
theorem Ps.alloc (h : Ps w P p0 p1 p2 p3 p4 v) (o : Obj) : Ps w P p0 p1 p2 p3 p4 (v.alloc o) := h.kept (balloc (Below.refl _ _) _)
theorem Ps.drew (h : Ps w P p0 p1 p2 p3 p4 v) : Ps w P p0 p1 p2 p3 p4 v.drew := h.kept (below_drewN (Below.refl _ _) 1)
theorem Ps.five (h : Ps w P p0 p1 p2 p3 p4 v) : v.cell? ⟨P, 0, none⟩ = some (.string p0) ∧ v.cell? ⟨P, 1, none⟩ = some (.string p1) ∧ v.cell? ⟨P, 2, none⟩ = some (.string p2) ∧ v.cell? ⟨P, 3, none⟩ = some (.string p3) ∧ v.cell? ⟨P, 4, none⟩ = some (.string p4) := ⟨h.c0, h.c1, h.c2, h.c3, h.c4⟩
theorem Ps.far {D o : Nat} (h : Ps w P p0 p1 p2 p3 p4 v) (h1 : D ≠ P) (h2 : w.heap.size < D) (x : Value) : Ps w P p0 p1 p2 p3 p4 (v.setCell ⟨D, o, none⟩ x) := by
  have b := Below.setCell h.b (p := ⟨D, o, none⟩) (Nat.le_of_lt h2) x
  have c : ∀ k, (v.setCell ⟨D, o, none⟩ x).cell? ⟨P, k, none⟩ = v.cell? ⟨P, k, none⟩ := fun k => World.cell?_setCell_other _ _ _ _ (fun p => h1 (by injection p))
  exact ⟨h.l0, h.l0.kept b, (c 0).trans h.c0, (c 1).trans h.c1, (c 2).trans h.c2, (c 3).trans h.c3, (c 4).trans h.c4, h.z.far (by omega) x, b⟩
theorem Ps.put {D : Nat} (h : Ps w P p0 p1 p2 p3 p4 v) (h1 : D ≠ P) (h2 : w.heap.size < D) (x0 x1 x2 x3 x4 : Value) : Ps w P p0 p1 p2 p3 p4 (((((v.setCell ⟨D, 0, none⟩ x0).setCell ⟨D, 1, none⟩ x1).setCell ⟨D, 2, none⟩ x2).setCell ⟨D, 3, none⟩ x3).setCell ⟨D, 4, none⟩ x4) :=
  ((((h.far h1 h2 x0).far h1 h2 x1).far h1 h2 x2).far h1 h2 x3).far h1 h2 x4
theorem Ps.new (h : Ps w (w.heap.size + 1) p0 p1 p2 p3 p4 v) : v.heap.size ≠ w.heap.size + 1 ∧ w.heap.size < v.heap.size := by
  have := block_lt h.c0
  exact ⟨by simp only at this; omega, by simp only at this; omega⟩
end

set_option maxRecDepth 100000 in
set_option maxHeartbeats 3200000 in
theorem parse_no (s : ByteArray) (hs : s.size ≤ 140737488355328) (h5 : (wds s.data.toList).length ≠ 5) (w : World) :
    Calls Tryz.prog 13 #[.string s] w fun e w' => e = .returned (.tuple #[.agg #[.int .i64 0, .int .i64 0, .int .i64 0, .int .i64 0, .int .i64 0], .int .i64 1]) ∧ Below w.heap.size w w' := by
  obtain ⟨n, N, hn, c⟩ := split_no s hs h5
  have Z := Rul.new w _ rfl 0 0 0 0 0
  have B : Below w.heap.size w (w.alloc (.cells #[.int .i64 0, .int .i64 0, .int .i64 0, .int .i64 0, .int .i64 0] 33)) := balloc (Below.refl _ _) _
  go_enter Tryz.func13, Tryz.ntmps13
  go_wp2_with (go_at_call 28; refine (c _).mono ?_; clear c; rintro x v ⟨rfl, b⟩; replace Z := Z.kept b; replace B := bthen B b; obtain ⟨z0, z1, z2, z3, z4, y0, y1, y2, y3, y4⟩ := id Z)
  refine bodyPost_ret (v := .tuple #[.agg #[.int .i64 0, .int .i64 0, .int .i64 0, .int .i64 0, .int .i64 0], .int .i64 1]) ?_ rfl ⟨rfl, ?_⟩
  · simp [results, Tryz.results13, go_sem, z0, z1, z2, z3, z4]
  · repeat (with_reducible refine Below.setCell ?_ (by simp) _)
    exact B

set_option maxRecDepth 100000 in
set_option maxHeartbeats 6400000 in
theorem parse_of (s p0 p1 p2 p3 p4 u : ByteArray) (N : Nat) (K0 K1 M0 M1 M2 E : Int) (w : World) (L : Lw w)
    (c : ∀ w, Calls Tryz.prog 28 #[.string s, .string bl, .int .i64 6] w fun e w' => e = .returned (.slice (some ⟨w.heap.size, 0, none⟩) 5 N) ∧ (w'.cell? ⟨w.heap.size, 0, none⟩ = some (.string p0) ∧ w'.cell? ⟨w.heap.size, 1, none⟩ = some (.string p1) ∧ w'.cell? ⟨w.heap.size, 2, none⟩ = some (.string p2) ∧ w'.cell? ⟨w.heap.size, 3, none⟩ = some (.string p3) ∧ w'.cell? ⟨w.heap.size, 4, none⟩ = some (.string p4)) ∧ Below w.heap.size w w')
    (k0 : ∀ v, Lw v → Calls Tryz.prog 29 #[.string p0] v fun e w' => e = .returned (.int .i64 K0) ∧ w' = v)
    (k1 : ∀ v, Lw v → Calls Tryz.prog 29 #[.string p1] v fun e w' => e = .returned (.int .i64 K1) ∧ w' = v)
    (m0 : ∀ v, Lw v → Calls Tryz.prog 30 #[.string p2] v fun e w' => e = .returned (.int .i64 M0) ∧ Below v.heap.size v w')
    (m1 : ∀ v, Lw v → Calls Tryz.prog 30 #[.string p3] v fun e w' => e = .returned (.int .i64 M1) ∧ Below v.heap.size v w')
    (m2 : ∀ v, Lw v → Calls Tryz.prog 30 #[.string p4] v fun e w' => e = .returned (.int .i64 M2) ∧ Below v.heap.size v w')
    (pr : ∀ v, Lw v → Calls Tryz.prog 23 #[.agg #[.int .i64 K0, .int .i64 K1, .int .i64 M0, .int .i64 M1, .int .i64 M2]] v fun e w' => e = .returned (.tuple #[.string u, .int .i64 E]) ∧ Below v.heap.size v w')
    (t0 t1 : Bool) (h0 : (E != 0) = t0) (h1 : (u.toList == s.toList) = !t1) :
    Calls Tryz.prog 13 #[.string s] w fun e w' => e = .returned (if t0 || t1 then .tuple #[.agg #[.int .i64 0, .int .i64 0, .int .i64 0, .int .i64 0, .int .i64 0], .int .i64 1] else .tuple #[.agg #[.int .i64 K0, .int .i64 K1, .int .i64 M0, .int .i64 M1, .int .i64 M2], .int .i64 0]) ∧ Below w.heap.size w w' := by
  have Z := Rul.new w _ rfl 0 0 0 0 0
  have B : Below w.heap.size w (w.alloc (.cells #[.int .i64 0, .int .i64 0, .int .i64 0, .int .i64 0, .int .i64 0] 33)) := balloc (Below.refl _ _) _
  have hP : (w.alloc (.cells #[.int .i64 0, .int .i64 0, .int .i64 0, .int .i64 0, .int .i64 0] 33)).heap.size = w.heap.size + 1 := by simp
  have L0 := L
  replace L := L.kept B
  go_enter Tryz.func13, Tryz.ntmps13
  go_wp2_with (go_at_call 28; refine (c _).mono ?_; clear c; rintro x v ⟨rfl, ⟨a0, a1, a2, a3, a4⟩, b⟩; rw [hP] at a0 a1 a2 a3 a4; have T : Ps w (w.heap.size + 1) p0 p1 p2 p3 p4 v := ⟨L0, L.kept b, a0, a1, a2, a3, a4, Z.kept b, bthen B b⟩; clear a0 a1 a2 a3 a4 Z L B b)
  go_region_held3 (fun w' => w'.cell? ⟨w.heap.size + 1, 0, none⟩ = some (.string p0) ∧ w'.cell? ⟨w.heap.size + 1, 1, none⟩ = some (.string p1) ∧ w'.cell? ⟨w.heap.size + 1, 2, none⟩ = some (.string p2) ∧ w'.cell? ⟨w.heap.size + 1, 3, none⟩ = some (.string p3) ∧ w'.cell? ⟨w.heap.size + 1, 4, none⟩ = some (.string p4))
    (first | with_reducible exact (T.put hne.1 hne.2 _ _ _ _ _).five | with_reducible exact T.five | with_reducible exact T.drew.five | with_reducible exact (T.drewN 1).five | with_reducible exact (T.alloc _).five | with_reducible exact (T.drew.alloc _).five | with_reducible exact ((T.drewN 1).alloc _).five | with_reducible exact (T.alloc _).drew.five | with_reducible exact ((T.alloc _).drewN 1).five)
    (first
    | (go_at_call 29; with_reducible refine (k0 _ (by first | with_reducible exact T.lw | with_reducible exact T.drew.lw | with_reducible exact (T.drewN 1).lw | with_reducible exact (T.alloc _).lw | with_reducible exact (T.drew.alloc _).lw | with_reducible exact ((T.drewN 1).alloc _).lw | with_reducible exact (T.alloc _).drew.lw | with_reducible exact ((T.alloc _).drewN 1).lw)).mono ?_; rintro x v1 ⟨rfl, rfl⟩)
    | (go_at_call 29; with_reducible refine (k1 _ (by first | with_reducible exact T.lw | with_reducible exact T.drew.lw | with_reducible exact (T.drewN 1).lw | with_reducible exact (T.alloc _).lw | with_reducible exact (T.drew.alloc _).lw | with_reducible exact ((T.drewN 1).alloc _).lw | with_reducible exact (T.alloc _).drew.lw | with_reducible exact ((T.alloc _).drewN 1).lw)).mono ?_; rintro x v1 ⟨rfl, rfl⟩)
    | (go_at_call 30; with_reducible refine (m0 _ (by first | with_reducible exact T.lw | with_reducible exact T.drew.lw | with_reducible exact (T.drewN 1).lw | with_reducible exact (T.alloc _).lw | with_reducible exact (T.drew.alloc _).lw | with_reducible exact ((T.drewN 1).alloc _).lw | with_reducible exact (T.alloc _).drew.lw | with_reducible exact ((T.alloc _).drewN 1).lw)).mono ?_; rintro x v2 ⟨rfl, b⟩; (first | (with_reducible have R := (Rul.new _ _ rfl 0 0 0 0 0).kept b; have hne := T.new) | (with_reducible have R := (Rul.new _ _ rfl 0 0 0 0 0).drew.kept b; have hne := T.new) | (with_reducible replace R := Rul.kept R b) | (with_reducible replace R := Rul.kept R.drew b) | skip); (first | (with_reducible replace T := Ps.kept T b) | (with_reducible replace T := Ps.kept T.drew b) | (with_reducible replace T := Ps.kept (T.drewN 1) b) | (with_reducible replace T := Ps.kept (T.alloc _) b) | (with_reducible replace T := Ps.kept (T.drew.alloc _) b) | (with_reducible replace T := Ps.kept ((T.drewN 1).alloc _) b) | (with_reducible replace T := Ps.kept (T.alloc _).drew b) | (with_reducible replace T := Ps.kept ((T.alloc _).drewN 1) b)); clear b)
    | (go_at_call 30; with_reducible refine (m1 _ (by first | with_reducible exact T.lw | with_reducible exact T.drew.lw | with_reducible exact (T.drewN 1).lw | with_reducible exact (T.alloc _).lw | with_reducible exact (T.drew.alloc _).lw | with_reducible exact ((T.drewN 1).alloc _).lw | with_reducible exact (T.alloc _).drew.lw | with_reducible exact ((T.alloc _).drewN 1).lw)).mono ?_; rintro x v3 ⟨rfl, b⟩; (first | (with_reducible have R := (Rul.new _ _ rfl 0 0 0 0 0).kept b; have hne := T.new) | (with_reducible have R := (Rul.new _ _ rfl 0 0 0 0 0).drew.kept b; have hne := T.new) | (with_reducible replace R := Rul.kept R b) | (with_reducible replace R := Rul.kept R.drew b) | skip); (first | (with_reducible replace T := Ps.kept T b) | (with_reducible replace T := Ps.kept T.drew b) | (with_reducible replace T := Ps.kept (T.drewN 1) b) | (with_reducible replace T := Ps.kept (T.alloc _) b) | (with_reducible replace T := Ps.kept (T.drew.alloc _) b) | (with_reducible replace T := Ps.kept ((T.drewN 1).alloc _) b) | (with_reducible replace T := Ps.kept (T.alloc _).drew b) | (with_reducible replace T := Ps.kept ((T.alloc _).drewN 1) b)); clear b)
    | (go_at_call 30; with_reducible refine (m2 _ (by first | with_reducible exact T.lw | with_reducible exact T.drew.lw | with_reducible exact (T.drewN 1).lw | with_reducible exact (T.alloc _).lw | with_reducible exact (T.drew.alloc _).lw | with_reducible exact ((T.drewN 1).alloc _).lw | with_reducible exact (T.alloc _).drew.lw | with_reducible exact ((T.alloc _).drewN 1).lw)).mono ?_; rintro x v4 ⟨rfl, b⟩; (first | (with_reducible have R := (Rul.new _ _ rfl 0 0 0 0 0).kept b; have hne := T.new) | (with_reducible have R := (Rul.new _ _ rfl 0 0 0 0 0).drew.kept b; have hne := T.new) | (with_reducible replace R := Rul.kept R b) | (with_reducible replace R := Rul.kept R.drew b) | skip); (first | (with_reducible replace T := Ps.kept T b) | (with_reducible replace T := Ps.kept T.drew b) | (with_reducible replace T := Ps.kept (T.drewN 1) b) | (with_reducible replace T := Ps.kept (T.alloc _) b) | (with_reducible replace T := Ps.kept (T.drew.alloc _) b) | (with_reducible replace T := Ps.kept ((T.drewN 1).alloc _) b) | (with_reducible replace T := Ps.kept (T.alloc _).drew b) | (with_reducible replace T := Ps.kept ((T.alloc _).drewN 1) b)); (try obtain ⟨r0, r1, r2, r3, r4, g0, g1, g2, g3, g4⟩ := id R); clear b))
  all_goals
    first
    | (with_reducible have X := R.put K0 K1 M0 M1 M2; with_reducible have T5 := T.put hne.1 hne.2 (.int .i64 K0) (.int .i64 K1) (.int .i64 M0) (.int .i64 M1) (.int .i64 M2); have hq := hne.2; clear r0 r1 r2 r3 r4 g0 g1 g2 g3 g4 R hne)
    | (have X := Rul.new v4 _ rfl K0 K1 M0 M1 M2; have T5 := T.alloc (.cells #[.int .i64 K0, .int .i64 K1, .int .i64 M0, .int .i64 M1, .int .i64 M2] 33); have hq := T.new.2)
    obtain ⟨x0, x1, x2, x3, x4, -, -, -, -, -⟩ := id X
    clear T k0 k1 m0 m1 m2
    cases t0
    case' false => cases t1
    all_goals
      go_wp2_with (go_at_call 23; with_reducible refine (pr _ T5.lw).mono ?_; clear pr x0 x1 x2 x3 x4; rintro x v6 ⟨rfl, b⟩; replace X := X.kept b; replace T5 := T5.kept b; clear b; obtain ⟨x0, x1, x2, x3, x4, -, -, -, -, -⟩ := id X; obtain ⟨z0, z1, z2, z3, z4, y0, y1, y2, y3, y4⟩ := id T5.z)
      refine bodyPost_ret ?_ rfl ⟨rfl, ?_⟩
      · simp [results, Tryz.results13, go_sem, z0, z1, z2, z3, z4]
      · repeat (with_reducible refine Below.setCell ?_ (by simp) _)
        exact T5.b
end Go.Proofs.YtjageagnclmnjaaGreatDoor.D

namespace Go.Proofs.YtjageagnclmnjaaGreatDoor.D
set_option maxRecDepth 100000
open Go.RowKit K
set_option linter.unusedVariables false

/-- a text is that of rules that hold -/
def Rd (l : List UInt8) (r : Ru) : Prop := wrong r = 0 ∧ tx r = l
theorem Rd.one {l : List UInt8} {r t : Ru} (h : Rd l r) (g : Rd l t) : r = t := tx_inj (rgt_of h.1) (rgt_of g.1) (h.2.trans g.2.symm)
theorem kd_nme {k : Int} (h : 1 ≤ k ∧ k ≤ 3) : kd (nme k) = k := by
  rcases (show k = 1 ∨ k = 2 ∨ k = 3 by omega) with rfl | rfl | rfl <;> rfl
theorem nb_of {n : Int} (h : 0 ≤ n ∧ n ≤ 16) : nb (dig n.toNat) = n := by
  have := nb_dig n.toNat (by omega)
  show nb (Lib.decDigits n.toNat) = n
  omega
theorem same_text {l : List UInt8} {s : ByteArray} {b : Bool} (h : decide (l = s.data.toList) = b) : ((ByteArray.mk l.toArray).toList == s.toList) = b := by
  rw [same_is, ← h]
  congr 1
  exact propext ⟨fun e => e.symm, fun e => e.symm⟩

theorem parse_rd (s : ByteArray) (hs : s.size ≤ 140737488355328) (r : Ru) (h : Rd s.data.toList r) (w : World) (L : Lw w) :
    Calls Tryz.prog 13 #[.string s] w fun e w' => e = .returned (.tuple #[.agg #[.int .i64 r.k0, .int .i64 r.k1, .int .i64 r.r, .int .i64 r.m, .int .i64 r.j], .int .i64 0]) ∧ Below w.heap.size w w' := by
  obtain ⟨hk, hr⟩ := rgt_of h.1
  have hw := tx_words hr
  rw [h.2] at hw
  obtain ⟨p0, p1, p2, p3, p4, N, hp, ⟨z0, z1, z2, z3, z4⟩, c⟩ := split_yes s hs (by rw [hw]; rfl)
  rw [hp] at hw
  simp only [List.cons.injEq, and_true] at hw
  obtain ⟨e0, e1, e2, e3, e4⟩ := hw
  unfold kinds at hk
  unfold ranges at hr
  have k0 : ∀ v, Lw v → Calls Tryz.prog 29 #[.string p0] v fun e w' => e = .returned (.int .i64 r.k0) ∧ w' = v := fun v l => by
    have := kindof p0 v l
    rwa [e0, kd_nme hk.1] at this
  have k1 : ∀ v, Lw v → Calls Tryz.prog 29 #[.string p1] v fun e w' => e = .returned (.int .i64 r.k1) ∧ w' = v := fun v l => by
    have := kindof p1 v l
    rwa [e1, kd_nme hk.2] at this
  have m0 : ∀ v, Lw v → Calls Tryz.prog 30 #[.string p2] v fun e w' => e = .returned (.int .i64 r.r) ∧ Below v.heap.size v w' := fun v l => by
    have := numberof p2 (by omega) v l
    rwa [e2, nb_of (by omega)] at this
  have m1 : ∀ v, Lw v → Calls Tryz.prog 30 #[.string p3] v fun e w' => e = .returned (.int .i64 r.m) ∧ Below v.heap.size v w' := fun v l => by
    have := numberof p3 (by omega) v l
    rwa [e3, nb_of (by omega)] at this
  have m2 : ∀ v, Lw v → Calls Tryz.prog 30 #[.string p4] v fun e w' => e = .returned (.int .i64 r.j) ∧ Below v.heap.size v w' := fun v l => by
    have := numberof p4 (by omega) v l
    rwa [e4, nb_of (by omega)] at this
  exact parse_of s p0 p1 p2 p3 p4 ⟨(tx r).toArray⟩ N r.k0 r.k1 r.r r.m r.j 0 w L c k0 k1 m0 m1 m2 (fun v l => print_yes r h.1 v l) false false rfl (same_text (decide_eq_true h.2))

theorem parse_not (s : ByteArray) (hs : s.size ≤ 140737488355328) (h : ∀ r, ¬ Rd s.data.toList r) (w : World) (L : Lw w) :
    Calls Tryz.prog 13 #[.string s] w fun e w' => e = .returned (.tuple #[.agg #[.int .i64 0, .int .i64 0, .int .i64 0, .int .i64 0, .int .i64 0], .int .i64 1]) ∧ Below w.heap.size w w' := by
  by_cases h5 : (wds s.data.toList).length = 5
  · obtain ⟨p0, p1, p2, p3, p4, N, hp, ⟨z0, z1, z2, z3, z4⟩, c⟩ := split_yes s hs h5
    have k0 := fun v l => kindof p0 v l
    have k1 := fun v l => kindof p1 v l
    have m0 := fun v l => numberof p2 (by omega) v l
    have m1 := fun v l => numberof p3 (by omega) v l
    have m2 := fun v l => numberof p4 (by omega) v l
    obtain ⟨r, hr⟩ : ∃ r : Ru, r = ⟨kd p0.data.toList, kd p1.data.toList, nb p2.data.toList, nb p3.data.toList, nb p4.data.toList⟩ := ⟨_, rfl⟩
    by_cases hE : wrong r = 0
    · have hne : ¬ tx r = s.data.toList := fun e => h r ⟨hE, e⟩
      have pr := fun v l => print_yes r hE v l
      subst hr
      exact parse_of s p0 p1 p2 p3 p4 ⟨(tx _).toArray⟩ N _ _ _ _ _ 0 w L c k0 k1 m0 m1 m2 pr false true rfl (same_text (decide_eq_false hne))
    · have he : (wrong r != 0) = true := by simpa using hE
      have pr := fun v (_ : Lw v) => print_no r (wrong r) rfl he v
      subst hr
      have q := parse_of s p0 p1 p2 p3 p4 ⟨#[]⟩ N _ _ _ _ _ _ w L c k0 k1 m0 m1 m2 pr true (!((ByteArray.mk #[]).toList == s.toList)) he (by rw [Bool.not_not])
      simpa using q
  · exact parse_no s hs h5 w
end Go.Proofs.YtjageagnclmnjaaGreatDoor.D

namespace Go.Proofs.YtjageagnclmnjaaGreatDoor
set_option linter.unusedVariables false

section
variable {α : Type} [DecidableEq α] (step : α → Nat → α) (E : Nat) (s0 : α)

/-- where y stands among L (behind all, if it does not) -/
def ix : List α → α → Nat
  | [], _ => 0
  | x :: L, y => if x = y then 0 else ix L y + 1
/-- what was not found yet is the next -/
def nx (L : List α) (y : α) : List α := if y ∈ L then L else L ++ [y]
/-- behind t steps: what was found, and where each step led -/
def ex : Nat → List α × List Nat
  | 0 => ([s0], [])
  | t + 1 => match (ex t).1[t / E]? with
    | none => ex t
    | some x => (nx (ex t).1 (step x (t % E)), (ex t).2 ++ [ix (ex t).1 (step x (t % E))])
end
section
variable {α : Type} [DecidableEq α]
theorem ix_mem {L : List α} {y : α} (h : y ∈ L) : ix L y < L.length ∧ L[ix L y]? = some y := by
  induction L with
  | nil => cases h
  | cons x L ih =>
    unfold ix
    by_cases e : x = y
    · rw [if_pos e]; subst e; exact ⟨by simp, rfl⟩
    · rw [if_neg e]
      rcases List.mem_cons.1 h with rfl | h
      · exact absurd rfl e
      · obtain ⟨h1, h2⟩ := ih h
        exact ⟨by simp; omega, by simpa using h2⟩
theorem ix_not {L : List α} {y : α} (h : y ∉ L) : ix L y = L.length := by
  induction L with
  | nil => rfl
  | cons x L ih =>
    unfold ix
    rw [if_neg (fun e => h (by simp [e])), ih (fun q => h (by simp [q]))]
    rfl
theorem ix_at {L : List α} (hd : L.Nodup) {i : Nat} {y : α} (h : L[i]? = some y) : ix L y = i := by
  have hi := (List.getElem?_eq_some_iff.1 h).1
  obtain ⟨h1, h2⟩ := ix_mem (List.mem_of_getElem? h)
  have e : L[ix L y]'h1 = L[i]'hi := by
    have a := (List.getElem?_eq_some_iff.1 h2).2
    have b := (List.getElem?_eq_some_iff.1 h).2
    rw [a, b]
  exact (List.getElem_inj hd).1 e
/-- where y stands behind it -/
theorem nx_at (L : List α) (y : α) : (nx L y)[ix L y]? = some y := by
  unfold nx
  by_cases h : y ∈ L
  · rw [if_pos h]; exact (ix_mem h).2
  · rw [if_neg h, ix_not h]; simp
theorem nx_nodup {L : List α} (h : L.Nodup) (y : α) : (nx L y).Nodup := by
  unfold nx
  by_cases hy : y ∈ L
  · rw [if_pos hy]; exact h
  · rw [if_neg hy, List.nodup_append]
    exact ⟨h, by simp, fun a ha b hb => by simp at hb; subst hb; exact fun e => hy (e ▸ ha)⟩
theorem nx_old {L : List α} {y x : α} {i : Nat} (h : L[i]? = some x) : (nx L y)[i]? = some x := by
  unfold nx
  by_cases hy : y ∈ L
  · rw [if_pos hy]; exact h
  · rw [if_neg hy, List.getElem?_append_left (List.getElem?_eq_some_iff.1 h).1]; exact h
theorem nx_len (L : List α) (y : α) : L.length ≤ (nx L y).length ∧ (nx L y).length ≤ L.length + 1 := by
  unfold nx
  by_cases hy : y ∈ L
  · rw [if_pos hy]; omega
  · rw [if_neg hy]; simp
end

/-- all of the first t steps went from a state that was there -/
def Live {α : Type} [DecidableEq α] (step : α → Nat → α) (E : Nat) (s0 : α) (t : Nat) : Prop := ∀ t', t' < t → t' < E * (ex step E s0 t').1.length

section
variable {α : Type} [DecidableEq α] {step : α → Nat → α} {E : Nat} {s0 : α}
theorem div_lt {t n : Nat} (h : t < E * n) : t / E < n := Nat.div_lt_of_lt_mul h
theorem ex_succ {t : Nat} (h : t < E * (ex step E s0 t).1.length) : ∃ x, (ex step E s0 t).1[t / E]? = some x ∧ ex step E s0 (t + 1) = (nx (ex step E s0 t).1 (step x (t % E)), (ex step E s0 t).2 ++ [ix (ex step E s0 t).1 (step x (t % E))]) := by
  have h1 := div_lt h
  refine ⟨_, List.getElem?_eq_getElem h1, ?_⟩
  show (match (ex step E s0 t).1[t / E]? with
    | none => ex step E s0 t
    | some x => (nx (ex step E s0 t).1 (step x (t % E)), (ex step E s0 t).2 ++ [ix (ex step E s0 t).1 (step x (t % E))])) = _
  rw [List.getElem?_eq_getElem h1]
theorem Live.less {t t' : Nat} (h : Live step E s0 t) (ht : t' ≤ t) : Live step E s0 t' := fun u hu => h u (by omega)
theorem ex_len {t : Nat} (h : Live step E s0 t) : (ex step E s0 t).2.length = t := by
  induction t with
  | zero => rfl
  | succ t ih =>
    obtain ⟨x, _, e⟩ := ex_succ (h t (by omega))
    rw [e]
    simp [ih (h.less (by omega))]
theorem ex_nodup {t : Nat} (h : Live step E s0 t) : (ex step E s0 t).1.Nodup := by
  induction t with
  | zero => simp [ex]
  | succ t ih =>
    obtain ⟨x, _, e⟩ := ex_succ (h t (by omega))
    rw [e]
    exact nx_nodup (ih (h.less (by omega))) _
/-- what was found stays where it was -/
theorem ex_old {t d : Nat} (h : Live step E s0 (t + d)) {i : Nat} {x : α} (hx : (ex step E s0 t).1[i]? = some x) : (ex step E s0 (t + d)).1[i]? = some x := by
  induction d with
  | zero => exact hx
  | succ d ih =>
    obtain ⟨y, _, e⟩ := ex_succ (h (t + d) (by omega))
    rw [show t + (d + 1) = t + d + 1 by omega, e]
    exact nx_old (ih (h.less (by omega)))
theorem ex_first {t : Nat} (h : Live step E s0 t) : (ex step E s0 t).1[0]? = some s0 := by
  have := ex_old (t := 0) (d := t) (by rw [Nat.zero_add]; exact h) (i := 0) (x := s0) rfl
  rw [Nat.zero_add] at this
  exact this
theorem ex_grows {t d : Nat} (h : Live step E s0 (t + d)) : (ex step E s0 t).1.length ≤ (ex step E s0 (t + d)).1.length := by
  induction d with
  | zero => exact Nat.le_refl _
  | succ d ih =>
    obtain ⟨y, _, e⟩ := ex_succ (h (t + d) (by omega))
    rw [show t + (d + 1) = t + d + 1 by omega, e]
    exact Nat.le_trans (ih (h.less (by omega))) (nx_len _ _).1
theorem ex_to_old {t d : Nat} (h : Live step E s0 (t + d)) {u : Nat} (hu : u < t) : (ex step E s0 (t + d)).2[u]? = (ex step E s0 t).2[u]? := by
  induction d with
  | zero => rfl
  | succ d ih =>
    obtain ⟨y, _, e⟩ := ex_succ (h (t + d) (by omega))
    rw [show t + (d + 1) = t + d + 1 by omega, e]
    have hl := ex_len (h.less (show t + d ≤ t + (d + 1) by omega))
    rw [List.getElem?_append_left (by omega)]
    exact ih (h.less (by omega))
/-- where step u led -/
theorem ex_to {t u : Nat} (h : Live step E s0 t) (hu : u < t) : ∃ x i, (ex step E s0 t).1[u / E]? = some x ∧ (ex step E s0 t).2[u]? = some i ∧ (ex step E s0 t).1[i]? = some (step x (u % E)) ∧ i ≤ (ex step E s0 u).1.length ∧ u / E < (ex step E s0 u).1.length := by
  obtain ⟨d, rfl⟩ : ∃ d, t = u + 1 + d := ⟨t - u - 1, by omega⟩
  have hL := h u (by omega)
  obtain ⟨x, h1, e⟩ := ex_succ hL
  refine ⟨x, ix (ex step E s0 u).1 (step x (u % E)), ?_, ?_, ?_, ?_, div_lt hL⟩
  · have := ex_old (t := u) (d := 1 + d) (by rw [← Nat.add_assoc]; exact h) h1
    rw [← Nat.add_assoc] at this
    exact this
  · rw [ex_to_old h (by omega), e]
    have hl := ex_len (h.less (show u ≤ u + 1 + d by omega))
    rw [List.getElem?_append_right (by omega), hl]
    simp
  · refine ex_old h ?_
    rw [e]
    exact nx_at _ _
  · by_cases hm : step x (u % E) ∈ (ex step E s0 u).1
    · exact Nat.le_of_lt (ix_mem hm).1
    · exact Nat.le_of_eq (ix_not hm)

/-- the step by which state j was found -/
def Fst (step : α → Nat → α) (E : Nat) (s0 : α) (j u : Nat) : Prop := u < E * (ex step E s0 u).1.length ∧ (ex step E s0 u).1.length = j ∧ (ex step E s0 (u + 1)).1.length = j + 1
theorem fst_some {t : Nat} (h : Live step E s0 t) : ∀ j, 1 ≤ j → j < (ex step E s0 t).1.length → ∃ u, u < t ∧ Fst step E s0 j u := by
  induction t with
  | zero => intro j h1 h2; simp [ex] at h2; omega
  | succ t ih =>
    intro j h1 h2
    by_cases hj : j < (ex step E s0 t).1.length
    · obtain ⟨u, hu, hf⟩ := ih (h.less (by omega)) j h1 hj
      exact ⟨u, by omega, hf⟩
    · have hL := h t (by omega)
      obtain ⟨x, _, e⟩ := ex_succ hL
      have hn := nx_len (ex step E s0 t).1 (step x (t % E))
      have e2 : (ex step E s0 (t + 1)).1.length = (nx (ex step E s0 t).1 (step x (t % E))).length := by rw [e]
      exact ⟨t, by omega, hL, by omega, by omega⟩
/-- it led to j, and none ahead of it did -/
theorem fst_to {t : Nat} (h : Live step E s0 t) {j u : Nat} (hu : u < t) (hf : Fst step E s0 j u) : (ex step E s0 t).2[u]? = some j ∧ u / E < j ∧ ∀ u', u' < u → (ex step E s0 t).2[u']? ≠ some j := by
  obtain ⟨f1, f2, f3⟩ := hf
  refine ⟨?_, by rw [← f2]; exact div_lt f1, fun u' hu' q => ?_⟩
  · obtain ⟨d, rfl⟩ : ∃ d, t = u + 1 + d := ⟨t - u - 1, by omega⟩
    obtain ⟨x, h1, e⟩ := ex_succ f1
    rw [ex_to_old h (by omega), e]
    have hl := ex_len (h.less (show u ≤ u + 1 + d by omega))
    rw [List.getElem?_append_right (by omega), hl]
    have hm : step x (u % E) ∉ (ex step E s0 u).1 := fun hm => by
      rw [e] at f3
      simp only [nx, if_pos hm] at f3
      omega
    simp only [Nat.sub_self]
    rw [ix_not hm, f2]
    rfl
  · obtain ⟨x, i, a1, a2, a3, a4, a5⟩ := ex_to h (show u' < t by omega)
    rw [q] at a2
    injection a2 with a2
    subst a2
    -- behind u' there are more than j states already, so u' is not ahead of u
    have g : (ex step E s0 (u' + 1)).1[j]? = some (step x (u' % E)) := by
      obtain ⟨x', b1, e⟩ := ex_succ (h u' (by omega))
      have hx : x' = x := by
        obtain ⟨d, hd⟩ : ∃ d, t = u' + d := ⟨t - u', by omega⟩
        have := ex_old (t := u') (d := d) (by rw [← hd]; exact h) b1
        rw [← hd, a1] at this
        injection this with this; exact this.symm
      subst hx
      have hi : ix (ex step E s0 u').1 (step x' (u' % E)) = j := by
        obtain ⟨d, hd⟩ : ∃ d, t = u' + 1 + d := ⟨t - u' - 1, by omega⟩
        have q2 := ex_to_old (t := u' + 1) (d := d) (by rw [← hd]; exact h) (show u' < u' + 1 by omega)
        rw [← hd, q, e] at q2
        have hl := ex_len (h.less (show u' ≤ t by omega))
        rw [List.getElem?_append_right (by omega), hl] at q2
        simp at q2
        exact q2.symm
      rw [e, ← hi]
      exact nx_at _ _
    have hlen := (List.getElem?_eq_some_iff.1 g).1
    obtain ⟨d, hd⟩ : ∃ d, u = u' + 1 + d := ⟨u - u' - 1, by omega⟩
    have := ex_grows (t := u' + 1) (d := d) (by rw [← hd]; exact h.less (by omega))
    rw [← hd] at this
    omega

/-- what leads to state j -/
inductive Ld (step : α → Nat → α) (E : Nat) (s0 : α) : Nat → List Nat → Prop
  | zero : Ld step E s0 0 []
  | more {j u : Nat} {l : List Nat} (hj : 1 ≤ j) (hf : Fst step E s0 j u) (h : Ld step E s0 (u / E) l) : Ld step E s0 j (l ++ [u % E])
theorem fst_same {t : Nat} (h : Live step E s0 t) {j u u' : Nat} (hu : u < t) (hu' : u' < t) (hf : Fst step E s0 j u) (hf' : Fst step E s0 j u') : u = u' := by
  obtain ⟨a1, _, a3⟩ := fst_to h hu hf
  obtain ⟨b1, _, b3⟩ := fst_to h hu' hf'
  rcases Nat.lt_trichotomy u u' with q | q | q
  · exact absurd a1 (b3 u q)
  · exact q
  · exact absurd b1 (a3 u' q)
theorem ld_some {t : Nat} (h : Live step E s0 t) : ∀ j, j < (ex step E s0 t).1.length → ∃ l, Ld step E s0 j l := by
  intro j
  induction j using Nat.strongRecOn with
  | _ j ih =>
    intro hj
    by_cases h0 : j = 0
    · subst h0; exact ⟨[], .zero⟩
    · obtain ⟨u, hu, hf⟩ := fst_some h j (by omega) hj
      have := (fst_to h hu hf).2.1
      obtain ⟨l, hl⟩ := ih (u / E) this (by omega)
      exact ⟨_, .more (by omega) hf hl⟩
/-- it leads there -/
theorem ld_run {t : Nat} (h : Live step E s0 t) : ∀ j l, Ld step E s0 j l → j < (ex step E s0 t).1.length → (ex step E s0 t).1[j]? = some (l.foldl step s0) := by
  intro j l hl
  induction hl with
  | zero => intro _; exact ex_first h
  | @more j u l hj hf hl ih =>
    intro hjl
    obtain ⟨u', hu', hf'⟩ := fst_some h j hj hjl
    have hu : u < t := by
      rcases Nat.lt_or_ge u t with q | q
      · exact q
      · exfalso
        have g2 : ∀ s, t ≤ s → (ex step E s0 t).1.length ≤ (ex step E s0 s).1.length := fun s hs => by
          induction hs with
          | refl => exact Nat.le_refl _
          | @step s _ ihs =>
            refine Nat.le_trans ihs ?_
            show _ ≤ (match (ex step E s0 s).1[s / E]? with
              | none => ex step E s0 s
              | some x => (nx (ex step E s0 s).1 (step x (s % E)), (ex step E s0 s).2 ++ [ix (ex step E s0 s).1 (step x (s % E))])).1.length
            cases (ex step E s0 s).1[s / E]? with
            | none => exact Nat.le_refl _
            | some x => exact (nx_len _ _).1
        have := g2 u q
        have := hf.2.1
        omega
    obtain ⟨a1, a2, _⟩ := fst_to h hu hf
    obtain ⟨x, i, b1, b2, b3, _, _⟩ := ex_to h hu
    rw [a1] at b2
    injection b2 with b2
    subst b2
    have := ih (by omega)
    rw [b1] at this
    injection this with this
    rw [b3, List.foldl_append, ← this]
    rfl

/-- all steps of all states have been gone -/
def Done (step : α → Nat → α) (E : Nat) (s0 : α) (t : Nat) : Prop := Live step E s0 t ∧ t = E * (ex step E s0 t).1.length
/-- NOTHING ELSE IS COME TO -/
theorem done_closed {t : Nat} (h : Done step E s0 t) {j n : Nat} {x : α} (hx : (ex step E s0 t).1[j]? = some x) (hn : n < E) : ∃ i, (ex step E s0 t).2[E * j + n]? = some i ∧ (ex step E s0 t).1[i]? = some (step x n) := by
  obtain ⟨hL, ht⟩ := h
  have hj := (List.getElem?_eq_some_iff.1 hx).1
  have hu : E * j + n < t := by
    rw [ht]
    have : E * (j + 1) ≤ E * (ex step E s0 t).1.length := Nat.mul_le_mul_left E (by omega)
    rw [Nat.mul_add, Nat.mul_one] at this
    omega
  obtain ⟨y, i, a1, a2, a3, _, _⟩ := ex_to hL hu
  have e1 : (E * j + n) / E = j := by rw [Nat.mul_add_div (by omega), Nat.div_eq_of_lt hn, Nat.add_zero]
  have e2 : (E * j + n) % E = n := by rw [Nat.mul_add_mod, Nat.mod_eq_of_lt hn]
  rw [e1, hx] at a1
  injection a1 with a1
  subst a1
  rw [e2] at a3
  exact ⟨i, a2, a3⟩
theorem done_run {t : Nat} (h : Done step E s0 t) : ∀ l : List Nat, (∀ n ∈ l, n < E) → l.foldl step s0 ∈ (ex step E s0 t).1 := by
  have go : ∀ (l : List Nat) (x : α), x ∈ (ex step E s0 t).1 → (∀ n ∈ l, n < E) → l.foldl step x ∈ (ex step E s0 t).1 := by
    intro l
    induction l with
    | nil => intro x hx _; exact hx
    | cons n l ih =>
      intro x hx hn
      obtain ⟨j, hj, rfl⟩ := List.getElem_of_mem hx
      obtain ⟨i, _, hi⟩ := done_closed h (List.getElem?_eq_getElem hj) (hn n (by simp))
      exact ih _ (List.mem_of_getElem? hi) (fun m hm => hn m (by simp [hm]))
  exact fun l hl => go l s0 (List.mem_of_getElem? (ex_first h.1)) hl
end

end Go.Proofs.YtjageagnclmnjaaGreatDoor
