/- PROVED: what the laws' own alive16 answers. CONDITIONS: none beyond each theorem's own. -/
import Derived.Test.YtobgjnjndkfjoaaDPlay
import Derived.Test.YtobgjnjndkfjoaaDSame
import Derived.Deep.RegionHeld3
namespace Go.Proofs.Ytobgjnjndkfjoaa.D
open Go.RowKit K

theorem three_rounds : rounds ⟨1, 1, 2, 4, 0⟩ (K.start ⟨1, 1, 2, 4, 0⟩) [(0, 0), (0, 0), (0, 0)] = [⟨1, 1, 1, 1, 0, 0⟩, ⟨2, 2, 1, 1, 0, 0⟩, ⟨3, 3, 1, 1, 1, 1⟩] := by decide
theorem three_steps : steps ⟨1, 1, 2, 4, 0⟩ (K.start ⟨1, 1, 2, 4, 0⟩) [(0, 0), (0, 0), (0, 0)] = ⟨⟨1, 3, 0, 0, 0, 0⟩, ⟨1, 3, 0, 0, 0, 0⟩, 2, 2⟩ := by decide
theorem alive_play (a : Option Addr) (cap : Nat) (v : World) (hv : VRow v a [(0, 0), (0, 0), (0, 0)]) :
    Calls Try.prog 17 #[.agg #[.int .i64 1, .int .i64 1, .int .i64 2, .int .i64 4, .int .i64 0], .slice a 3 cap] v fun e w' => ∃ b o cp, e = .returned (.tuple #[.slice (some ⟨b, o, none⟩) 3 cp, .agg #[.int .i64 1, .int .i64 3, .int .i64 0, .int .i64 0, .int .i64 0, .int .i64 0, .int .i64 1, .int .i64 3, .int .i64 0, .int .i64 0, .int .i64 0, .int .i64 0, .int .i64 2, .int .i64 2], .int .i64 0]) ∧ RAt w' b o ⟨1, 1, 1, 1, 0, 0⟩ ∧ v.heap.size ≤ b ∧ Below v.heap.size v w' := by
  refine (play_any ⟨1, 1, 2, 4, 0⟩ (by decide) a cap 3 [(0, 0), (0, 0), (0, 0)] rfl (by omega) v hv).mono ?_
  rintro e w' ⟨⟨_, ao, cp, rfl, _, hr, hab⟩ | ⟨h, _⟩, b⟩
  · rw [three_rounds] at hr
    rw [three_steps]
    obtain ⟨bb, oo, rfl, q⟩ := hr.at (by simp)
    exact ⟨bb, oo, cp, rfl, by have := q 0 (by simp); rwa [Nat.zero_mul, Nat.add_zero] at this, hab _ rfl, b⟩
  · exact absurd (by decide) h
theorem alive_right (v : World) : Calls Try.prog 15 #[.agg #[.int .i64 1, .int .i64 1, .int .i64 2, .int .i64 4, .int .i64 0], .agg #[.int .i64 1, .int .i64 3, .int .i64 0, .int .i64 0, .int .i64 0, .int .i64 0, .int .i64 1, .int .i64 3, .int .i64 0, .int .i64 0, .int .i64 0, .int .i64 0, .int .i64 2, .int .i64 2]] v fun e w' => e = .returned (.bool true) ∧ Below v.heap.size v w' :=
  right_is ⟨1, 1, 2, 4, 0⟩ ⟨⟨1, 3, 0, 0, 0, 0⟩, ⟨1, 3, 0, 0, 0, 0⟩, 2, 2⟩ true (by decide) v
theorem alive_wrong (v : World) : Calls Try.prog 13 #[.agg #[.int .i64 0, .int .i64 0, .int .i64 0, .int .i64 0, .int .i64 0]] v fun e w' => e = .returned (.int .i64 5) ∧ Below v.heap.size v w' :=
  wrong_is ⟨0, 0, 0, 0, 0⟩ 5 (by decide) v
theorem VRow.made (w : World) (C : Nat) (hC : C = w.heap.size) : VRow (w.alloc (.cells #[.int .i64 0, .int .i64 0, .int .i64 0, .int .i64 0, .int .i64 0, .int .i64 0] 22)) (some ⟨C, 0, none⟩) [(0, 0), (0, 0), (0, 0)] := by
  subst hC
  refine .inr ⟨w.heap.size, 0, rfl, fun j hj => ?_⟩
  simp at hj
  rw [World.cell?_alloc_at _ _ _ _ rfl, World.cell?_alloc_at _ _ _ _ rfl]
  obtain rfl | rfl | rfl : j = 0 ∨ j = 1 ∨ j = 2 := by omega
  all_goals exact ⟨rfl, rfl⟩
theorem RAt.far {w : World} {b o D q : Nat} {x : Rx} (h : RAt w b o x) (hD : D ≠ b) (v : Value) : RAt (w.setCell ⟨D, q, none⟩ v) b o x := by
  have e : ∀ i, (w.setCell ⟨D, q, none⟩ v).cell? ⟨b, i, none⟩ = w.cell? ⟨b, i, none⟩ := fun i => World.cell?_setCell_other _ _ _ _ (fun p => hD (by injection p))
  exact ⟨(e _).trans h.c0, (e _).trans h.c1, (e _).trans h.c2, (e _).trans h.c3, (e _).trans h.c4, (e _).trans h.c5⟩
theorem VRow.drew {w : World} {ao : Option Addr} {ps : List (Int × Int)} (h : VRow w ao ps) : VRow w.drew ao ps := h.kept (below_drewN (Below.refl _ _) 1)
theorem mk3 (w : World) : (Instr.makeSlice 40 (.int .i64 3) (.int .i64 3)).run Try.prog w = .ok (.slice (some ⟨w.heap.size, 0, none⟩) 3 3) (w.alloc (.cells #[.int .i64 0, .int .i64 0, .int .i64 0, .int .i64 0, .int .i64 0, .int .i64 0] 22)) := by kernel_rfl

attribute [local go_sem ↓] eqA mk3

set_option maxHeartbeats 3200000 in
theorem alive_any (w : World) : Calls Try.prog 20 #[] w fun e w' => e = .returned (.bool true) ∧ Below w.heap.size w w' := by
  have X := Rul.new w _ rfl 1 1 2 4 0
  have B : Below w.heap.size w (w.alloc (.cells #[.int .i64 1, .int .i64 1, .int .i64 2, .int .i64 4, .int .i64 0] 24)) := balloc (Below.refl _ _) _
  have sA : sameA 1 1 1 1 = true := rfl
  go_enter Try.func20, Try.ntmps20
  go_wp2
  obtain ⟨W0, hW0⟩ : ∃ W0, w.alloc (.cells #[.int .i64 1, .int .i64 1, .int .i64 2, .int .i64 4, .int .i64 0] 24) = W0 := ⟨_, rfl⟩
  rw [hW0] at X B ⊢
  clear hW0
  have Y1 := (Sta.new (W0.alloc (.cells #[.int .i64 0, .int .i64 0, .int .i64 0, .int .i64 0, .int .i64 0, .int .i64 0] 22)) (W0.heap.size + 1) (by simp) 0 0 0 0 0 0 0 0 0 0 0 0 0 0).drew
  have Y2 := ((Sta.new W0 W0.heap.size rfl 0 0 0 0 0 0 0 0 0 0 0 0 0 0).alloc (.cells #[.int .i64 0, .int .i64 0, .int .i64 0, .int .i64 0, .int .i64 0, .int .i64 0] 22)).drew
  have V1 := (VRow.made W0 W0.heap.size rfl).drew
  have V2 := ((VRow.made W0 W0.heap.size rfl).alloc (.cells #[.int .i64 0, .int .i64 0, .int .i64 0, .int .i64 0, .int .i64 0, .int .i64 0, .int .i64 0, .int .i64 0, .int .i64 0, .int .i64 0, .int .i64 0, .int .i64 0, .int .i64 0, .int .i64 0] 29)).drew
  have V3 := (VRow.made (W0.alloc (.cells #[.int .i64 0, .int .i64 0, .int .i64 0, .int .i64 0, .int .i64 0, .int .i64 0, .int .i64 0, .int .i64 0, .int .i64 0, .int .i64 0, .int .i64 0, .int .i64 0, .int .i64 0, .int .i64 0] 29)) (W0.heap.size + 1) (by simp)).drew
  have wl : w.heap.size < W0.heap.size := block_lt X.c0
  obtain ⟨x0, x1, x2, x3, x4, _, _, _, _, _⟩ := id X
  go_region_held3 (fun w' => w'.cell? ⟨w.heap.size, 0, none⟩ = some (.int .i64 1) ∧ w'.cell? ⟨w.heap.size, 1, none⟩ = some (.int .i64 1) ∧ w'.cell? ⟨w.heap.size, 2, none⟩ = some (.int .i64 2) ∧ w'.cell? ⟨w.heap.size, 3, none⟩ = some (.int .i64 4) ∧ w'.cell? ⟨w.heap.size, 4, none⟩ = some (.int .i64 0)) (first | with_reducible exact ⟨x0, x1, x2, x3, x4⟩ | with_reducible exact ⟨Xf.c0, Xf.c1, Xf.c2, Xf.c3, Xf.c4⟩ | with_reducible exact ⟨Xa.c0, Xa.c1, Xa.c2, Xa.c3, Xa.c4⟩ | with_reducible exact ⟨Xb.c0, Xb.c1, Xb.c2, Xb.c3, Xb.c4⟩ | go_keep)
    (first
    | (go_at_call 17; with_reducible refine (alive_play _ _ _ V1).mono ?_; rintro xx v1 ⟨b, o, cp, rfl, hA, hb, bb⟩; replace X := (X.alloc _).drew.kept bb; replace B := bthen (balloc B _).drew bb; clear Y1 Y2 V1 V2 V3 bb x0 x1 x2 x3 x4; have Xa := X.alloc (.cells #[.int .i64 0, .int .i64 0, .int .i64 0, .int .i64 0, .int .i64 0, .int .i64 0, .int .i64 0, .int .i64 0, .int .i64 0, .int .i64 0, .int .i64 0, .int .i64 0, .int .i64 0, .int .i64 0] 29); have Xb := X.alloc (.cells #[.int .i64 1, .int .i64 3, .int .i64 0, .int .i64 0, .int .i64 0, .int .i64 0, .int .i64 1, .int .i64 3, .int .i64 0, .int .i64 0, .int .i64 0, .int .i64 0, .int .i64 2, .int .i64 2] 29); obtain ⟨x0, x1, x2, x3, x4, _, _, _, _, _⟩ := id X)
    | (go_at_call 17; with_reducible refine (alive_play _ _ _ V2).mono ?_; rintro xx v1 ⟨b, o, cp, rfl, hA, hb, bb⟩; replace X := ((X.alloc _).alloc _).drew.kept bb; replace B := bthen (balloc (balloc B _) _).drew bb; have Y := Y1.kept bb; clear Y1 Y2 V1 V2 V3 bb x0 x1 x2 x3 x4; have Xf := ((((((((((((((X.far (D := W0.heap.size + 1) (o := 0) (by omega) (.int .i64 1)).far (D := W0.heap.size + 1) (o := 1) (by omega) (.int .i64 3)).far (D := W0.heap.size + 1) (o := 2) (by omega) (.int .i64 0)).far (D := W0.heap.size + 1) (o := 3) (by omega) (.int .i64 0)).far (D := W0.heap.size + 1) (o := 4) (by omega) (.int .i64 0)).far (D := W0.heap.size + 1) (o := 5) (by omega) (.int .i64 0)).far (D := W0.heap.size + 1) (o := 6) (by omega) (.int .i64 1)).far (D := W0.heap.size + 1) (o := 7) (by omega) (.int .i64 3)).far (D := W0.heap.size + 1) (o := 8) (by omega) (.int .i64 0)).far (D := W0.heap.size + 1) (o := 9) (by omega) (.int .i64 0)).far (D := W0.heap.size + 1) (o := 10) (by omega) (.int .i64 0)).far (D := W0.heap.size + 1) (o := 11) (by omega) (.int .i64 0)).far (D := W0.heap.size + 1) (o := 12) (by omega) (.int .i64 2)).far (D := W0.heap.size + 1) (o := 13) (by omega) (.int .i64 2)); obtain ⟨x0, x1, x2, x3, x4, _, _, _, _, _⟩ := id X; obtain ⟨y0, y1, y2, y3, y4, y5, y6, y7, y8, y9, y10, y11, y12, y13, f0, f1, f2, f3, f4, f5, f6, f7, f8, f9, f10, f11, f12, f13⟩ := id Y)
    | (go_at_call 17; with_reducible refine (alive_play _ _ _ V3).mono ?_; rintro xx v1 ⟨b, o, cp, rfl, hA, hb, bb⟩; replace X := ((X.alloc _).alloc _).drew.kept bb; replace B := bthen (balloc (balloc B _) _).drew bb; have Y := Y2.kept bb; clear Y1 Y2 V1 V2 V3 bb x0 x1 x2 x3 x4; have Xf := ((((((((((((((X.far (D := W0.heap.size) (o := 0) (by omega) (.int .i64 1)).far (D := W0.heap.size) (o := 1) (by omega) (.int .i64 3)).far (D := W0.heap.size) (o := 2) (by omega) (.int .i64 0)).far (D := W0.heap.size) (o := 3) (by omega) (.int .i64 0)).far (D := W0.heap.size) (o := 4) (by omega) (.int .i64 0)).far (D := W0.heap.size) (o := 5) (by omega) (.int .i64 0)).far (D := W0.heap.size) (o := 6) (by omega) (.int .i64 1)).far (D := W0.heap.size) (o := 7) (by omega) (.int .i64 3)).far (D := W0.heap.size) (o := 8) (by omega) (.int .i64 0)).far (D := W0.heap.size) (o := 9) (by omega) (.int .i64 0)).far (D := W0.heap.size) (o := 10) (by omega) (.int .i64 0)).far (D := W0.heap.size) (o := 11) (by omega) (.int .i64 0)).far (D := W0.heap.size) (o := 12) (by omega) (.int .i64 2)).far (D := W0.heap.size) (o := 13) (by omega) (.int .i64 2)); obtain ⟨x0, x1, x2, x3, x4, _, _, _, _, _⟩ := id X; obtain ⟨y0, y1, y2, y3, y4, y5, y6, y7, y8, y9, y10, y11, y12, y13, f0, f1, f2, f3, f4, f5, f6, f7, f8, f9, f10, f11, f12, f13⟩ := id Y))
  · clear x0 x1 x2 x3 x4
    replace hA := hA.kept (balloc (Below.refl _ _) (.cells #[.int .i64 1, .int .i64 3, .int .i64 0, .int .i64 0, .int .i64 0, .int .i64 0, .int .i64 1, .int .i64 3, .int .i64 0, .int .i64 0, .int .i64 0, .int .i64 0, .int .i64 2, .int .i64 2] 29))
    have Y := Sta.new v1 _ rfl 1 3 0 0 0 0 1 3 0 0 0 0 2 2
    replace X := Xb
    replace B := balloc B (.cells #[.int .i64 1, .int .i64 3, .int .i64 0, .int .i64 0, .int .i64 0, .int .i64 0, .int .i64 1, .int .i64 3, .int .i64 0, .int .i64 0, .int .i64 0, .int .i64 0, .int .i64 2, .int .i64 2] 29)
    clear Xa Xb
    obtain ⟨W6, hW6⟩ : ∃ W6, v1.alloc (.cells #[.int .i64 1, .int .i64 3, .int .i64 0, .int .i64 0, .int .i64 0, .int .i64 0, .int .i64 1, .int .i64 3, .int .i64 0, .int .i64 0, .int .i64 0, .int .i64 0, .int .i64 2, .int .i64 2] 29) = W6 := ⟨_, rfl⟩
    rw [hW6] at X Y hA B ⊢
    clear hW6
    obtain ⟨C, hC⟩ : ∃ C, v1.heap.size = C := ⟨_, rfl⟩
    rw [hC] at Y ⊢
    clear hC wl
    obtain ⟨x0, x1, x2, x3, x4, _, _, _, _, _⟩ := id X
    obtain ⟨y0, y1, y2, y3, y4, y5, y6, y7, y8, y9, y10, y11, y12, y13, _, _, _, _, _, _, _, _, _, _, _, _, _, _⟩ := id Y
    obtain ⟨a0, a1, a2, a3, a4, a5⟩ := id hA
    simp only at a0 a1 a2 a3 a4 a5
    go_wp2_with (first
      | (go_at_call 13; refine (alive_wrong _).mono ?_; rintro xx v2 ⟨rfl, bb⟩; replace X := X.kept bb; replace Y := Y.kept bb; replace B := bthen B bb; clear bb x0 x1 x2 x3 x4 y0 y1 y2 y3 y4 y5 y6 y7 y8 y9 y10 y11 y12 y13; obtain ⟨x0, x1, x2, x3, x4, _, _, _, _, _⟩ := id X; obtain ⟨y0, y1, y2, y3, y4, y5, y6, y7, y8, y9, y10, y11, y12, y13, _, _, _, _, _, _, _, _, _, _, _, _, _, _⟩ := id Y)
      | (go_at_call 15; refine (alive_right _).mono ?_; rintro xx v3 ⟨rfl, bb⟩; replace B := bthen B bb))
    go_ret
    exact ⟨rfl, B⟩
  · clear x0 x1 x2 x3 x4
    have hb' : W0.heap.size + 1 + 1 ≤ b := by simpa using hb
    clear y0 y1 y2 y3 y4 y5 y6 y7 y8 y9 y10 y11 y12 y13 f0 f1 f2 f3 f4 f5 f6 f7 f8 f9 f10 f11 f12 f13 hb
    have hA' := ((((((((((((((hA.far (D := W0.heap.size + 1) (q := 0) (by omega) (.int .i64 1)).far (D := W0.heap.size + 1) (q := 1) (by omega) (.int .i64 3)).far (D := W0.heap.size + 1) (q := 2) (by omega) (.int .i64 0)).far (D := W0.heap.size + 1) (q := 3) (by omega) (.int .i64 0)).far (D := W0.heap.size + 1) (q := 4) (by omega) (.int .i64 0)).far (D := W0.heap.size + 1) (q := 5) (by omega) (.int .i64 0)).far (D := W0.heap.size + 1) (q := 6) (by omega) (.int .i64 1)).far (D := W0.heap.size + 1) (q := 7) (by omega) (.int .i64 3)).far (D := W0.heap.size + 1) (q := 8) (by omega) (.int .i64 0)).far (D := W0.heap.size + 1) (q := 9) (by omega) (.int .i64 0)).far (D := W0.heap.size + 1) (q := 10) (by omega) (.int .i64 0)).far (D := W0.heap.size + 1) (q := 11) (by omega) (.int .i64 0)).far (D := W0.heap.size + 1) (q := 12) (by omega) (.int .i64 2)).far (D := W0.heap.size + 1) (q := 13) (by omega) (.int .i64 2))
    replace Y := Y.put 1 3 0 0 0 0 1 3 0 0 0 0 2 2
    replace X := Xf
    replace B := ((((((((((((((B.setCell (p := ⟨W0.heap.size + 1, 0, none⟩) (by show w.heap.size ≤ W0.heap.size + 1; omega) (.int .i64 1)).setCell (p := ⟨W0.heap.size + 1, 1, none⟩) (by show w.heap.size ≤ W0.heap.size + 1; omega) (.int .i64 3)).setCell (p := ⟨W0.heap.size + 1, 2, none⟩) (by show w.heap.size ≤ W0.heap.size + 1; omega) (.int .i64 0)).setCell (p := ⟨W0.heap.size + 1, 3, none⟩) (by show w.heap.size ≤ W0.heap.size + 1; omega) (.int .i64 0)).setCell (p := ⟨W0.heap.size + 1, 4, none⟩) (by show w.heap.size ≤ W0.heap.size + 1; omega) (.int .i64 0)).setCell (p := ⟨W0.heap.size + 1, 5, none⟩) (by show w.heap.size ≤ W0.heap.size + 1; omega) (.int .i64 0)).setCell (p := ⟨W0.heap.size + 1, 6, none⟩) (by show w.heap.size ≤ W0.heap.size + 1; omega) (.int .i64 1)).setCell (p := ⟨W0.heap.size + 1, 7, none⟩) (by show w.heap.size ≤ W0.heap.size + 1; omega) (.int .i64 3)).setCell (p := ⟨W0.heap.size + 1, 8, none⟩) (by show w.heap.size ≤ W0.heap.size + 1; omega) (.int .i64 0)).setCell (p := ⟨W0.heap.size + 1, 9, none⟩) (by show w.heap.size ≤ W0.heap.size + 1; omega) (.int .i64 0)).setCell (p := ⟨W0.heap.size + 1, 10, none⟩) (by show w.heap.size ≤ W0.heap.size + 1; omega) (.int .i64 0)).setCell (p := ⟨W0.heap.size + 1, 11, none⟩) (by show w.heap.size ≤ W0.heap.size + 1; omega) (.int .i64 0)).setCell (p := ⟨W0.heap.size + 1, 12, none⟩) (by show w.heap.size ≤ W0.heap.size + 1; omega) (.int .i64 2)).setCell (p := ⟨W0.heap.size + 1, 13, none⟩) (by show w.heap.size ≤ W0.heap.size + 1; omega) (.int .i64 2))
    replace hA := hA'
    clear Xf hA'
    obtain ⟨W6, hW6⟩ : ∃ W6, ((((((((((((((v1.setCell ⟨W0.heap.size + 1, 0, none⟩ (.int .i64 1)).setCell ⟨W0.heap.size + 1, 1, none⟩ (.int .i64 3)).setCell ⟨W0.heap.size + 1, 2, none⟩ (.int .i64 0)).setCell ⟨W0.heap.size + 1, 3, none⟩ (.int .i64 0)).setCell ⟨W0.heap.size + 1, 4, none⟩ (.int .i64 0)).setCell ⟨W0.heap.size + 1, 5, none⟩ (.int .i64 0)).setCell ⟨W0.heap.size + 1, 6, none⟩ (.int .i64 1)).setCell ⟨W0.heap.size + 1, 7, none⟩ (.int .i64 3)).setCell ⟨W0.heap.size + 1, 8, none⟩ (.int .i64 0)).setCell ⟨W0.heap.size + 1, 9, none⟩ (.int .i64 0)).setCell ⟨W0.heap.size + 1, 10, none⟩ (.int .i64 0)).setCell ⟨W0.heap.size + 1, 11, none⟩ (.int .i64 0)).setCell ⟨W0.heap.size + 1, 12, none⟩ (.int .i64 2)).setCell ⟨W0.heap.size + 1, 13, none⟩ (.int .i64 2)) = W6 := ⟨_, rfl⟩
    rw [hW6] at X Y hA B ⊢
    clear hW6
    obtain ⟨C, hC⟩ : ∃ C, W0.heap.size + 1 = C := ⟨_, rfl⟩
    rw [hC] at Y ⊢
    clear hC wl
    obtain ⟨x0, x1, x2, x3, x4, _, _, _, _, _⟩ := id X
    obtain ⟨y0, y1, y2, y3, y4, y5, y6, y7, y8, y9, y10, y11, y12, y13, _, _, _, _, _, _, _, _, _, _, _, _, _, _⟩ := id Y
    obtain ⟨a0, a1, a2, a3, a4, a5⟩ := id hA
    simp only at a0 a1 a2 a3 a4 a5
    go_wp2_with (first
      | (go_at_call 13; refine (alive_wrong _).mono ?_; rintro xx v2 ⟨rfl, bb⟩; replace X := X.kept bb; replace Y := Y.kept bb; replace B := bthen B bb; clear bb x0 x1 x2 x3 x4 y0 y1 y2 y3 y4 y5 y6 y7 y8 y9 y10 y11 y12 y13; obtain ⟨x0, x1, x2, x3, x4, _, _, _, _, _⟩ := id X; obtain ⟨y0, y1, y2, y3, y4, y5, y6, y7, y8, y9, y10, y11, y12, y13, _, _, _, _, _, _, _, _, _, _, _, _, _, _⟩ := id Y)
      | (go_at_call 15; refine (alive_right _).mono ?_; rintro xx v3 ⟨rfl, bb⟩; replace B := bthen B bb))
    go_ret
    exact ⟨rfl, B⟩
  · clear x0 x1 x2 x3 x4
    have hb' : W0.heap.size + 1 + 1 ≤ b := by simpa using hb
    clear y0 y1 y2 y3 y4 y5 y6 y7 y8 y9 y10 y11 y12 y13 f0 f1 f2 f3 f4 f5 f6 f7 f8 f9 f10 f11 f12 f13 hb
    have hA' := ((((((((((((((hA.far (D := W0.heap.size) (q := 0) (by omega) (.int .i64 1)).far (D := W0.heap.size) (q := 1) (by omega) (.int .i64 3)).far (D := W0.heap.size) (q := 2) (by omega) (.int .i64 0)).far (D := W0.heap.size) (q := 3) (by omega) (.int .i64 0)).far (D := W0.heap.size) (q := 4) (by omega) (.int .i64 0)).far (D := W0.heap.size) (q := 5) (by omega) (.int .i64 0)).far (D := W0.heap.size) (q := 6) (by omega) (.int .i64 1)).far (D := W0.heap.size) (q := 7) (by omega) (.int .i64 3)).far (D := W0.heap.size) (q := 8) (by omega) (.int .i64 0)).far (D := W0.heap.size) (q := 9) (by omega) (.int .i64 0)).far (D := W0.heap.size) (q := 10) (by omega) (.int .i64 0)).far (D := W0.heap.size) (q := 11) (by omega) (.int .i64 0)).far (D := W0.heap.size) (q := 12) (by omega) (.int .i64 2)).far (D := W0.heap.size) (q := 13) (by omega) (.int .i64 2))
    replace Y := Y.put 1 3 0 0 0 0 1 3 0 0 0 0 2 2
    replace X := Xf
    replace B := ((((((((((((((B.setCell (p := ⟨W0.heap.size, 0, none⟩) (by show w.heap.size ≤ W0.heap.size; omega) (.int .i64 1)).setCell (p := ⟨W0.heap.size, 1, none⟩) (by show w.heap.size ≤ W0.heap.size; omega) (.int .i64 3)).setCell (p := ⟨W0.heap.size, 2, none⟩) (by show w.heap.size ≤ W0.heap.size; omega) (.int .i64 0)).setCell (p := ⟨W0.heap.size, 3, none⟩) (by show w.heap.size ≤ W0.heap.size; omega) (.int .i64 0)).setCell (p := ⟨W0.heap.size, 4, none⟩) (by show w.heap.size ≤ W0.heap.size; omega) (.int .i64 0)).setCell (p := ⟨W0.heap.size, 5, none⟩) (by show w.heap.size ≤ W0.heap.size; omega) (.int .i64 0)).setCell (p := ⟨W0.heap.size, 6, none⟩) (by show w.heap.size ≤ W0.heap.size; omega) (.int .i64 1)).setCell (p := ⟨W0.heap.size, 7, none⟩) (by show w.heap.size ≤ W0.heap.size; omega) (.int .i64 3)).setCell (p := ⟨W0.heap.size, 8, none⟩) (by show w.heap.size ≤ W0.heap.size; omega) (.int .i64 0)).setCell (p := ⟨W0.heap.size, 9, none⟩) (by show w.heap.size ≤ W0.heap.size; omega) (.int .i64 0)).setCell (p := ⟨W0.heap.size, 10, none⟩) (by show w.heap.size ≤ W0.heap.size; omega) (.int .i64 0)).setCell (p := ⟨W0.heap.size, 11, none⟩) (by show w.heap.size ≤ W0.heap.size; omega) (.int .i64 0)).setCell (p := ⟨W0.heap.size, 12, none⟩) (by show w.heap.size ≤ W0.heap.size; omega) (.int .i64 2)).setCell (p := ⟨W0.heap.size, 13, none⟩) (by show w.heap.size ≤ W0.heap.size; omega) (.int .i64 2))
    replace hA := hA'
    clear Xf hA'
    obtain ⟨W6, hW6⟩ : ∃ W6, ((((((((((((((v1.setCell ⟨W0.heap.size, 0, none⟩ (.int .i64 1)).setCell ⟨W0.heap.size, 1, none⟩ (.int .i64 3)).setCell ⟨W0.heap.size, 2, none⟩ (.int .i64 0)).setCell ⟨W0.heap.size, 3, none⟩ (.int .i64 0)).setCell ⟨W0.heap.size, 4, none⟩ (.int .i64 0)).setCell ⟨W0.heap.size, 5, none⟩ (.int .i64 0)).setCell ⟨W0.heap.size, 6, none⟩ (.int .i64 1)).setCell ⟨W0.heap.size, 7, none⟩ (.int .i64 3)).setCell ⟨W0.heap.size, 8, none⟩ (.int .i64 0)).setCell ⟨W0.heap.size, 9, none⟩ (.int .i64 0)).setCell ⟨W0.heap.size, 10, none⟩ (.int .i64 0)).setCell ⟨W0.heap.size, 11, none⟩ (.int .i64 0)).setCell ⟨W0.heap.size, 12, none⟩ (.int .i64 2)).setCell ⟨W0.heap.size, 13, none⟩ (.int .i64 2)) = W6 := ⟨_, rfl⟩
    rw [hW6] at X Y hA B ⊢
    clear hW6
    obtain ⟨C, hC⟩ : ∃ C, W0.heap.size = C := ⟨_, rfl⟩
    rw [hC] at Y ⊢
    clear hC wl
    obtain ⟨x0, x1, x2, x3, x4, _, _, _, _, _⟩ := id X
    obtain ⟨y0, y1, y2, y3, y4, y5, y6, y7, y8, y9, y10, y11, y12, y13, _, _, _, _, _, _, _, _, _, _, _, _, _, _⟩ := id Y
    obtain ⟨a0, a1, a2, a3, a4, a5⟩ := id hA
    simp only at a0 a1 a2 a3 a4 a5
    go_wp2_with (first
      | (go_at_call 13; refine (alive_wrong _).mono ?_; rintro xx v2 ⟨rfl, bb⟩; replace X := X.kept bb; replace Y := Y.kept bb; replace B := bthen B bb; clear bb x0 x1 x2 x3 x4 y0 y1 y2 y3 y4 y5 y6 y7 y8 y9 y10 y11 y12 y13; obtain ⟨x0, x1, x2, x3, x4, _, _, _, _, _⟩ := id X; obtain ⟨y0, y1, y2, y3, y4, y5, y6, y7, y8, y9, y10, y11, y12, y13, _, _, _, _, _, _, _, _, _, _, _, _, _, _⟩ := id Y)
      | (go_at_call 15; refine (alive_right _).mono ?_; rintro xx v3 ⟨rfl, bb⟩; replace B := bthen B bb))
    go_ret
    exact ⟨rfl, B⟩

end Go.Proofs.Ytobgjnjndkfjoaa.D
