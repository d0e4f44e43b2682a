/- PROVED: what duel.Step answers where all is right. CONDITIONS: none beyond each theorem's own. -/
import Derived.Test.YtjageagnclmnjabGreatDoorB23DErr
namespace Go.Proofs.YtjageagnclmnjabGreatDoor.D
set_option maxRecDepth 100000
open Go.RowKit K
attribute [local go_sem] idx0 idx1

/-- what lies there when all is told -/
theorem qtold {w W : World} (P : Sta W (w.heap.size + 1 + 1 + 1) 0 0 0 0 0 0 0 0 0 0 0 0 0 0) (Q : Rnd W (w.heap.size + 1 + 1 + 1 + 1) 0 0 0 0 0 0) (hB : Below w.heap.size w W) (o0 o1 o2 o3 o4 o5 o6 o7 o8 o9 o10 o11 o12 o13 u0 u1 u2 u3 u4 u5 : Int) :
    Sta (((((((((((((((((((((W.setCell ⟨w.heap.size + 1 + 1 + 1, 0, none⟩ (.int .i64 o0)).setCell ⟨w.heap.size + 1 + 1 + 1, 1, none⟩ (.int .i64 o1)).setCell ⟨w.heap.size + 1 + 1 + 1, 2, none⟩ (.int .i64 o2)).setCell ⟨w.heap.size + 1 + 1 + 1, 3, none⟩ (.int .i64 o3)).setCell ⟨w.heap.size + 1 + 1 + 1, 4, none⟩ (.int .i64 o4)).setCell ⟨w.heap.size + 1 + 1 + 1, 5, none⟩ (.int .i64 o5)).setCell ⟨w.heap.size + 1 + 1 + 1, 6, none⟩ (.int .i64 o6)).setCell ⟨w.heap.size + 1 + 1 + 1, 7, none⟩ (.int .i64 o7)).setCell ⟨w.heap.size + 1 + 1 + 1, 8, none⟩ (.int .i64 o8)).setCell ⟨w.heap.size + 1 + 1 + 1, 9, none⟩ (.int .i64 o9)).setCell ⟨w.heap.size + 1 + 1 + 1, 10, none⟩ (.int .i64 o10)).setCell ⟨w.heap.size + 1 + 1 + 1, 11, none⟩ (.int .i64 o11)).setCell ⟨w.heap.size + 1 + 1 + 1, 12, none⟩ (.int .i64 o12)).setCell ⟨w.heap.size + 1 + 1 + 1, 13, none⟩ (.int .i64 o13)).setCell ⟨w.heap.size + 1 + 1 + 1 + 1, 0, none⟩ (.int .i64 u0)).setCell ⟨w.heap.size + 1 + 1 + 1 + 1, 1, none⟩ (.int .i64 u1)).setCell ⟨w.heap.size + 1 + 1 + 1 + 1, 2, none⟩ (.int .i64 u2)).setCell ⟨w.heap.size + 1 + 1 + 1 + 1, 3, none⟩ (.int .i64 u3)).setCell ⟨w.heap.size + 1 + 1 + 1 + 1, 4, none⟩ (.int .i64 u4)).setCell ⟨w.heap.size + 1 + 1 + 1 + 1, 5, none⟩ (.int .i64 u5)).drew) (w.heap.size + 1 + 1 + 1) o0 o1 o2 o3 o4 o5 o6 o7 o8 o9 o10 o11 o12 o13 ∧ Rnd (((((((((((((((((((((W.setCell ⟨w.heap.size + 1 + 1 + 1, 0, none⟩ (.int .i64 o0)).setCell ⟨w.heap.size + 1 + 1 + 1, 1, none⟩ (.int .i64 o1)).setCell ⟨w.heap.size + 1 + 1 + 1, 2, none⟩ (.int .i64 o2)).setCell ⟨w.heap.size + 1 + 1 + 1, 3, none⟩ (.int .i64 o3)).setCell ⟨w.heap.size + 1 + 1 + 1, 4, none⟩ (.int .i64 o4)).setCell ⟨w.heap.size + 1 + 1 + 1, 5, none⟩ (.int .i64 o5)).setCell ⟨w.heap.size + 1 + 1 + 1, 6, none⟩ (.int .i64 o6)).setCell ⟨w.heap.size + 1 + 1 + 1, 7, none⟩ (.int .i64 o7)).setCell ⟨w.heap.size + 1 + 1 + 1, 8, none⟩ (.int .i64 o8)).setCell ⟨w.heap.size + 1 + 1 + 1, 9, none⟩ (.int .i64 o9)).setCell ⟨w.heap.size + 1 + 1 + 1, 10, none⟩ (.int .i64 o10)).setCell ⟨w.heap.size + 1 + 1 + 1, 11, none⟩ (.int .i64 o11)).setCell ⟨w.heap.size + 1 + 1 + 1, 12, none⟩ (.int .i64 o12)).setCell ⟨w.heap.size + 1 + 1 + 1, 13, none⟩ (.int .i64 o13)).setCell ⟨w.heap.size + 1 + 1 + 1 + 1, 0, none⟩ (.int .i64 u0)).setCell ⟨w.heap.size + 1 + 1 + 1 + 1, 1, none⟩ (.int .i64 u1)).setCell ⟨w.heap.size + 1 + 1 + 1 + 1, 2, none⟩ (.int .i64 u2)).setCell ⟨w.heap.size + 1 + 1 + 1 + 1, 3, none⟩ (.int .i64 u3)).setCell ⟨w.heap.size + 1 + 1 + 1 + 1, 4, none⟩ (.int .i64 u4)).setCell ⟨w.heap.size + 1 + 1 + 1 + 1, 5, none⟩ (.int .i64 u5)).drew) (w.heap.size + 1 + 1 + 1 + 1) u0 u1 u2 u3 u4 u5 ∧ Below w.heap.size w (((((((((((((((((((((W.setCell ⟨w.heap.size + 1 + 1 + 1, 0, none⟩ (.int .i64 o0)).setCell ⟨w.heap.size + 1 + 1 + 1, 1, none⟩ (.int .i64 o1)).setCell ⟨w.heap.size + 1 + 1 + 1, 2, none⟩ (.int .i64 o2)).setCell ⟨w.heap.size + 1 + 1 + 1, 3, none⟩ (.int .i64 o3)).setCell ⟨w.heap.size + 1 + 1 + 1, 4, none⟩ (.int .i64 o4)).setCell ⟨w.heap.size + 1 + 1 + 1, 5, none⟩ (.int .i64 o5)).setCell ⟨w.heap.size + 1 + 1 + 1, 6, none⟩ (.int .i64 o6)).setCell ⟨w.heap.size + 1 + 1 + 1, 7, none⟩ (.int .i64 o7)).setCell ⟨w.heap.size + 1 + 1 + 1, 8, none⟩ (.int .i64 o8)).setCell ⟨w.heap.size + 1 + 1 + 1, 9, none⟩ (.int .i64 o9)).setCell ⟨w.heap.size + 1 + 1 + 1, 10, none⟩ (.int .i64 o10)).setCell ⟨w.heap.size + 1 + 1 + 1, 11, none⟩ (.int .i64 o11)).setCell ⟨w.heap.size + 1 + 1 + 1, 12, none⟩ (.int .i64 o12)).setCell ⟨w.heap.size + 1 + 1 + 1, 13, none⟩ (.int .i64 o13)).setCell ⟨w.heap.size + 1 + 1 + 1 + 1, 0, none⟩ (.int .i64 u0)).setCell ⟨w.heap.size + 1 + 1 + 1 + 1, 1, none⟩ (.int .i64 u1)).setCell ⟨w.heap.size + 1 + 1 + 1 + 1, 2, none⟩ (.int .i64 u2)).setCell ⟨w.heap.size + 1 + 1 + 1 + 1, 3, none⟩ (.int .i64 u3)).setCell ⟨w.heap.size + 1 + 1 + 1 + 1, 4, none⟩ (.int .i64 u4)).setCell ⟨w.heap.size + 1 + 1 + 1 + 1, 5, none⟩ (.int .i64 u5)).drew) := by
  refine ⟨Sta.drew ?_, Rnd.drew ?_, Below.drew ?_⟩
  · exact (((((((P.put o0 o1 o2 o3 o4 o5 o6 o7 o8 o9 o10 o11 o12 o13).far (by omega) _).far (by omega) _).far (by omega) _).far (by omega) _).far (by omega) _).far (by omega) _)
  · refine Rnd.put (k := 0) (n := 0) (b := 0) (a := 0) (s := 0) (q := 0) ?_ u0 u1 u2 u3 u4 u5
    exact ((((((((((((((Q.far (by omega) _).far (by omega) _).far (by omega) _).far (by omega) _).far (by omega) _).far (by omega) _).far (by omega) _).far (by omega) _).far (by omega) _).far (by omega) _).far (by omega) _).far (by omega) _).far (by omega) _).far (by omega) _)
  · have h3 : w.heap.size ≤ w.heap.size + 1 + 1 + 1 := by omega
    have h4 : w.heap.size ≤ w.heap.size + 1 + 1 + 1 + 1 := by omega
    exact ((((((((((((((((((((hB.setCell (p := ⟨w.heap.size + 1 + 1 + 1, 0, none⟩) h3 _).setCell (p := ⟨w.heap.size + 1 + 1 + 1, 1, none⟩) h3 _).setCell (p := ⟨w.heap.size + 1 + 1 + 1, 2, none⟩) h3 _).setCell (p := ⟨w.heap.size + 1 + 1 + 1, 3, none⟩) h3 _).setCell (p := ⟨w.heap.size + 1 + 1 + 1, 4, none⟩) h3 _).setCell (p := ⟨w.heap.size + 1 + 1 + 1, 5, none⟩) h3 _).setCell (p := ⟨w.heap.size + 1 + 1 + 1, 6, none⟩) h3 _).setCell (p := ⟨w.heap.size + 1 + 1 + 1, 7, none⟩) h3 _).setCell (p := ⟨w.heap.size + 1 + 1 + 1, 8, none⟩) h3 _).setCell (p := ⟨w.heap.size + 1 + 1 + 1, 9, none⟩) h3 _).setCell (p := ⟨w.heap.size + 1 + 1 + 1, 10, none⟩) h3 _).setCell (p := ⟨w.heap.size + 1 + 1 + 1, 11, none⟩) h3 _).setCell (p := ⟨w.heap.size + 1 + 1 + 1, 12, none⟩) h3 _).setCell (p := ⟨w.heap.size + 1 + 1 + 1, 13, none⟩) h3 _).setCell (p := ⟨w.heap.size + 1 + 1 + 1 + 1, 0, none⟩) h4 _).setCell (p := ⟨w.heap.size + 1 + 1 + 1 + 1, 1, none⟩) h4 _).setCell (p := ⟨w.heap.size + 1 + 1 + 1 + 1, 2, none⟩) h4 _).setCell (p := ⟨w.heap.size + 1 + 1 + 1 + 1, 3, none⟩) h4 _).setCell (p := ⟨w.heap.size + 1 + 1 + 1 + 1, 4, none⟩) h4 _).setCell (p := ⟨w.heap.size + 1 + 1 + 1 + 1, 5, none⟩) h4 _)

set_option maxHeartbeats 12800000 in
theorem step_of (p0 p1 r m j k0 n0 b0 a0 c0 q0 k1 n1 b1 a1 c1 q1 w0 w1 x y D k2 n2 b2 a2 c2 q2 k3 n3 b3 a3 c3 q3 z0 z1 s0 s1 g0 g1 l0 l1 : Int) (P0 Q0 S0 P1 Q1 S1 : Nat) (w : World)
    (p : ∀ v, Calls Tryz.prog 117 #[.agg #[.int .i64 p0, .int .i64 p1, .int .i64 r, .int .i64 m, .int .i64 j], .agg #[.int .i64 k0, .int .i64 n0, .int .i64 b0, .int .i64 a0, .int .i64 c0, .int .i64 q0, .int .i64 k1, .int .i64 n1, .int .i64 b1, .int .i64 a1, .int .i64 c1, .int .i64 q1, .int .i64 w0, .int .i64 w1], .agg #[.int .i64 x, .int .i64 y]] v fun e w' => e = .returned (.int .i64 0) ∧ Below v.heap.size v w')
    (op : ∀ v, Calls Tryz.prog 118 #[.int .i64 r, .int .i64 m, .agg #[.int .i64 w0, .int .i64 w1], .agg #[.int .i64 n0, .int .i64 n1]] v fun e w' => e = .returned (.tuple #[.agg #[.int .i64 s0, .int .i64 s1, .int .i64 g0, .int .i64 g1, .int .i64 l0, .int .i64 l1], .agg #[.int .i64 z0, .int .i64 z1], .int .i64 0]) ∧ Below v.heap.size v w')
    (h0 : ∀ v, Calls Tryz.prog 85 #[.int .i64 p0] v fun e w' => e = .returned (.tuple #[.agg #[.func (.func P0) #[] #[], .func (.func Q0) #[] #[], .func (.func S0) #[] #[]], .bool true]) ∧ Below v.heap.size v w')
    (h1 : ∀ v, Calls Tryz.prog 85 #[.int .i64 p1] v fun e w' => e = .returned (.tuple #[.agg #[.func (.func P1) #[] #[], .func (.func Q1) #[] #[], .func (.func S1) #[] #[]], .bool true]) ∧ Below v.heap.size v w')
    (e0 : ∀ args w, (callFunc S0 args).run Tryz.prog w = .ok (.enter S0 args) w) (e1 : ∀ args w, (callFunc S1 args).run Tryz.prog w = .ok (.enter S1 args) w)
    (x0 : ∀ v, Calls Tryz.prog S0 #[.agg #[.int .i64 k0, .int .i64 n0, .int .i64 b0, .int .i64 a0, .int .i64 c0, .int .i64 q0], .int .i64 (D + x)] v fun e w' => e = .returned (.tuple #[.agg #[.int .i64 k2, .int .i64 n2, .int .i64 b2, .int .i64 a2, .int .i64 c2, .int .i64 q2], .int .i64 0]) ∧ Below v.heap.size v w')
    (x1 : ∀ v, Calls Tryz.prog S1 #[.agg #[.int .i64 k1, .int .i64 n1, .int .i64 b1, .int .i64 a1, .int .i64 c1, .int .i64 q1], .int .i64 (D + y)] v fun e w' => e = .returned (.tuple #[.agg #[.int .i64 k3, .int .i64 n3, .int .i64 b3, .int .i64 a3, .int .i64 c3, .int .i64 q3], .int .i64 0]) ∧ Below v.heap.size v w')
    (hw0 : 0 ≤ w0 ∧ w0 ≤ 16) (hw1 : 0 ≤ w1 ∧ w1 ≤ 16) (hr0 : ¬ r = 0) (hD : (w0 + w1).tdiv r = D) (hD0 : 0 ≤ D ∧ D ≤ 16) (hx : IntKind.i64.wrap (D + x) = D + x) (hy : IntKind.i64.wrap (D + y) = D + y) :
    Calls Tryz.prog 93 #[.agg #[.int .i64 p0, .int .i64 p1, .int .i64 r, .int .i64 m, .int .i64 j], .agg #[.int .i64 k0, .int .i64 n0, .int .i64 b0, .int .i64 a0, .int .i64 c0, .int .i64 q0, .int .i64 k1, .int .i64 n1, .int .i64 b1, .int .i64 a1, .int .i64 c1, .int .i64 q1, .int .i64 w0, .int .i64 w1], .agg #[.int .i64 x, .int .i64 y]] w fun e w' => e = .returned (.tuple #[.agg #[.int .i64 k2, .int .i64 n2, .int .i64 b2, .int .i64 a2, .int .i64 c2, .int .i64 q2, .int .i64 k3, .int .i64 n3, .int .i64 b3, .int .i64 a3, .int .i64 c3, .int .i64 q3, .int .i64 z0, .int .i64 z1], .agg #[.int .i64 s0, .int .i64 s1, .int .i64 g0, .int .i64 g1, .int .i64 l0, .int .i64 l1], .int .i64 0]) ∧ Below w.heap.size w w' := by
  have Z := qbegun w p0 p1 r m j k0 n0 b0 a0 c0 q0 k1 n1 b1 a1 c1 q1 w0 w1 x y
  obtain ⟨⟨r0, r1, r2, r3, r4, _, _, _, _, _⟩, ⟨y0, y1, y2, y3, y4, y5, y6, y7, y8, y9, y10, y11, y12, y13, _, _, _, _, _, _, _, _, _, _, _, _, _, _⟩, ⟨l0', l1', _, _⟩, _, _, _⟩ := id Z
  go_enter Tryz.func93, Tryz.ntmps93
  go_wp2_with (first
    | (go_at_call 117; refine (p _).mono ?_; clear p r0 r1 r2 r3 r4 y0 y1 y2 y3 y4 y5 y6 y7 y8 y9 y10 y11 y12 y13 l0' l1'; rintro xx v1 ⟨rfl, b⟩; replace Z := Z.kept b; clear b; obtain ⟨_, ⟨_, y1, _, _, _, _, _, y7, _, _, _, _, _, _, _, _, _, _, _, _, _, _, _, _, _, _, _, _⟩, _, _, _, _⟩ := id Z; have H := Arr.new v1 _ rfl n0 n1; replace Z := Z.alloc (.cells #[.int .i64 n0, .int .i64 n1] 67); obtain ⟨⟨_, _, r2, r3, _, _, _, _, _, _⟩, ⟨_, _, _, _, _, _, _, _, _, _, _, _, y12, y13, _, _, _, _, _, _, _, _, _, _, _, _, _, _⟩, _, _, _, _⟩ := id Z; obtain ⟨H0, H1, _, _⟩ := id H)
    | (go_at_call 118; refine (op _).mono ?_; clear op r2 r3 y1 y7 y12 y13 H0 H1 H; rintro xx v2 ⟨rfl, b⟩; have z5 : w.heap.size + 1 + 1 + 1 + 1 < v2.heap.size := block_lt (Z.kept b).hD.c0; replace Z : QGo w v2.heap.size p0 p1 r m j k0 n0 b0 a0 c0 q0 k1 n1 b1 a1 c1 q1 w0 w1 x y s0 s1 g0 g1 l0 l1 ((v2.alloc (.cells #[.int .i64 s0, .int .i64 s1, .int .i64 g0, .int .i64 g1, .int .i64 l0, .int .i64 l1] 155)).alloc (.cells #[.int .i64 z0, .int .i64 z1] 67)) := ⟨((Z.kept b).alloc _).alloc _, (Rnd.new v2 _ rfl s0 s1 g0 g1 l0 l1).alloc _⟩; have H := Arr.new (v2.alloc (.cells #[.int .i64 s0, .int .i64 s1, .int .i64 g0, .int .i64 g1, .int .i64 l0, .int .i64 l1] 155)) (v2.heap.size + 1) (by simp) z0 z1; clear b; obtain ⟨⟨⟨_, _, r2, _, _, _, _, _, _, _⟩, ⟨_, _, _, _, _, _, _, _, _, _, _, _, y12, y13, _, _, _, _, _, _, _, _, _, _, _, _, _, _⟩, _, _, _, _⟩, _⟩ := id Z; obtain ⟨H0, H1, _, _⟩ := id H; replace Z := Z.alloc (.cells #[.int .i64 0, .int .i64 0, .int .i64 0, .int .i64 0, .int .i64 0, .int .i64 0, .int .i64 0, .int .i64 0, .int .i64 0, .int .i64 0, .int .i64 0, .int .i64 0, .int .i64 z0, .int .i64 z1] 147); have O := Sta.new ((v2.alloc (.cells #[.int .i64 s0, .int .i64 s1, .int .i64 g0, .int .i64 g1, .int .i64 l0, .int .i64 l1] 155)).alloc (.cells #[.int .i64 z0, .int .i64 z1] 67)) (v2.heap.size + 1 + 1) (by simp) 0 0 0 0 0 0 0 0 0 0 0 0 z0 z1; obtain ⟨⟨⟨r0, r1, _, _, _, _, _, _, _, _⟩, _, _, _, _, _⟩, _⟩ := id Z))
  clear r0 r1 r2 y12 y13 H0 H1 H
  go_loopw [64] (fun i wr => (i = .int .i64 0 ∧ Sta wr (v2.heap.size + 1 + 1) 0 0 0 0 0 0 0 0 0 0 0 0 z0 z1 ∨ i = .int .i64 1 ∧ Sta wr (v2.heap.size + 1 + 1) k2 n2 b2 a2 c2 q2 0 0 0 0 0 0 z0 z1 ∨ i = .int .i64 2 ∧ Sta wr (v2.heap.size + 1 + 1) k2 n2 b2 a2 c2 q2 k3 n3 b3 a3 c3 q3 z0 z1) ∧ QGo w v2.heap.size p0 p1 r m j k0 n0 b0 a0 c0 q0 k1 n1 b1 a1 c1 q1 w0 w1 x y s0 s1 g0 g1 l0 l1 wr) (fun i _ => 2 - (intOf i).toNat)
  case atStart => exact ⟨.inl ⟨rfl, O⟩, Z⟩
  case round =>
    clear O Z
    obtain ⟨⟨rfl, O⟩ | ⟨rfl, O⟩ | ⟨rfl, O⟩, Z⟩ := hrel
    · clear h1 e1 x1
      go_wp2_with (go_at_call 85; refine (h0 _).mono ?_; clear h0; rintro xx v3 ⟨rfl, b⟩; have z6 : v2.heap.size + 1 + 1 < v3.heap.size := block_lt (O.kept b).c0; replace O := (O.kept b).alloc (.cells #[.func (.func P0) #[] #[], .func (.func Q0) #[] #[], .func (.func S0) #[] #[]] 135); replace Z := (Z.kept b).alloc (.cells #[.func (.func P0) #[] #[], .func (.func Q0) #[] #[], .func (.func S0) #[] #[]] 135); have F := Snd.new v3 _ rfl P0 Q0 S0; clear b)
      go_region_held3 (fun w' => w'.cell? ⟨v3.heap.size, 2, none⟩ = some (.func (.func S0) #[] #[]) ∧ w'.cell? ⟨w.heap.size + 1, 0, none⟩ = some (.int .i64 k0) ∧ w'.cell? ⟨w.heap.size + 1, 1, none⟩ = some (.int .i64 n0) ∧ w'.cell? ⟨w.heap.size + 1, 2, none⟩ = some (.int .i64 b0) ∧ w'.cell? ⟨w.heap.size + 1, 3, none⟩ = some (.int .i64 a0) ∧ w'.cell? ⟨w.heap.size + 1, 4, none⟩ = some (.int .i64 c0) ∧ w'.cell? ⟨w.heap.size + 1, 5, none⟩ = some (.int .i64 q0) ∧ w'.cell? ⟨w.heap.size + 1 + 1, 0, none⟩ = some (.int .i64 x)) (first | with_reducible exact ⟨F.c2, Z.hQ.hS.c0, Z.hQ.hS.c1, Z.hQ.hS.c2, Z.hQ.hS.c3, Z.hQ.hS.c4, Z.hQ.hS.c5, Z.hQ.hL.c0⟩ | with_reducible exact ⟨F.drew.c2, Z.drew.hQ.hS.c0, Z.drew.hQ.hS.c1, Z.drew.hQ.hS.c2, Z.drew.hQ.hS.c3, Z.drew.hQ.hS.c4, Z.drew.hQ.hS.c5, Z.drew.hQ.hL.c0⟩ | with_reducible exact ⟨Ff.c2, Zf.hQ.hS.c0, Zf.hQ.hS.c1, Zf.hQ.hS.c2, Zf.hQ.hS.c3, Zf.hQ.hS.c4, Zf.hQ.hS.c5, Zf.hQ.hL.c0⟩ | go_keep)
        (first | (refine (x0 _).mono ?_; clear x0; rintro xx v4 ⟨rfl, b⟩; replace O := O.drew.kept b; replace Z := Z.drew.kept b; replace F := F.drew.kept b; clear b; obtain ⟨y0, y1, y2, y3, y4, y5, y6, y7, y8, y9, y10, y11, y12, y13, f0, f1, f2, f3, f4, f5, f6, f7, f8, f9, f10, f11, f12, f13⟩ := id O; have Zf := ((((((Z.far (D := v2.heap.size + 1 + 1) (o := 0) (by omega) (by omega) (.int .i64 k2)).far (D := v2.heap.size + 1 + 1) (o := 1) (by omega) (by omega) (.int .i64 n2)).far (D := v2.heap.size + 1 + 1) (o := 2) (by omega) (by omega) (.int .i64 b2)).far (D := v2.heap.size + 1 + 1) (o := 3) (by omega) (by omega) (.int .i64 a2)).far (D := v2.heap.size + 1 + 1) (o := 4) (by omega) (by omega) (.int .i64 c2)).far (D := v2.heap.size + 1 + 1) (o := 5) (by omega) (by omega) (.int .i64 q2)); have Ff := ((((((F.far (D := v2.heap.size + 1 + 1) (o := 0) (by omega) (.int .i64 k2)).far (D := v2.heap.size + 1 + 1) (o := 1) (by omega) (.int .i64 n2)).far (D := v2.heap.size + 1 + 1) (o := 2) (by omega) (.int .i64 b2)).far (D := v2.heap.size + 1 + 1) (o := 3) (by omega) (.int .i64 a2)).far (D := v2.heap.size + 1 + 1) (o := 4) (by omega) (.int .i64 c2)).far (D := v2.heap.size + 1 + 1) (o := 5) (by omega) (.int .i64 q2))))
      all_goals
        go_wp2
        go_roundw
        case rel => exact ⟨.inr (.inl ⟨rfl, ((((((O.set0 k2).set1 n2).set2 b2).set3 a2).set4 c2).set5 q2)⟩), Zf⟩
        case measure => simp [intOf]
    · clear h0 e0 x0
      go_wp2_with (go_at_call 85; refine (h1 _).mono ?_; clear h1; rintro xx v3 ⟨rfl, b⟩; have z6 : v2.heap.size + 1 + 1 < v3.heap.size := block_lt (O.kept b).c0; replace O := (O.kept b).alloc (.cells #[.func (.func P1) #[] #[], .func (.func Q1) #[] #[], .func (.func S1) #[] #[]] 135); replace Z := (Z.kept b).alloc (.cells #[.func (.func P1) #[] #[], .func (.func Q1) #[] #[], .func (.func S1) #[] #[]] 135); have F := Snd.new v3 _ rfl P1 Q1 S1; clear b)
      go_region_held3 (fun w' => w'.cell? ⟨v3.heap.size, 2, none⟩ = some (.func (.func S1) #[] #[]) ∧ w'.cell? ⟨w.heap.size + 1, 6, none⟩ = some (.int .i64 k1) ∧ w'.cell? ⟨w.heap.size + 1, 7, none⟩ = some (.int .i64 n1) ∧ w'.cell? ⟨w.heap.size + 1, 8, none⟩ = some (.int .i64 b1) ∧ w'.cell? ⟨w.heap.size + 1, 9, none⟩ = some (.int .i64 a1) ∧ w'.cell? ⟨w.heap.size + 1, 10, none⟩ = some (.int .i64 c1) ∧ w'.cell? ⟨w.heap.size + 1, 11, none⟩ = some (.int .i64 q1) ∧ w'.cell? ⟨w.heap.size + 1 + 1, 1, none⟩ = some (.int .i64 y)) (first | with_reducible exact ⟨F.c2, Z.hQ.hS.c6, Z.hQ.hS.c7, Z.hQ.hS.c8, Z.hQ.hS.c9, Z.hQ.hS.c10, Z.hQ.hS.c11, Z.hQ.hL.c1⟩ | with_reducible exact ⟨F.drew.c2, Z.drew.hQ.hS.c6, Z.drew.hQ.hS.c7, Z.drew.hQ.hS.c8, Z.drew.hQ.hS.c9, Z.drew.hQ.hS.c10, Z.drew.hQ.hS.c11, Z.drew.hQ.hL.c1⟩ | with_reducible exact ⟨Ff.c2, Zf.hQ.hS.c6, Zf.hQ.hS.c7, Zf.hQ.hS.c8, Zf.hQ.hS.c9, Zf.hQ.hS.c10, Zf.hQ.hS.c11, Zf.hQ.hL.c1⟩ | go_keep)
        (first | (refine (x1 _).mono ?_; clear x1; rintro xx v4 ⟨rfl, b⟩; replace O := O.drew.kept b; replace Z := Z.drew.kept b; replace F := F.drew.kept b; clear b; obtain ⟨y0, y1, y2, y3, y4, y5, y6, y7, y8, y9, y10, y11, y12, y13, f0, f1, f2, f3, f4, f5, f6, f7, f8, f9, f10, f11, f12, f13⟩ := id O; have Zf := ((((((Z.far (D := v2.heap.size + 1 + 1) (o := 6) (by omega) (by omega) (.int .i64 k3)).far (D := v2.heap.size + 1 + 1) (o := 7) (by omega) (by omega) (.int .i64 n3)).far (D := v2.heap.size + 1 + 1) (o := 8) (by omega) (by omega) (.int .i64 b3)).far (D := v2.heap.size + 1 + 1) (o := 9) (by omega) (by omega) (.int .i64 a3)).far (D := v2.heap.size + 1 + 1) (o := 10) (by omega) (by omega) (.int .i64 c3)).far (D := v2.heap.size + 1 + 1) (o := 11) (by omega) (by omega) (.int .i64 q3)); have Ff := ((((((F.far (D := v2.heap.size + 1 + 1) (o := 6) (by omega) (.int .i64 k3)).far (D := v2.heap.size + 1 + 1) (o := 7) (by omega) (.int .i64 n3)).far (D := v2.heap.size + 1 + 1) (o := 8) (by omega) (.int .i64 b3)).far (D := v2.heap.size + 1 + 1) (o := 9) (by omega) (.int .i64 a3)).far (D := v2.heap.size + 1 + 1) (o := 10) (by omega) (.int .i64 c3)).far (D := v2.heap.size + 1 + 1) (o := 11) (by omega) (.int .i64 q3))))
      all_goals
        go_wp2
        go_roundw
        case rel => exact ⟨.inr (.inr ⟨rfl, ((((((O.set6 k3).set7 n3).set8 b3).set9 a3).set10 c3).set11 q3)⟩), Zf⟩
        case measure => simp [intOf]
    · obtain ⟨⟨_, _, _, T, Q, hB⟩, G⟩ := Z
      have R := qtold T Q hB k2 n2 b2 a2 c2 q2 k3 n3 b3 a3 c3 q3 z0 z1 s0 s1 g0 g1 l0 l1
      obtain ⟨G0, G1, G2, G3, G4, G5, _, _, _, _, _, _⟩ := G
      obtain ⟨y0, y1, y2, y3, y4, y5, y6, y7, y8, y9, y10, y11, y12, y13, _, _, _, _, _, _, _, _, _, _, _, _, _, _⟩ := O
      obtain ⟨t0, t1, t2, t3, t4, t5, t6, t7, t8, t9, t10, t11, t12, t13, f0, f1, f2, f3, f4, f5, f6, f7, f8, f9, f10, f11, f12, f13⟩ := T
      obtain ⟨d0, d1, d2, d3, d4, d5, e0', e1', e2', e3', e4', e5'⟩ := Q
      have ev1 : ¬ w.heap.size + 1 + 1 + 1 = v2.heap.size := by omega
      have ev2 : ¬ v2.heap.size = w.heap.size + 1 + 1 + 1 := by omega
      have ev3 : ¬ w.heap.size + 1 + 1 + 1 + 1 = v2.heap.size := by omega
      have ev4 : ¬ w.heap.size + 1 + 1 + 1 = v2.heap.size + 1 + 1 := by omega
      have ev5 : ¬ w.heap.size + 1 + 1 + 1 + 1 = v2.heap.size + 1 + 1 := by omega
      have ev6 : ¬ w.heap.size + 1 = v2.heap.size := by omega
      have ev7 : ¬ w.heap.size + 1 + 1 = v2.heap.size := by omega
      clear z5 hB
      go_wp2
      go_region
      go_wp2
      obtain ⟨W6, hW6⟩ : ∃ W6, (((((((((((((((((((((wr.setCell ⟨w.heap.size + 1 + 1 + 1, 0, none⟩ (.int .i64 k2)).setCell ⟨w.heap.size + 1 + 1 + 1, 1, none⟩ (.int .i64 n2)).setCell ⟨w.heap.size + 1 + 1 + 1, 2, none⟩ (.int .i64 b2)).setCell ⟨w.heap.size + 1 + 1 + 1, 3, none⟩ (.int .i64 a2)).setCell ⟨w.heap.size + 1 + 1 + 1, 4, none⟩ (.int .i64 c2)).setCell ⟨w.heap.size + 1 + 1 + 1, 5, none⟩ (.int .i64 q2)).setCell ⟨w.heap.size + 1 + 1 + 1, 6, none⟩ (.int .i64 k3)).setCell ⟨w.heap.size + 1 + 1 + 1, 7, none⟩ (.int .i64 n3)).setCell ⟨w.heap.size + 1 + 1 + 1, 8, none⟩ (.int .i64 b3)).setCell ⟨w.heap.size + 1 + 1 + 1, 9, none⟩ (.int .i64 a3)).setCell ⟨w.heap.size + 1 + 1 + 1, 10, none⟩ (.int .i64 c3)).setCell ⟨w.heap.size + 1 + 1 + 1, 11, none⟩ (.int .i64 q3)).setCell ⟨w.heap.size + 1 + 1 + 1, 12, none⟩ (.int .i64 z0)).setCell ⟨w.heap.size + 1 + 1 + 1, 13, none⟩ (.int .i64 z1)).setCell ⟨w.heap.size + 1 + 1 + 1 + 1, 0, none⟩ (.int .i64 s0)).setCell ⟨w.heap.size + 1 + 1 + 1 + 1, 1, none⟩ (.int .i64 s1)).setCell ⟨w.heap.size + 1 + 1 + 1 + 1, 2, none⟩ (.int .i64 g0)).setCell ⟨w.heap.size + 1 + 1 + 1 + 1, 3, none⟩ (.int .i64 g1)).setCell ⟨w.heap.size + 1 + 1 + 1 + 1, 4, none⟩ (.int .i64 l0)).setCell ⟨w.heap.size + 1 + 1 + 1 + 1, 5, none⟩ (.int .i64 l1)).drew) = W6 := ⟨_, rfl⟩
      rw [hW6] at R ⊢
      obtain ⟨P, Q, b6⟩ := R
      exact bodyPost_ret (v := .tuple #[.agg #[.int .i64 k2, .int .i64 n2, .int .i64 b2, .int .i64 a2, .int .i64 c2, .int .i64 q2, .int .i64 k3, .int .i64 n3, .int .i64 b3, .int .i64 a3, .int .i64 c3, .int .i64 q3, .int .i64 z0, .int .i64 z1], .agg #[.int .i64 s0, .int .i64 s1, .int .i64 g0, .int .i64 g1, .int .i64 l0, .int .i64 l1], .int .i64 0]) (by simp [results, Tryz.results93, go_sem, P.c0, P.c1, P.c2, P.c3, P.c4, P.c5, P.c6, P.c7, P.c8, P.c9, P.c10, P.c11, P.c12, P.c13, Q.c0, Q.c1, Q.c2, Q.c3, Q.c4, Q.c5]) rfl ⟨rfl, b6⟩

theorem wrapEq (x : Int) : IntKind.i64.wrap x = wrap64 x := by rw [IntKind.wrap_i64]; unfold wrap64; rfl
theorem wrap_in {x : Int} (h : -9223372036854775808 ≤ x ∧ x ≤ 9223372036854775807) : IntKind.i64.wrap x = x := by rw [wrapEq]; exact IntWalk.wrap64_in _ h

/-- the next one by the kind that the rules name -/
theorem nxs (k : Int) (h : 1 ≤ k ∧ k ≤ 3) (c : Ct) (dd : Int) (hc : cright c ∧ c.k = k) (hd : inr dd) : (∀ args w, (callFunc (nxF k) args).run Tryz.prog w = .ok (.enter (nxF k) args) w) ∧ ∀ v, Calls Tryz.prog (nxF k) #[.agg #[.int .i64 c.k, .int .i64 c.n, .int .i64 c.b, .int .i64 c.a, .int .i64 c.s, .int .i64 c.q], .int .i64 dd] v fun e w' => e = .returned (.tuple #[.agg #[.int .i64 (K.nx c dd).k, .int .i64 (K.nx c dd).n, .int .i64 (K.nx c dd).b, .int .i64 (K.nx c dd).a, .int .i64 (K.nx c dd).s, .int .i64 (K.nx c dd).q], .int .i64 0]) ∧ Below v.heap.size v w' := by
  obtain ⟨hc, rfl⟩ := hc
  obtain ⟨k, n, b, a, s, q⟩ := c
  rcases hc with h | h | h
  · obtain rfl : k = 1 := h.1
    refine ⟨enters_of Tryz.func110 (by kernel_rfl) rfl, fun v => ?_⟩
    have := V.next_yes 1 n b a s q dd v h hd
    rw [show K.nx ⟨1, n, b, a, s, q⟩ dd = kn ⟨1, n, b, a, s, q⟩ dd from rfl]
    obtain ⟨_, _, _, e1, e2, e3⟩ := h; simp only at e1 e2 e3; subst e1 e2 e3
    exact this
  · obtain rfl : k = 2 := h.1
    refine ⟨enters_of Tryz.func113 (by kernel_rfl) rfl, fun v => ?_⟩
    have := C.next_yes 2 n b a s q dd v h hd
    rw [show K.nx ⟨2, n, b, a, s, q⟩ dd = ln ⟨2, n, b, a, s, q⟩ dd from rfl]
    obtain ⟨_, _, _, _, _, e3⟩ := h; simp only at e3; subst e3
    exact this
  · obtain rfl : k = 3 := h.1
    refine ⟨enters_of Tryz.func26 (by kernel_rfl) rfl, fun v => ?_⟩
    have := L.next_yes 3 n b a s q dd v h hd
    rw [show K.nx ⟨3, n, b, a, s, q⟩ dd = mn ⟨3, n, b, a, s, q⟩ dd from rfl]
    obtain ⟨_, _, _, e1, e2, _⟩ := h; simp only at e1 e2; subst e1 e2
    exact this

theorem step_yes (r : Ru) (s : Sx) (x y : Int) (h : pright r s) (hl : lates r x y) (w : World) :
    Calls Tryz.prog 93 #[.agg #[.int .i64 r.k0, .int .i64 r.k1, .int .i64 r.r, .int .i64 r.m, .int .i64 r.j], .agg #[.int .i64 s.f0.k, .int .i64 s.f0.n, .int .i64 s.f0.b, .int .i64 s.f0.a, .int .i64 s.f0.s, .int .i64 s.f0.q, .int .i64 s.f1.k, .int .i64 s.f1.n, .int .i64 s.f1.b, .int .i64 s.f1.a, .int .i64 s.f1.s, .int .i64 s.f1.q, .int .i64 s.w0, .int .i64 s.w1], .agg #[.int .i64 x, .int .i64 y]] w fun e w' => e = .returned (.tuple #[.agg #[.int .i64 (K.step r s x y).f0.k, .int .i64 (K.step r s x y).f0.n, .int .i64 (K.step r s x y).f0.b, .int .i64 (K.step r s x y).f0.a, .int .i64 (K.step r s x y).f0.s, .int .i64 (K.step r s x y).f0.q, .int .i64 (K.step r s x y).f1.k, .int .i64 (K.step r s x y).f1.n, .int .i64 (K.step r s x y).f1.b, .int .i64 (K.step r s x y).f1.a, .int .i64 (K.step r s x y).f1.s, .int .i64 (K.step r s x y).f1.q, .int .i64 (K.step r s x y).w0, .int .i64 (K.step r s x y).w1], .agg #[.int .i64 (K.round r s).s0, .int .i64 (K.round r s).s1, .int .i64 (K.round r s).c0, .int .i64 (K.round r s).c1, .int .i64 (K.round r s).l0, .int .i64 (K.round r s).l1], .int .i64 0]) ∧ Below w.heap.size w w' := by
  have pw : ∀ v, Calls Tryz.prog 117 #[.agg #[.int .i64 r.k0, .int .i64 r.k1, .int .i64 r.r, .int .i64 r.m, .int .i64 r.j], .agg #[.int .i64 s.f0.k, .int .i64 s.f0.n, .int .i64 s.f0.b, .int .i64 s.f0.a, .int .i64 s.f0.s, .int .i64 s.f0.q, .int .i64 s.f1.k, .int .i64 s.f1.n, .int .i64 s.f1.b, .int .i64 s.f1.a, .int .i64 s.f1.s, .int .i64 s.f1.q, .int .i64 s.w0, .int .i64 s.w1], .agg #[.int .i64 x, .int .i64 y]] v fun e w' => e = .returned (.int .i64 0) ∧ Below v.heap.size v w' := fun v => by
    have := ws_any r s x y v
    rw [wstep_ok.2 ⟨h, hl⟩] at this
    exact this
  obtain ⟨i0, i1⟩ := late_in h hl
  have hk := h.1.1
  unfold kinds at hk
  have ca := nxs r.k0 hk.1 s.f0 (dly r s + x) h.2.1 i0
  have cb := nxs r.k1 hk.2 s.f1 (dly r s + y) h.2.2.1 i1
  have op := fun v => pass_yes r.r r.m s.w0 s.w1 s.f0.n s.f1.n (pright_lr h) v
  have hd := dly_in h
  have hr := h.1.2
  unfold ranges at hr
  obtain ⟨_, _, _, h5, h6, h7⟩ := h
  unfold lates at hl
  have td : (s.w0 + s.w1).tdiv r.r = dly r s := Int.tdiv_eq_ediv_of_nonneg (by omega)
  exact step_of r.k0 r.k1 r.r r.m r.j s.f0.k s.f0.n s.f0.b s.f0.a s.f0.s s.f0.q s.f1.k s.f1.n s.f1.b s.f1.a s.f1.s s.f1.q s.w0 s.w1 x y (dly r s) _ _ _ _ _ _ _ _ _ _ _ _ _ _ _ _ _ _ _ _ _ _ _ _ _ _ w pw op (fun v => sender_yes r.k0 hk.1 v) (fun v => sender_yes r.k1 hk.2 v) ca.1 cb.1 ca.2 cb.2 (by omega) (by omega) (by omega) td (by omega) (wrap_in (by omega)) (wrap_in (by omega))

end Go.Proofs.YtjageagnclmnjabGreatDoor.D
