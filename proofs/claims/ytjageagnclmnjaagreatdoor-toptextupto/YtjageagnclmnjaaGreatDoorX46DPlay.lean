/- PROVED: what duel.Play answers, at every argument that is no longer than a million. CONDITIONS: none beyond each theorem's own. -/
import Derived.Test.YtjageagnclmnjaaGreatDoorX26DGo
import Derived.Test.YtjageagnclmnjaaGreatDoorX28DStart
import Derived.Test.YtjageagnclmnjaaGreatDoorX08DRow
namespace Go.Proofs.YtjageagnclmnjaaGreatDoor.D
set_option maxRecDepth 100000
open Go.RowKit K

theorem take_snoc {α : Type} (d : α) (z : List α) (k : Nat) (h : k < z.length) : z.take (k + 1) = z.take k ++ [z.getD k d] := by
  rw [List.take_add_one, List.getElem?_eq_getElem h, List.getD_eq_getElem?_getD, List.getElem?_eq_getElem h]; rfl

/-- what a run tells -/
def PAns (r : Ru) (ls : List (Int × Int)) (n : Nat) (w : World) (e : Ending) (w' : World) : Prop :=
  (allLate r ls ∧ (∃ ao cp, e = .returned (.tuple #[.slice ao n cp, .agg #[.int .i64 (steps r (K.start r) ls).f0.k, .int .i64 (steps r (K.start r) ls).f0.n, .int .i64 (steps r (K.start r) ls).f0.b, .int .i64 (steps r (K.start r) ls).f0.a, .int .i64 (steps r (K.start r) ls).f0.s, .int .i64 (steps r (K.start r) ls).f0.q, .int .i64 (steps r (K.start r) ls).f1.k, .int .i64 (steps r (K.start r) ls).f1.n, .int .i64 (steps r (K.start r) ls).f1.b, .int .i64 (steps r (K.start r) ls).f1.a, .int .i64 (steps r (K.start r) ls).f1.s, .int .i64 (steps r (K.start r) ls).f1.q, .int .i64 (steps r (K.start r) ls).w0, .int .i64 (steps r (K.start r) ls).w1], .int .i64 0]) ∧ n ≤ cp ∧ RRow w' ao (rounds r (K.start r) ls) ∧ ∀ q, ao = some q → w.heap.size ≤ q.block) ∨ ¬ allLate r ls ∧ e = .returned (.tuple #[.slice none 0 0, .agg #[.int .i64 0, .int .i64 0, .int .i64 0, .int .i64 0, .int .i64 0, .int .i64 0, .int .i64 0, .int .i64 0, .int .i64 0, .int .i64 0, .int .i64 0, .int .i64 0, .int .i64 0, .int .i64 0], .int .i64 2])) ∧ Below w.heap.size w w'

set_option maxHeartbeats 3200000 in
theorem play_wrong (r : Ru) (E : Int) (h : wrong r = E) (he : (E != 0) = true) (s : Value) (w : World) :
    Calls Tryz.prog 15 #[.agg #[.int .i64 r.k0, .int .i64 r.k1, .int .i64 r.r, .int .i64 r.m, .int .i64 r.j], s] w fun e w' => e = .returned (.tuple #[.slice none 0 0, .agg #[.int .i64 0, .int .i64 0, .int .i64 0, .int .i64 0, .int .i64 0, .int .i64 0, .int .i64 0, .int .i64 0, .int .i64 0, .int .i64 0, .int .i64 0, .int .i64 0, .int .i64 0, .int .i64 0], .int .i64 E]) ∧ Below w.heap.size w w' := by
  have st := fun v => start_no r E h he v
  obtain ⟨p0, p1, r, m, j⟩ := r
  have X := (Rul.new w _ rfl p0 p1 r m j).alloc (.cells #[.int .i64 0, .int .i64 0, .int .i64 0, .int .i64 0, .int .i64 0, .int .i64 0, .int .i64 0, .int .i64 0, .int .i64 0, .int .i64 0, .int .i64 0, .int .i64 0, .int .i64 0, .int .i64 0] 45)
  have Y := Sta.new (w.alloc (.cells #[.int .i64 p0, .int .i64 p1, .int .i64 r, .int .i64 m, .int .i64 j] 33)) (w.heap.size + 1) (by simp) 0 0 0 0 0 0 0 0 0 0 0 0 0 0
  have B : Below w.heap.size w ((w.alloc (.cells #[.int .i64 p0, .int .i64 p1, .int .i64 r, .int .i64 m, .int .i64 j] 33)).alloc (.cells #[.int .i64 0, .int .i64 0, .int .i64 0, .int .i64 0, .int .i64 0, .int .i64 0, .int .i64 0, .int .i64 0, .int .i64 0, .int .i64 0, .int .i64 0, .int .i64 0, .int .i64 0, .int .i64 0] 45)) := balloc (balloc (Below.refl _ _) _) _
  obtain ⟨x0, x1, x2, x3, x4, _, _, _, _, _⟩ := id X
  go_enter Tryz.func15, Tryz.ntmps15
  go_wp2_with (go_at_call 36; refine (st _).mono ?_; clear st x0 x1 x2 x3 x4; rintro xx v ⟨rfl, b⟩; replace Y := Y.kept b; have bl : w.heap.size + 1 < v.heap.size := block_lt Y.c0; have ev1 : ¬ w.heap.size + 1 = v.heap.size := (by omega); replace B := bthen B b; obtain ⟨y0, y1, y2, y3, y4, y5, y6, y7, y8, y9, y10, y11, y12, y13, h0, h1, h2, h3, h4, h5, h6, h7, h8, h9, h10, h11, h12, h13⟩ := id Y)
  have O := (Y.put 0 0 0 0 0 0 0 0 0 0 0 0 0 0).alloc (.cells #[.int .i64 0, .int .i64 0, .int .i64 0, .int .i64 0, .int .i64 0, .int .i64 0, .int .i64 0, .int .i64 0, .int .i64 0, .int .i64 0, .int .i64 0, .int .i64 0, .int .i64 0, .int .i64 0] 45)
  obtain ⟨W6, hW6⟩ : ∃ W6, ((((((((((((((v.setCell ⟨w.heap.size + 1, 0, none⟩ (.int .i64 0)).setCell ⟨w.heap.size + 1, 1, none⟩ (.int .i64 0)).setCell ⟨w.heap.size + 1, 2, none⟩ (.int .i64 0)).setCell ⟨w.heap.size + 1, 3, none⟩ (.int .i64 0)).setCell ⟨w.heap.size + 1, 4, none⟩ (.int .i64 0)).setCell ⟨w.heap.size + 1, 5, none⟩ (.int .i64 0)).setCell ⟨w.heap.size + 1, 6, none⟩ (.int .i64 0)).setCell ⟨w.heap.size + 1, 7, none⟩ (.int .i64 0)).setCell ⟨w.heap.size + 1, 8, none⟩ (.int .i64 0)).setCell ⟨w.heap.size + 1, 9, none⟩ (.int .i64 0)).setCell ⟨w.heap.size + 1, 10, none⟩ (.int .i64 0)).setCell ⟨w.heap.size + 1, 11, none⟩ (.int .i64 0)).setCell ⟨w.heap.size + 1, 12, none⟩ (.int .i64 0)).setCell ⟨w.heap.size + 1, 13, none⟩ (.int .i64 0)).alloc (.cells #[.int .i64 0, .int .i64 0, .int .i64 0, .int .i64 0, .int .i64 0, .int .i64 0, .int .i64 0, .int .i64 0, .int .i64 0, .int .i64 0, .int .i64 0, .int .i64 0, .int .i64 0, .int .i64 0] 45) = W6 := ⟨_, rfl⟩
  have B6 : Below w.heap.size w W6 := by
    rw [← hW6]
    refine balloc ?_ _
    repeat (with_reducible refine Below.setCell ?_ (by simp) _)
    exact B
  rw [hW6] at O ⊢
  exact bodyPost_ret (v := .tuple #[.slice none 0 0, .agg #[.int .i64 0, .int .i64 0, .int .i64 0, .int .i64 0, .int .i64 0, .int .i64 0, .int .i64 0, .int .i64 0, .int .i64 0, .int .i64 0, .int .i64 0, .int .i64 0, .int .i64 0, .int .i64 0], .int .i64 E]) (by simp [results, Tryz.results15, go_sem, O.c0, O.c1, O.c2, O.c3, O.c4, O.c5, O.c6, O.c7, O.c8, O.c9, O.c10, O.c11, O.c12, O.c13]) rfl ⟨rfl, B6⟩

set_option maxHeartbeats 12800000 in
theorem play_any (r : Ru) (h : wrong r = 0) (a : Option Addr) (cap n : Nat) (ls : List (Int × Int)) (hn : ls.length = n) (hl : n ≤ 1048576) (w : World) (hv : VRow w a ls) :
    Calls Tryz.prog 15 #[.agg #[.int .i64 r.k0, .int .i64 r.k1, .int .i64 r.r, .int .i64 r.m, .int .i64 r.j], .slice a n cap] w (PAns r ls n w) := by
  obtain ⟨i0, hi, hz0, hz1, hz2⟩ := info_parts Tryz.info34
  have sy := fun v => start_yes r h v
  have st1 : ∀ k x y, k < n → ls.getD k (0, 0) = (x, y) → allLate r (ls.take k) → lates r x y → allLate r (ls.take (k + 1)) := fun k x y hk e h1 h2 => by
    rw [take_snoc (0, 0) ls k (by omega), e]
    intro p hp
    rcases List.mem_append.1 hp with hp | hp
    · exact h1 p hp
    · obtain rfl : p = (x, y) := by simpa using hp
      exact h2
  have st2 : ∀ k x y, k < n → ls.getD k (0, 0) = (x, y) → ¬ lates r x y → ¬ allLate r ls := fun k x y hk e h2 h3 => by
    refine h2 (h3 (x, y) ?_)
    rw [← e, List.getD_eq_getElem?_getD, List.getElem?_eq_getElem (by omega)]
    exact List.getElem_mem _
  have st3 : ∀ k x y, k < n → ls.getD k (0, 0) = (x, y) → steps r (K.start r) (ls.take (k + 1)) = K.step r (steps r (K.start r) (ls.take k)) x y ∧ rounds r (K.start r) (ls.take (k + 1)) = rounds r (K.start r) (ls.take k) ++ [K.round r (steps r (K.start r) (ls.take k))] := fun k x y hk e => by
    rw [take_snoc (0, 0) ls k (by omega), e]
    exact ⟨steps_snoc _ _ _ _, rounds_snoc _ _ _ _⟩
  have hw0 := wrong_ok.1 h
  have X := (Rul.new w _ rfl r.k0 r.k1 r.r r.m r.j).alloc (.cells #[.int .i64 0, .int .i64 0, .int .i64 0, .int .i64 0, .int .i64 0, .int .i64 0, .int .i64 0, .int .i64 0, .int .i64 0, .int .i64 0, .int .i64 0, .int .i64 0, .int .i64 0, .int .i64 0] 45)
  have Y := Sta.new (w.alloc (.cells #[.int .i64 r.k0, .int .i64 r.k1, .int .i64 r.r, .int .i64 r.m, .int .i64 r.j] 33)) (w.heap.size + 1) (by simp) 0 0 0 0 0 0 0 0 0 0 0 0 0 0
  have B : Below w.heap.size w ((w.alloc (.cells #[.int .i64 r.k0, .int .i64 r.k1, .int .i64 r.r, .int .i64 r.m, .int .i64 r.j] 33)).alloc (.cells #[.int .i64 0, .int .i64 0, .int .i64 0, .int .i64 0, .int .i64 0, .int .i64 0, .int .i64 0, .int .i64 0, .int .i64 0, .int .i64 0, .int .i64 0, .int .i64 0, .int .i64 0, .int .i64 0] 45)) := balloc (balloc (Below.refl _ _) _) _
  obtain ⟨x0, x1, x2, x3, x4, _, _, _, _, _⟩ := id X
  replace st1 : Hid _ := st1
  replace st2 : Hid _ := st2
  replace st3 : Hid _ := st3
  go_enter Tryz.func15, Tryz.ntmps15
  go_wp2_with (go_at_call 36; refine (sy _).mono ?_; clear sy x0 x1 x2 x3 x4; rintro xx v ⟨rfl, b⟩; have bl : w.heap.size + 1 < v.heap.size := block_lt (Y.kept b).c0; have P : PlAt w v.heap.size r.k0 r.k1 r.r r.m r.j r.k0 1 (-1) 0 0 0 r.k1 1 (-1) 0 0 0 0 0 (.slice none 0 0) [] (v.alloc (.cells #[.int .i64 r.k0, .int .i64 1, .int .i64 (-1), .int .i64 0, .int .i64 0, .int .i64 0, .int .i64 r.k1, .int .i64 1, .int .i64 (-1), .int .i64 0, .int .i64 0, .int .i64 0, .int .i64 0, .int .i64 0] 45)) := ⟨(X.kept b).alloc _, (Y.kept b).alloc _, Sta.new v _ rfl r.k0 1 (-1) 0 0 0 r.k1 1 (-1) 0 0 0 0 0, World.ownsRow_nil _ _ _ _, bl, balloc (bthen B b) _⟩; clear X Y B b)
  go_loopw [9, 26] (fun t i wr => ∃ k : Nat, k ≤ n ∧ i = .int .i64 k ∧ allLate r (ls.take k) ∧ PlAt w v.heap.size r.k0 r.k1 r.r r.m r.j (steps r (K.start r) (ls.take k)).f0.k (steps r (K.start r) (ls.take k)).f0.n (steps r (K.start r) (ls.take k)).f0.b (steps r (K.start r) (ls.take k)).f0.a (steps r (K.start r) (ls.take k)).f0.s (steps r (K.start r) (ls.take k)).f0.q (steps r (K.start r) (ls.take k)).f1.k (steps r (K.start r) (ls.take k)).f1.n (steps r (K.start r) (ls.take k)).f1.b (steps r (K.start r) (ls.take k)).f1.a (steps r (K.start r) (ls.take k)).f1.s (steps r (K.start r) (ls.take k)).f1.q (steps r (K.start r) (ls.take k)).w0 (steps r (K.start r) (ls.take k)).w1 t (rounds r (K.start r) (ls.take k)) wr) (fun _ i _ => n - (intOf i).toNat)
  case atStart => exact ⟨0, Nat.zero_le _, rfl, by simp [allLate], P⟩
  case round =>
    clear P
    obtain ⟨k, hk, rfl, hL, P⟩ := hrel
    have hp := steps_right (start_right hw0) hL
    have hRl : (rounds r (K.start r) (ls.take k)).length = k := by rw [rounds_len, List.length_take]; omega
    by_cases hlt : k < n
    · obtain ⟨bb, oo, rfl, hc⟩ := (hv.kept P.below).at (by omega)
      obtain ⟨cx, cy⟩ := hc k (by omega)
      obtain ⟨⟨x, y⟩, hxy⟩ : ∃ p, ls.getD k (0, 0) = p := ⟨_, rfl⟩
      rw [hxy] at cx cy
      simp only at cx cy
      have hltI : (k : Int) < n := by omega
      by_cases hla : lates r x y
      · obtain ⟨e1, e2⟩ := st3.out k x y hlt hxy
        have hL2 : Hid _ := st1.out k x y hlt hxy hL hla
        have sy := fun v => step_yes r (steps r (K.start r) (ls.take k)) x y hp hla v
        have fin : Hid (∀ t wr, PlAt w v.heap.size r.k0 r.k1 r.r r.m r.j (K.step r (steps r (K.start r) (ls.take k)) x y).f0.k (K.step r (steps r (K.start r) (ls.take k)) x y).f0.n (K.step r (steps r (K.start r) (ls.take k)) x y).f0.b (K.step r (steps r (K.start r) (ls.take k)) x y).f0.a (K.step r (steps r (K.start r) (ls.take k)) x y).f0.s (K.step r (steps r (K.start r) (ls.take k)) x y).f0.q (K.step r (steps r (K.start r) (ls.take k)) x y).f1.k (K.step r (steps r (K.start r) (ls.take k)) x y).f1.n (K.step r (steps r (K.start r) (ls.take k)) x y).f1.b (K.step r (steps r (K.start r) (ls.take k)) x y).f1.a (K.step r (steps r (K.start r) (ls.take k)) x y).f1.s (K.step r (steps r (K.start r) (ls.take k)) x y).f1.q (K.step r (steps r (K.start r) (ls.take k)) x y).w0 (K.step r (steps r (K.start r) (ls.take k)) x y).w1 t (rounds r (K.start r) (ls.take k) ++ [K.round r (steps r (K.start r) (ls.take k))]) wr → PlAt w v.heap.size r.k0 r.k1 r.r r.m r.j (steps r (K.start r) (ls.take (k + 1))).f0.k (steps r (K.start r) (ls.take (k + 1))).f0.n (steps r (K.start r) (ls.take (k + 1))).f0.b (steps r (K.start r) (ls.take (k + 1))).f0.a (steps r (K.start r) (ls.take (k + 1))).f0.s (steps r (K.start r) (ls.take (k + 1))).f0.q (steps r (K.start r) (ls.take (k + 1))).f1.k (steps r (K.start r) (ls.take (k + 1))).f1.n (steps r (K.start r) (ls.take (k + 1))).f1.b (steps r (K.start r) (ls.take (k + 1))).f1.a (steps r (K.start r) (ls.take (k + 1))).f1.s (steps r (K.start r) (ls.take (k + 1))).f1.q (steps r (K.start r) (ls.take (k + 1))).w0 (steps r (K.start r) (ls.take (k + 1))).w1 t (rounds r (K.start r) (ls.take (k + 1))) wr) := fun t wr q => by rw [e1, e2]; exact q
        clear e1 e2 st1 st2 st3 hc hv hL hxy
        generalize K.round r (steps r (K.start r) (ls.take k)) = D at sy fin
        generalize K.step r (steps r (K.start r) (ls.take k)) x y = T at sy fin
        generalize steps r (K.start r) (ls.take k) = S at P sy hp
        generalize rounds r (K.start r) (ls.take k) = R at P fin hRl
        clear hp hla h hw0
        obtain ⟨p0, p1, r, m, j⟩ := r
        obtain ⟨⟨k0, n0, b0, a0, c0, q0⟩, ⟨k1, n1, b1, a1, c1, q1⟩, w0, w1⟩ := S
        obtain ⟨⟨k2, n2, b2, a2, c2, q2⟩, ⟨k3, n3, b3, a3, c3, q3⟩, z0, z1⟩ := T
        obtain ⟨s0, s1, g0, g1, l0, l1⟩ := D
        simp only at P sy
        replace P := P.alloc (.cells #[.int .i64 x, .int .i64 y] 31)
        obtain ⟨⟨r0, r1, r2, r3, r4, _, _, _, _, _⟩, _, ⟨y0, y1, y2, y3, y4, y5, y6, y7, y8, y9, y10, y11, y12, y13, h0, h1, h2, h3, h4, h5, h6, h7, h8, h9, h10, h11, h12, h13⟩, _, _, _⟩ := id P
        go_wp2_with (first
          | (go_at_call 37; refine (sy _).mono ?_; clear sy r0 r1 r2 r3 r4 y0 y1 y2 y3 y4 y5 y6 y7 y8 y9 y10 y11 y12 y13 h0 h1 h2 h3 h4 h5 h6 h7 h8 h9 h10 h11 h12 h13; rintro xx v1 ⟨rfl, b⟩; have z5 : v.heap.size < v1.heap.size := block_lt (P.kept b).hS.c0; replace P := ((P.kept b).alloc (.cells #[.int .i64 k2, .int .i64 n2, .int .i64 b2, .int .i64 a2, .int .i64 c2, .int .i64 q2, .int .i64 k3, .int .i64 n3, .int .i64 b3, .int .i64 a3, .int .i64 c3, .int .i64 q3, .int .i64 z0, .int .i64 z1] 45)).alloc (.cells #[.int .i64 s0, .int .i64 s1, .int .i64 g0, .int .i64 g1, .int .i64 l0, .int .i64 l1] 86); clear b; have E := (Sta.new v1 _ rfl k2 n2 b2 a2 c2 q2 k3 n3 b3 a3 c3 q3 z0 z1).alloc (.cells #[.int .i64 s0, .int .i64 s1, .int .i64 g0, .int .i64 g1, .int .i64 l0, .int .i64 l1] 86); have G := Rnd.new (v1.alloc (.cells #[.int .i64 k2, .int .i64 n2, .int .i64 b2, .int .i64 a2, .int .i64 c2, .int .i64 q2, .int .i64 k3, .int .i64 n3, .int .i64 b3, .int .i64 a3, .int .i64 c3, .int .i64 q3, .int .i64 z0, .int .i64 z1] 45)) (v1.heap.size + 1) (by simp) s0 s1 g0 g1 l0 l1; obtain ⟨W5, hW5⟩ : ∃ W5, (v1.alloc (.cells #[.int .i64 k2, .int .i64 n2, .int .i64 b2, .int .i64 a2, .int .i64 c2, .int .i64 q2, .int .i64 k3, .int .i64 n3, .int .i64 b3, .int .i64 a3, .int .i64 c3, .int .i64 q3, .int .i64 z0, .int .i64 z1] 45)).alloc (.cells #[.int .i64 s0, .int .i64 s1, .int .i64 g0, .int .i64 g1, .int .i64 l0, .int .i64 l1] 86) = W5 := ⟨_, rfl⟩; rw [hW5] at P E G; have G6 := ((((((((((((((G.far (D := v.heap.size) (o := 0) (by omega) (.int .i64 k2)).far (D := v.heap.size) (o := 1) (by omega) (.int .i64 n2)).far (D := v.heap.size) (o := 2) (by omega) (.int .i64 b2)).far (D := v.heap.size) (o := 3) (by omega) (.int .i64 a2)).far (D := v.heap.size) (o := 4) (by omega) (.int .i64 c2)).far (D := v.heap.size) (o := 5) (by omega) (.int .i64 q2)).far (D := v.heap.size) (o := 6) (by omega) (.int .i64 k3)).far (D := v.heap.size) (o := 7) (by omega) (.int .i64 n3)).far (D := v.heap.size) (o := 8) (by omega) (.int .i64 b3)).far (D := v.heap.size) (o := 9) (by omega) (.int .i64 a3)).far (D := v.heap.size) (o := 10) (by omega) (.int .i64 c3)).far (D := v.heap.size) (o := 11) (by omega) (.int .i64 q3)).far (D := v.heap.size) (o := 12) (by omega) (.int .i64 z0)).far (D := v.heap.size) (o := 13) (by omega) (.int .i64 z1)); have P2 := P.put k2 n2 b2 a2 c2 q2 k3 n3 b3 a3 c3 q3 z0 z1; obtain ⟨W6, hW6⟩ : ∃ W6, ((((((((((((((W5.setCell ⟨v.heap.size, 0, none⟩ (.int .i64 k2)).setCell ⟨v.heap.size, 1, none⟩ (.int .i64 n2)).setCell ⟨v.heap.size, 2, none⟩ (.int .i64 b2)).setCell ⟨v.heap.size, 3, none⟩ (.int .i64 a2)).setCell ⟨v.heap.size, 4, none⟩ (.int .i64 c2)).setCell ⟨v.heap.size, 5, none⟩ (.int .i64 q2)).setCell ⟨v.heap.size, 6, none⟩ (.int .i64 k3)).setCell ⟨v.heap.size, 7, none⟩ (.int .i64 n3)).setCell ⟨v.heap.size, 8, none⟩ (.int .i64 b3)).setCell ⟨v.heap.size, 9, none⟩ (.int .i64 a3)).setCell ⟨v.heap.size, 10, none⟩ (.int .i64 c3)).setCell ⟨v.heap.size, 11, none⟩ (.int .i64 q3)).setCell ⟨v.heap.size, 12, none⟩ (.int .i64 z0)).setCell ⟨v.heap.size, 13, none⟩ (.int .i64 z1)) = W6 := ⟨_, rfl⟩; rw [hW6] at P2 G6; have z9 : v.heap.size < W6.heap.size := block_lt P2.hS.c0; obtain ⟨t0, t1, t2, t3, t4, t5, t6, t7, t8, t9, t10, t11, t12, t13, _, _, _, _, _, _, _, _, _, _, _, _, _, _⟩ := E; obtain ⟨G0, G1, G2, G3, G4, G5, _, _, _, _, _, _⟩ := G6; obtain ⟨_, _, ⟨y0, y1, y2, y3, y4, y5, y6, y7, y8, y9, y10, y11, y12, y13, h0, h1, h2, h3, h4, h5, h6, h7, h8, h9, h10, h11, h12, h13⟩, _, _, _⟩ := P; have hcn := cell_six_new W6 ⟨s0, s1, g0, g1, l0, l1⟩; replace hcn : Hid _ := hcn; have HP2 : Hid _ := P2; clear P2 G)
          | (at_builtin; refine wpList_append_own _ rfl _ _ 40 rfl (v.heap.size + 1) 86 i0 (.agg #[.int .i64 0, .int .i64 0, .int .i64 0, .int .i64 0, .int .i64 0, .int .i64 0]) 6 48 Tryz.underlying40 hi hz0 hz1 hz2 rfl (by decide) _ _ _ rfl (HP2.out.own.alloc _) ⟨W6.heap.size, 0, none⟩ 1 1 (cellsR ⟨s0, s1, g0, g1, l0, l1⟩) rfl rfl hcn.out (by simp [cellsR, Value.oneCell']) (by unfold maxLen; omega) (by omega) (by simp; omega) ?_; intro t' w2 hown' hgrow _; have hS := HP2.out.push hown' hgrow; clear hown' hgrow hcn HP2 t0 t1 t2 t3 t4 t5 t6 t7 t8 t9 t10 t11 t12 t13 y0 y1 y2 y3 y4 y5 y6 y7 y8 y9 y10 y11 y12 y13 h0 h1 h2 h3 h4 h5 h6 h7 h8 h9 h10 h11 h12 h13 G0 G1 G2 G3 G4 G5))
        go_roundw
        case rel => exact ⟨k + 1, by omega, by go_num, hL2.out, fin.out _ _ hS⟩
        case measure => simp [intOf]; omega
      · have hno := st2.out k x y hlt hxy hla
        have sy := fun v => step_no r (steps r (K.start r) (ls.take k)) x y 2 (by unfold wstep; rw [if_pos h, if_pos hp, if_neg hla]) (by decide) v
        have fin : Hid (∀ w', Below w.heap.size w w' → PAns r ls n w (.returned (.tuple #[.slice none 0 0, .agg #[.int .i64 0, .int .i64 0, .int .i64 0, .int .i64 0, .int .i64 0, .int .i64 0, .int .i64 0, .int .i64 0, .int .i64 0, .int .i64 0, .int .i64 0, .int .i64 0, .int .i64 0, .int .i64 0], .int .i64 2])) w') := fun w' q => ⟨.inr ⟨hno, rfl⟩, q⟩
        clear st1 st2 st3 hc hv hL hxy hno hla
        generalize steps r (K.start r) (ls.take k) = S at P sy hp
        generalize rounds r (K.start r) (ls.take k) = R at P hRl
        clear hp h hw0
        obtain ⟨⟨k0, n0, b0, a0, c0, q0⟩, ⟨k1, n1, b1, a1, c1, q1⟩, w0, w1⟩ := S
        simp only at P sy
        replace P := P.alloc (.cells #[.int .i64 x, .int .i64 y] 31)
        obtain ⟨⟨r0, r1, r2, r3, r4, _, _, _, _, _⟩, _, ⟨y0, y1, y2, y3, y4, y5, y6, y7, y8, y9, y10, y11, y12, y13, h0, h1, h2, h3, h4, h5, h6, h7, h8, h9, h10, h11, h12, h13⟩, _, _, _⟩ := id P
        go_wp2_with (go_at_call 37; refine (sy _).mono ?_; clear sy r0 r1 r2 r3 r4 y0 y1 y2 y3 y4 y5 y6 y7 y8 y9 y10 y11 y12 y13 h0 h1 h2 h3 h4 h5 h6 h7 h8 h9 h10 h11 h12 h13; rintro xx v1 ⟨rfl, b⟩; have z6 : w.heap.size + 1 < v1.heap.size := block_lt (P.kept b).hT.c0; replace P := P.kept b; obtain ⟨_, ⟨y0, y1, y2, y3, y4, y5, y6, y7, y8, y9, y10, y11, y12, y13, h0, h1, h2, h3, h4, h5, h6, h7, h8, h9, h10, h11, h12, h13⟩, _, _, _, _⟩ := id P; have z7 : w.heap.size < v1.heap.size := (by omega); have z8 : w.heap.size + 1 < v1.heap.size + 1 := (by omega); clear b)
        have O := ((P.hT.put 0 0 0 0 0 0 0 0 0 0 0 0 0 0).alloc (.cells #[.int .i64 0, .int .i64 0, .int .i64 0, .int .i64 0, .int .i64 0, .int .i64 0, .int .i64 0, .int .i64 0, .int .i64 0, .int .i64 0, .int .i64 0, .int .i64 0, .int .i64 0, .int .i64 0] 45)).alloc (.cells #[.int .i64 0, .int .i64 0, .int .i64 0, .int .i64 0, .int .i64 0, .int .i64 0] 86)
        obtain ⟨W6, hW6⟩ : ∃ W6, (((((((((((((((v1.setCell ⟨w.heap.size + 1, 0, none⟩ (.int .i64 0)).setCell ⟨w.heap.size + 1, 1, none⟩ (.int .i64 0)).setCell ⟨w.heap.size + 1, 2, none⟩ (.int .i64 0)).setCell ⟨w.heap.size + 1, 3, none⟩ (.int .i64 0)).setCell ⟨w.heap.size + 1, 4, none⟩ (.int .i64 0)).setCell ⟨w.heap.size + 1, 5, none⟩ (.int .i64 0)).setCell ⟨w.heap.size + 1, 6, none⟩ (.int .i64 0)).setCell ⟨w.heap.size + 1, 7, none⟩ (.int .i64 0)).setCell ⟨w.heap.size + 1, 8, none⟩ (.int .i64 0)).setCell ⟨w.heap.size + 1, 9, none⟩ (.int .i64 0)).setCell ⟨w.heap.size + 1, 10, none⟩ (.int .i64 0)).setCell ⟨w.heap.size + 1, 11, none⟩ (.int .i64 0)).setCell ⟨w.heap.size + 1, 12, none⟩ (.int .i64 0)).setCell ⟨w.heap.size + 1, 13, none⟩ (.int .i64 0)).alloc (.cells #[.int .i64 0, .int .i64 0, .int .i64 0, .int .i64 0, .int .i64 0, .int .i64 0, .int .i64 0, .int .i64 0, .int .i64 0, .int .i64 0, .int .i64 0, .int .i64 0, .int .i64 0, .int .i64 0] 45)).alloc (.cells #[.int .i64 0, .int .i64 0, .int .i64 0, .int .i64 0, .int .i64 0, .int .i64 0] 86) = W6 := ⟨_, rfl⟩
        have B6 : Below w.heap.size w W6 := by
          rw [← hW6]
          refine balloc (balloc ?_ _) _
          repeat (with_reducible refine Below.setCell ?_ (by simp) _)
          exact P.below
        rw [hW6] at O ⊢
        exact bodyPost_ret (v := .tuple #[.slice none 0 0, .agg #[.int .i64 0, .int .i64 0, .int .i64 0, .int .i64 0, .int .i64 0, .int .i64 0, .int .i64 0, .int .i64 0, .int .i64 0, .int .i64 0, .int .i64 0, .int .i64 0, .int .i64 0, .int .i64 0], .int .i64 2]) (by simp [results, Tryz.results15, go_sem, O.c0, O.c1, O.c2, O.c3, O.c4, O.c5, O.c6, O.c7, O.c8, O.c9, O.c10, O.c11, O.c12, O.c13]) rfl (fin.out _ B6)
    · obtain rfl : k = n := by omega
      have hfull : ls.take k = ls := List.take_of_length_le (by omega)
      rw [hfull] at hL P hRl
      obtain ⟨ao, cp, et, hcp, hrr, hab⟩ := owned6 rfl P.own
      rw [hRl] at et hcp
      subst et
      have fin : Hid (∀ w', RRow w' ao (rounds r (K.start r) ls) → Below w.heap.size w w' → PAns r ls k w (.returned (.tuple #[.slice ao k cp, .agg #[.int .i64 (steps r (K.start r) ls).f0.k, .int .i64 (steps r (K.start r) ls).f0.n, .int .i64 (steps r (K.start r) ls).f0.b, .int .i64 (steps r (K.start r) ls).f0.a, .int .i64 (steps r (K.start r) ls).f0.s, .int .i64 (steps r (K.start r) ls).f0.q, .int .i64 (steps r (K.start r) ls).f1.k, .int .i64 (steps r (K.start r) ls).f1.n, .int .i64 (steps r (K.start r) ls).f1.b, .int .i64 (steps r (K.start r) ls).f1.a, .int .i64 (steps r (K.start r) ls).f1.s, .int .i64 (steps r (K.start r) ls).f1.q, .int .i64 (steps r (K.start r) ls).w0, .int .i64 (steps r (K.start r) ls).w1], .int .i64 0])) w') := fun w' q1 q2 => ⟨.inl ⟨hL, ao, cp, rfl, hcp, q1, fun q hq => by have := hab q hq; have := P.lo; omega⟩, q2⟩
      clear hab hL hfull st1 st2 st3 hv hp hw0 h
      generalize steps r (K.start r) ls = S at P fin
      generalize rounds r (K.start r) ls = R at P fin hrr
      obtain ⟨⟨k0, n0, b0, a0, c0, q0⟩, ⟨k1, n1, b1, a1, c1, q1⟩, w0, w1⟩ := S
      simp only at P fin
      have O := told1 P.hT P.below k0 n0 b0 a0 c0 q0 k1 n1 b1 a1 c1 q1 w0 w1
      obtain ⟨_, ⟨y0, y1, y2, y3, y4, y5, y6, y7, y8, y9, y10, y11, y12, y13, h0, h1, h2, h3, h4, h5, h6, h7, h8, h9, h10, h11, h12, h13⟩, ⟨t0, t1, t2, t3, t4, t5, t6, t7, t8, t9, t10, t11, t12, t13, _, _, _, _, _, _, _, _, _, _, _, _, _, _⟩, hown, hlo, hB⟩ := P
      have ev1 : ¬ w.heap.size + 1 = v.heap.size := by omega
      have ev2 : ¬ v.heap.size = w.heap.size + 1 := by omega
      have hrb : ∀ w', (∀ b o, b ≠ w.heap.size + 1 → w'.cell? ⟨b, o, none⟩ = wr.cell? ⟨b, o, none⟩) → RRow w' ao R := fun w' hw => by
        rcases hrr with e | ⟨b, o, e, q⟩
        · exact .inl e
        · refine .inr ⟨b, o, e, fun j hj => ?_⟩
          obtain ⟨hl', ⟨e1, _⟩ | ⟨g, cap, cur, e1, hg, _⟩⟩ := hown
          · rw [e] at e1; cases e1
          · rw [e] at e1
            injection e1 with e1 _ _
            injection e1 with e1
            injection e1 with e1 _ _
            have hne : b ≠ w.heap.size + 1 := by omega
            obtain ⟨f0, f1, f2, f3, f4, f5⟩ := q j hj
            exact ⟨(hw _ _ hne).trans f0, (hw _ _ hne).trans f1, (hw _ _ hne).trans f2, (hw _ _ hne).trans f3, (hw _ _ hne).trans f4, (hw _ _ hne).trans f5⟩
      replace hrb : Hid _ := hrb
      clear hown hrr hlo bl
      go_wp2
      go_region
      go_wp2
      obtain ⟨W6, hW6⟩ : ∃ W6, ((((((((((((((wr.setCell ⟨w.heap.size + 1, 0, none⟩ (.int .i64 k0)).setCell ⟨w.heap.size + 1, 1, none⟩ (.int .i64 n0)).setCell ⟨w.heap.size + 1, 2, none⟩ (.int .i64 b0)).setCell ⟨w.heap.size + 1, 3, none⟩ (.int .i64 a0)).setCell ⟨w.heap.size + 1, 4, none⟩ (.int .i64 c0)).setCell ⟨w.heap.size + 1, 5, none⟩ (.int .i64 q0)).setCell ⟨w.heap.size + 1, 6, none⟩ (.int .i64 k1)).setCell ⟨w.heap.size + 1, 7, none⟩ (.int .i64 n1)).setCell ⟨w.heap.size + 1, 8, none⟩ (.int .i64 b1)).setCell ⟨w.heap.size + 1, 9, none⟩ (.int .i64 a1)).setCell ⟨w.heap.size + 1, 10, none⟩ (.int .i64 c1)).setCell ⟨w.heap.size + 1, 11, none⟩ (.int .i64 q1)).setCell ⟨w.heap.size + 1, 12, none⟩ (.int .i64 w0)).setCell ⟨w.heap.size + 1, 13, none⟩ (.int .i64 w1)).drew = W6 := ⟨_, rfl⟩
      rw [hW6] at O ⊢
      obtain ⟨P, b6, hw6⟩ := O
      exact bodyPost_ret (v := .tuple #[.slice ao k cp, .agg #[.int .i64 k0, .int .i64 n0, .int .i64 b0, .int .i64 a0, .int .i64 c0, .int .i64 q0, .int .i64 k1, .int .i64 n1, .int .i64 b1, .int .i64 a1, .int .i64 c1, .int .i64 q1, .int .i64 w0, .int .i64 w1], .int .i64 0]) (by simp [results, Tryz.results15, go_sem, P.c0, P.c1, P.c2, P.c3, P.c4, P.c5, P.c6, P.c7, P.c8, P.c9, P.c10, P.c11, P.c12, P.c13]) rfl (fin.out _ (hrb.out _ hw6) b6)

end Go.Proofs.YtjageagnclmnjaaGreatDoor.D
