/- PROVED: what the document's own TJudge answers. CONDITIONS: none beyond each theorem's own. -/
import Derived.Test.YtjageagnclmnjaaGreatDoorB33QRepeat
import Derived.Test.YtjageagnclmnjaaGreatDoorT48Sgw
import Derived.Test.YtjageagnclmnjaaGreatDoorB37Lin
namespace Go.Proofs.YtjageagnclmnjaaGreatDoor.D
set_option maxRecDepth 100000
open Go.RowKit K
set_option linter.unusedVariables false

/-- what lies in a block, cell by cell -/
structure Cls (w : World) (C : Nat) (vs : List Value) : Prop where
  c : ∀ i v, vs[i]? = some v → w.cell? ⟨C, i, none⟩ = some v
theorem Cls.new (w : World) (vs : Array Value) (t : Nat) : Cls (w.alloc (.cells vs t)) w.heap.size vs.toList := ⟨fun i v h => by
  rw [World.cell?_alloc_at _ _ _ _ rfl]; simpa using h⟩
theorem so_full (r : Ru) (h : wrong r = 0) (hF : Fl r) (w : World) : Calls Tryz.prog 43 #[.agg #[.int .i64 r.k0, .int .i64 r.k1, .int .i64 r.r, .int .i64 r.m, .int .i64 r.j]] w fun e w' => e = .returned (.tuple #[.agg #[.slice none 0 0, .slice none 0 0, .slice none 0 0, .slice none 0 0, .slice none 0 0], .int .i64 4]) ∧ Below w.heap.size w w' := (sof_any r h w).mono fun e w' hh => by
  obtain ⟨⟨T, v, hT, _⟩ | ⟨_, rfl⟩, b⟩ := hh
  · exact (dn_fl hT hF).elim
  · exact ⟨rfl, b⟩
theorem bad_or {who ratio : Int} (h : ¬ Rg who ratio) : who < 0 ∨ 1 < who ∨ ((0 ≤ who ∧ who ≤ 1) ∧ ratio < 1) ∨ ((0 ≤ who ∧ who ≤ 1) ∧ 100 < ratio) := by unfold Rg at h; omega

theorem tj_range {r : Ru} {who ratio : Int} (h : ¬ Rg who ratio) (w : World) :
    Calls Tryz.prog 21 #[.agg #[.int .i64 r.k0, .int .i64 r.k1, .int .i64 r.r, .int .i64 r.m, .int .i64 r.j], .int .i64 who, .int .i64 ratio] w fun e w' => e = .returned (.tuple #[.int .i64 0, .int .i64 0, .int .i64 2]) ∧ Below w.heap.size w w' := by
  have B : Below w.heap.size w (w.alloc (.cells #[.int .i64 r.k0, .int .i64 r.k1, .int .i64 r.r, .int .i64 r.m, .int .i64 r.j] 33)) := balloc (Below.refl _ _) _
  rcases bad_or h with h1 | h1 | ⟨⟨h1, h2⟩, h3⟩ | ⟨⟨h1, h2⟩, h3⟩
  · have d1 : decide (who < 0) = true := decide_eq_true h1
    clear h h1
    go_enter Tryz.func21, Tryz.ntmps21
    go_wp2
    exact bodyPost_ret (v := .tuple #[.int .i64 0, .int .i64 0, .int .i64 2]) (by simp [results, Tryz.results21, go_sem]) rfl ⟨rfl, B⟩
  · have d1 : decide (who < 0) = false := decide_eq_false (by omega)
    have d2 : decide (1 < who) = true := decide_eq_true h1
    clear h h1
    go_enter Tryz.func21, Tryz.ntmps21
    go_wp2
    exact bodyPost_ret (v := .tuple #[.int .i64 0, .int .i64 0, .int .i64 2]) (by simp [results, Tryz.results21, go_sem]) rfl ⟨rfl, B⟩
  · have d1 : decide (who < 0) = false := decide_eq_false (by omega)
    have d2 : decide (1 < who) = false := decide_eq_false (by omega)
    have d3 : decide (ratio < 1) = true := decide_eq_true h3
    clear h h1 h2 h3
    go_enter Tryz.func21, Tryz.ntmps21
    go_wp2
    exact bodyPost_ret (v := .tuple #[.int .i64 0, .int .i64 0, .int .i64 2]) (by simp [results, Tryz.results21, go_sem]) rfl ⟨rfl, B⟩
  · have d1 : decide (who < 0) = false := decide_eq_false (by omega)
    have d2 : decide (1 < who) = false := decide_eq_false (by omega)
    have d3 : decide (ratio < 1) = false := decide_eq_false (by omega)
    have d4 : decide (100 < ratio) = true := decide_eq_true h3
    clear h h1 h2 h3
    go_enter Tryz.func21, Tryz.ntmps21
    go_wp2
    exact bodyPost_ret (v := .tuple #[.int .i64 0, .int .i64 0, .int .i64 2]) (by simp [results, Tryz.results21, go_sem]) rfl ⟨rfl, B⟩

theorem tj_err_go {r : Ru} {who ratio : Int} (hg : Rg who ratio) (E : Int) (hE : (E != 0) = true) (w : World)
    (so : ∀ v, Calls Tryz.prog 43 #[.agg #[.int .i64 r.k0, .int .i64 r.k1, .int .i64 r.r, .int .i64 r.m, .int .i64 r.j]] v fun e w' => e = .returned (.tuple #[.agg #[.slice none 0 0, .slice none 0 0, .slice none 0 0, .slice none 0 0, .slice none 0 0], .int .i64 E]) ∧ Below v.heap.size v w') :
    Calls Tryz.prog 21 #[.agg #[.int .i64 r.k0, .int .i64 r.k1, .int .i64 r.r, .int .i64 r.m, .int .i64 r.j], .int .i64 who, .int .i64 ratio] w fun e w' => e = .returned (.tuple #[.int .i64 0, .int .i64 0, .int .i64 E]) ∧ Below w.heap.size w w' := by
  have B : Below w.heap.size w (w.alloc (.cells #[.int .i64 r.k0, .int .i64 r.k1, .int .i64 r.r, .int .i64 r.m, .int .i64 r.j] 33)) := balloc (Below.refl _ _) _
  have X := Rul.new w _ rfl r.k0 r.k1 r.r r.m r.j
  obtain ⟨x0, x1, x2, x3, x4, -, -, -, -, -⟩ := X
  obtain ⟨⟨h1, h2⟩, h3, h4⟩ := hg
  have d1 : decide (who < 0) = false := decide_eq_false (by omega)
  have d2 : decide (1 < who) = false := decide_eq_false (by omega)
  have d3 : decide (ratio < 1) = false := decide_eq_false (by omega)
  have d4 : decide (100 < ratio) = false := decide_eq_false (by omega)
  clear h1 h2 h3 h4
  go_enter Tryz.func21, Tryz.ntmps21
  go_wp2_with (go_at_call 43; refine (so _).mono ?_; clear so x0 x1 x2 x3 x4; rintro e w1 ⟨rfl, b⟩; replace B := balloc (bthen B b) (.cells #[.slice none 0 0, .slice none 0 0, .slice none 0 0, .slice none 0 0, .slice none 0 0] 102))
  exact bodyPost_ret (v := .tuple #[.int .i64 0, .int .i64 0, .int .i64 E]) (by simp [results, Tryz.results21, go_sem]) rfl ⟨rfl, B⟩

set_option maxHeartbeats 1600000 in
theorem tj_stv_go {r : Ru} {who ratio : Int} (hg : Rg who ratio) (n m : Nat) (es : List Q.Eg) (w : World)
    (so : ∀ v, Calls Tryz.prog 43 #[.agg #[.int .i64 r.k0, .int .i64 r.k1, .int .i64 r.r, .int .i64 r.m, .int .i64 r.j]] v fun e w' => ∃ g0 c0 g1 c1 g2 c2 g3 c3 g4 c4, e = .returned (.tuple #[.agg #[.slice (some ⟨g0, 0, none⟩) n c0, .slice (some ⟨g1, 0, none⟩) m c1, .slice (some ⟨g2, 0, none⟩) m c2, .slice (some ⟨g3, 0, none⟩) m c3, .slice (some ⟨g4, 0, none⟩) m c4], .int .i64 0]) ∧ Below v.heap.size v w' ∧
      Hid (∀ v', Below w'.heap.size w' v' → Calls Tryz.prog 45 #[.agg #[.slice (some ⟨g0, 0, none⟩) n c0, .slice (some ⟨g1, 0, none⟩) m c1, .slice (some ⟨g2, 0, none⟩) m c2, .slice (some ⟨g3, 0, none⟩) m c3, .slice (some ⟨g4, 0, none⟩) m c4], .int .i64 who, .int .i64 ratio] v' fun e w'' => ∃ h cp, e = .returned (.agg #[.int .i64 (n : Int), .slice (some ⟨h, 0, none⟩) m cp]) ∧ Q.GRow w'' (some ⟨h, 0, none⟩) es ∧ Below v'.heap.size v' w''))
    (qm : Hid (∀ v h cp, Q.GRow v (some ⟨h, 0, none⟩) es → Calls Tryz.prog 44 #[.agg #[.int .i64 (n : Int), .slice (some ⟨h, 0, none⟩) m cp]] v fun e w' => e = .returned (.tuple #[.slice none 0 0, .bool false]) ∧ Below v.heap.size v w')) :
    Calls Tryz.prog 21 #[.agg #[.int .i64 r.k0, .int .i64 r.k1, .int .i64 r.r, .int .i64 r.m, .int .i64 r.j], .int .i64 who, .int .i64 ratio] w fun e w' => e = .returned (.tuple #[.int .i64 2, .int .i64 0, .int .i64 0]) ∧ Below w.heap.size w w' := by
  have B : Below w.heap.size w (w.alloc (.cells #[.int .i64 r.k0, .int .i64 r.k1, .int .i64 r.r, .int .i64 r.m, .int .i64 r.j] 33)) := balloc (Below.refl _ _) _
  have X := Rul.new w _ rfl r.k0 r.k1 r.r r.m r.j
  obtain ⟨x0, x1, x2, x3, x4, -, -, -, -, -⟩ := X
  obtain ⟨⟨h1, h2⟩, h3, h4⟩ := hg
  have d1 : decide (who < 0) = false := decide_eq_false (by omega)
  have d2 : decide (1 < who) = false := decide_eq_false (by omega)
  have d3 : decide (ratio < 1) = false := decide_eq_false (by omega)
  have d4 : decide (100 < ratio) = false := decide_eq_false (by omega)
  clear h1 h2 h3 h4
  go_enter Tryz.func21, Tryz.ntmps21
  go_wp2_with (first
    | (go_at_call 43; refine (so _).mono ?_; clear so x0 x1 x2 x3 x4; rintro e w1 ⟨g0, c0, g1, c1, g2, c2, g3, c3, g4, c4, rfl, b, sg⟩; replace B := balloc (bthen B b) (.cells #[.slice (some ⟨g0, 0, none⟩) n c0, .slice (some ⟨g1, 0, none⟩) m c1, .slice (some ⟨g2, 0, none⟩) m c2, .slice (some ⟨g3, 0, none⟩) m c3, .slice (some ⟨g4, 0, none⟩) m c4] 102); have P := Cls.new w1 #[.slice (some ⟨g0, 0, none⟩) n c0, .slice (some ⟨g1, 0, none⟩) m c1, .slice (some ⟨g2, 0, none⟩) m c2, .slice (some ⟨g3, 0, none⟩) m c3, .slice (some ⟨g4, 0, none⟩) m c4] 67; have p0 := P.c 0 _ rfl; have p1 := P.c 1 _ rfl; have p2 := P.c 2 _ rfl; have p3 := P.c 3 _ rfl; have p4 := P.c 4 _ rfl)
    | (go_at_call 45; refine (sg.out _ (balloc (Below.refl _ _) _)).mono ?_; clear sg p0 p1 p2 p3 p4 P; rintro e w2 ⟨h, cp, rfl, hE, b2⟩; replace B := bthen B b2)
    | (go_at_call 44; refine (qm.out _ _ _ hE).mono ?_; clear qm hE; rintro e w3 ⟨rfl, b3⟩; replace B := bthen B b3))
  exact bodyPost_ret (v := .tuple #[.int .i64 2, .int .i64 0, .int .i64 0]) (by simp [results, Tryz.results21, go_sem]) rfl ⟨rfl, B⟩

set_option maxHeartbeats 1600000 in
theorem tj_bnd_go {r : Ru} {who ratio : Int} (hg : Rg who ratio) (n m : Nat) (es : List Q.Eg) (d : Nat → Int) (hn : n ≤ 300) (w : World)
    (so : ∀ v, Calls Tryz.prog 43 #[.agg #[.int .i64 r.k0, .int .i64 r.k1, .int .i64 r.r, .int .i64 r.m, .int .i64 r.j]] v fun e w' => ∃ g0 c0 g1 c1 g2 c2 g3 c3 g4 c4, e = .returned (.tuple #[.agg #[.slice (some ⟨g0, 0, none⟩) n c0, .slice (some ⟨g1, 0, none⟩) m c1, .slice (some ⟨g2, 0, none⟩) m c2, .slice (some ⟨g3, 0, none⟩) m c3, .slice (some ⟨g4, 0, none⟩) m c4], .int .i64 0]) ∧ Below v.heap.size v w' ∧
      Hid (∀ v', Below w'.heap.size w' v' → Calls Tryz.prog 45 #[.agg #[.slice (some ⟨g0, 0, none⟩) n c0, .slice (some ⟨g1, 0, none⟩) m c1, .slice (some ⟨g2, 0, none⟩) m c2, .slice (some ⟨g3, 0, none⟩) m c3, .slice (some ⟨g4, 0, none⟩) m c4], .int .i64 who, .int .i64 ratio] v' fun e w'' => ∃ h cp, e = .returned (.agg #[.int .i64 (n : Int), .slice (some ⟨h, 0, none⟩) m cp]) ∧ Q.GRow w'' (some ⟨h, 0, none⟩) es ∧ Below v'.heap.size v' w''))
    (qm : Hid (∀ v h cp, Q.GRow v (some ⟨h, 0, none⟩) es → Calls Tryz.prog 44 #[.agg #[.int .i64 (n : Int), .slice (some ⟨h, 0, none⟩) m cp]] v fun e w' => ∃ M c, e = .returned (.tuple #[.slice (some ⟨M, 0, none⟩) n c, .bool true]) ∧ Q.Cells w' M n d ∧ Below v.heap.size v w')) :
    Calls Tryz.prog 21 #[.agg #[.int .i64 r.k0, .int .i64 r.k1, .int .i64 r.r, .int .i64 r.m, .int .i64 r.j], .int .i64 who, .int .i64 ratio] w fun e w' => e = .returned (.tuple #[.int .i64 1, .int .i64 (mx d n), .int .i64 0]) ∧ Below w.heap.size w w' := by
  have B : Below w.heap.size w (w.alloc (.cells #[.int .i64 r.k0, .int .i64 r.k1, .int .i64 r.r, .int .i64 r.m, .int .i64 r.j] 33)) := balloc (Below.refl _ _) _
  have X := Rul.new w _ rfl r.k0 r.k1 r.r r.m r.j
  obtain ⟨x0, x1, x2, x3, x4, -, -, -, -, -⟩ := X
  obtain ⟨⟨h1, h2⟩, h3, h4⟩ := hg
  have d1 : decide (who < 0) = false := decide_eq_false (by omega)
  have d2 : decide (1 < who) = false := decide_eq_false (by omega)
  have d3 : decide (ratio < 1) = false := decide_eq_false (by omega)
  have d4 : decide (100 < ratio) = false := decide_eq_false (by omega)
  clear h1 h2 h3 h4
  go_enter Tryz.func21, Tryz.ntmps21
  go_wp2_with (first
    | (go_at_call 43; refine (so _).mono ?_; clear so x0 x1 x2 x3 x4; rintro e w1 ⟨g0, c0, g1, c1, g2, c2, g3, c3, g4, c4, rfl, b, sg⟩; replace B := balloc (bthen B b) (.cells #[.slice (some ⟨g0, 0, none⟩) n c0, .slice (some ⟨g1, 0, none⟩) m c1, .slice (some ⟨g2, 0, none⟩) m c2, .slice (some ⟨g3, 0, none⟩) m c3, .slice (some ⟨g4, 0, none⟩) m c4] 102); have P := Cls.new w1 #[.slice (some ⟨g0, 0, none⟩) n c0, .slice (some ⟨g1, 0, none⟩) m c1, .slice (some ⟨g2, 0, none⟩) m c2, .slice (some ⟨g3, 0, none⟩) m c3, .slice (some ⟨g4, 0, none⟩) m c4] 67; have p0 := P.c 0 _ rfl; have p1 := P.c 1 _ rfl; have p2 := P.c 2 _ rfl; have p3 := P.c 3 _ rfl; have p4 := P.c 4 _ rfl)
    | (go_at_call 45; refine (sg.out _ (balloc (Below.refl _ _) _)).mono ?_; clear sg p0 p1 p2 p3 p4 P; rintro e w2 ⟨h, cp, rfl, hE, b2⟩; replace B := bthen B b2)
    | (go_at_call 44; refine (qm.out _ _ _ hE).mono ?_; clear qm hE; rintro e w3 ⟨M, c, rfl, hM, b3⟩; replace B := bthen B b3))
  go_loopw [13, 50] (fun mv i wr => ∃ k : Nat, k ≤ n ∧ i = .int .i64 k ∧ mv = .int .i64 (mx d k) ∧ wr = w3) (fun _ i _ => n - (intOf i).toNat)
  case atStart => exact ⟨0, Nat.zero_le _, rfl, rfl, rfl⟩
  case round =>
    obtain ⟨k, hk, rfl, rfl, rfl⟩ := hrel
    by_cases hlt : k < n
    · have hI : (k : Int) < (n : Int) := by omega
      have ck := hM.c k hlt
      have hm : Hid (mx d (k + 1) = max (mx d k) (d k)) := rfl
      generalize d k = x at *
      generalize mx d k = y at *
      go_wp2
      go_roundw
      case rel => exact ⟨k + 1, by omega, by go_num, by rw [hm.out]; exact ⟨rfl, trivial⟩⟩
      case measure => simp [intOf]; omega
    · obtain rfl : k = n := by omega
      have hI : decide ((k : Int) < (k : Int)) = false := decide_eq_false (by omega)
      go_wp2
      exact bodyPost_ret (v := .tuple #[.int .i64 1, .int .i64 (mx d k), .int .i64 0]) (by simp [results, Tryz.results21, go_sem]) rfl ⟨rfl, B⟩

theorem grow_of' {r : Ru} {T : Nat} {who ratio : Int} {w : World} {h : Nat} (hE : ∀ u, u < T → EAt w h (u * 3) ((u / ee r : Nat) : Int) (((xp r T).2.getD u 0 : Nat) : Int) (wgt who ratio (K.round r ((xp r T).1.getD (u / ee r) (K.start r))))) : Q.GRow w (some ⟨h, 0, none⟩) (esG r T who ratio) := .inr ⟨h, 0, rfl, fun j hj => by
  rw [List.length_map, esG_len] at hj
  rw [Q.ed_up (by rw [esG_len]; exact hj), esG_eg hj, Nat.zero_add]
  obtain ⟨a, b, c⟩ := hE j hj
  exact ⟨a, b, c⟩⟩
theorem so_row {r : Ru} {who ratio : Int} {T : Nat} (hg : Rg who ratio) (ok : wrong r = 0) (hT : Dn r T) (n : Nat) (hn : (xp r T).1.length = n) (v : World) :
    Calls Tryz.prog 43 #[.agg #[.int .i64 r.k0, .int .i64 r.k1, .int .i64 r.r, .int .i64 r.m, .int .i64 r.j]] v fun e w' => ∃ g0 c0 g1 c1 g2 c2 g3 c3 g4 c4, e = .returned (.tuple #[.agg #[.slice (some ⟨g0, 0, none⟩) n c0, .slice (some ⟨g1, 0, none⟩) T c1, .slice (some ⟨g2, 0, none⟩) T c2, .slice (some ⟨g3, 0, none⟩) T c3, .slice (some ⟨g4, 0, none⟩) T c4], .int .i64 0]) ∧ Below v.heap.size v w' ∧
      Hid (∀ v', Below w'.heap.size w' v' → Calls Tryz.prog 45 #[.agg #[.slice (some ⟨g0, 0, none⟩) n c0, .slice (some ⟨g1, 0, none⟩) T c1, .slice (some ⟨g2, 0, none⟩) T c2, .slice (some ⟨g3, 0, none⟩) T c3, .slice (some ⟨g4, 0, none⟩) T c4], .int .i64 who, .int .i64 ratio] v' fun e w'' => ∃ h cp, e = .returned (.agg #[.int .i64 (n : Int), .slice (some ⟨h, 0, none⟩) T cp]) ∧ Q.GRow w'' (some ⟨h, 0, none⟩) (esG r T who ratio) ∧ Below v'.heap.size v' w'') := by
  refine (so_some r T ok hT v).mono ?_
  rintro e w' ⟨g0, c0, g1, c1, g2, c2, g3, c3, g4, c4, rfl, hS, b⟩
  refine ⟨g0, c0, g1, c1, g2, c2, g3, c3, g4, c4, by rw [hn], b, fun v' hb => ?_⟩
  rcases (show who = 0 ∨ who = 1 by have := hg.1; omega) with rfl | rfl
  · refine (sgraph0 r T n g0 c0 g1 c1 g2 c2 g3 c3 g4 c4 ratio ok hT hn hg.2 v' (hS.kept hb)).mono ?_
    rintro e w2 ⟨h, cp, rfl, _, hE, b2⟩
    exact ⟨h, cp, rfl, grow_of' hE, b2⟩
  · refine (sgraph1 r T n g0 c0 g1 c1 g2 c2 g3 c3 g4 c4 ratio ok hT hn hg.2 v' (hS.kept hb)).mono ?_
    rintro e w2 ⟨h, cp, rfl, _, hE, b2⟩
    exact ⟨h, cp, rfl, grow_of' hE, b2⟩

theorem tj_err {r : Ru} {who ratio E : Int} (h : Je r who ratio E) (w : World) :
    Calls Tryz.prog 21 #[.agg #[.int .i64 r.k0, .int .i64 r.k1, .int .i64 r.r, .int .i64 r.m, .int .i64 r.j], .int .i64 who, .int .i64 ratio] w fun e w' => e = .returned (.tuple #[.int .i64 0, .int .i64 0, .int .i64 E]) ∧ Below w.heap.size w w' := by
  rcases h with ⟨hn, rfl⟩ | ⟨hg, ⟨hw, he⟩ | ⟨hw, hF, rfl⟩⟩
  · exact tj_range hn w
  · exact tj_err_go hg E he w fun v => sof_wrong r E hw he v
  · exact tj_err_go hg 4 (by decide) w fun v => so_full r hw hF v
theorem tj_bnd {r : Ru} {who ratio : Int} {T : Nat} {d : Nat → Int} (h : Jb r who ratio T d) (w : World) :
    Calls Tryz.prog 21 #[.agg #[.int .i64 r.k0, .int .i64 r.k1, .int .i64 r.r, .int .i64 r.m, .int .i64 r.j], .int .i64 who, .int .i64 ratio] w fun e w' => e = .returned (.tuple #[.int .i64 1, .int .i64 (mx d (xp r T).1.length), .int .i64 0]) ∧ Below w.heap.size w w' := by
  have hG := gph (who := who) h.ok h.dn h.rg.2
  refine tj_bnd_go h.rg (xp r T).1.length T (esG r T who ratio) d h.dn.2.2 w (so_row h.rg h.ok h.dn _ rfl) (fun v g cp hE => ?_)
  refine (Q.qmost_yes _ _ hG (some ⟨g, 0, none⟩) cp T (esG_len r T who ratio) h.mst.noPos v hE).mono ?_
  rintro e w' ⟨M, c, d', rfl, hc, hm, b⟩
  exact ⟨M, c, rfl, hc.ext fun j _ => h.mst.same hm j, b⟩
theorem tj_stv {r : Ru} {who ratio : Int} {T : Nat} (h : Js r who ratio T) (w : World) :
    Calls Tryz.prog 21 #[.agg #[.int .i64 r.k0, .int .i64 r.k1, .int .i64 r.r, .int .i64 r.m, .int .i64 r.j], .int .i64 who, .int .i64 ratio] w fun e w' => e = .returned (.tuple #[.int .i64 2, .int .i64 0, .int .i64 0]) ∧ Below w.heap.size w w' := by
  have hG := gph (who := who) h.ok h.dn h.rg.2
  exact tj_stv_go h.rg (xp r T).1.length T (esG r T who ratio) w (so_row h.rg h.ok h.dn _ rfl) fun v g cp hE => Q.qmost_no _ _ hG (some ⟨g, 0, none⟩) cp T (esG_len r T who ratio) h.pos v hE

end Go.Proofs.YtjageagnclmnjaaGreatDoor.D
