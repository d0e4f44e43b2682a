/- PROVED: the walk of the law TopGives. CONDITIONS: none beyond each theorem's own. -/
import Derived.Test.YtjageagnclmnjabGreatDoorG42GMem
import Derived.Test.YtjageagnclmnjabGreatDoorG45GNext
import Derived.Test.YtjageagnclmnjabGreatDoorG48JFar
namespace Go.Proofs.YtjageagnclmnjabGreatDoor.G
set_option maxRecDepth 100000
open Go.RowKit
set_option linter.unusedVariables false

theorem jrow_kept {w w' : World} {a : Option Addr} {z : List Int} (h : J.Row w a z) (b : Below w.heap.size w w') : J.Row w' a z := D.bRow_kept h b
/-- contracts with lengths as letters -/
def AnsR (w : World) (n : Nat) (R : List Int) (e : Ending) (w' : World) : Prop := ∃ ao cap, e = .returned (.slice ao n cap) ∧ J.Row w' ao R ∧ Below w.heap.size w w'
theorem pass_r (a1 a2 : Option Addr) (c1 c2 n m : Nat) (f g R : List Int) (r : Nat) (w : World) (k1 : J.Row w a1 f) (k2 : J.Row w a2 g) (e1 : f.length = n) (e2 : g.length = m) (h : n ≤ 17592186044416) (h2 : m ≤ 17592186044416) (hR : J.pass f g = R) (hl : R.length = r) :
    Calls Tryz.prog 17 #[.slice a1 n c1, .slice a2 m c2] w (AnsR w r R) := by
  subst e1; subst e2; subst hR; subst hl
  exact (J.pass_any a1 a2 c1 c2 f g w k1 k2 h h2).mono fun e w' ⟨ao, cap, he, _, r, b⟩ => ⟨ao, cap, he, r, b⟩
theorem delays_r (a1 a2 : Option Addr) (c1 c2 n m : Nat) (f g R : List Int) (r : Nat) (w : World) (k1 : J.Row w a1 f) (k2 : J.Row w a2 g) (e1 : f.length = n) (e2 : g.length = m) (h : n ≤ 17592186044416) (h2 : m ≤ 17592186044416) (hR : J.dl f g = R) (hl : R.length = r) :
    Calls Tryz.prog 22 #[.slice a1 n c1, .slice a2 m c2] w (AnsR w r R) := by
  subst e1; subst e2; subst hR; subst hl
  exact (J.delays_any a1 a2 c1 c2 f g w k1 k2 h h2).mono fun e w' ⟨ao, cap, he, _, r, b⟩ => ⟨ao, cap, he, r, b⟩
theorem right_r (a1 a2 : Option Addr) (c1 c2 n m : Nat) (f g : List Int) (w : World) (k1 : J.Row w a1 f) (k2 : J.Row w a2 g) (e1 : f.length = n) (e2 : g.length = m) (h : n ≤ 17592186044416) (h2 : m ≤ 17592186044416) (b : Bool) (hb : decide (J.jright f g) = b) :
    Calls Tryz.prog 18 #[.slice a1 n c1, .slice a2 m c2] w fun e w' => e = .returned (.bool b) ∧ Below w.heap.size w w' := by
  subst e1; subst e2; subst hb
  exact (J.right_any a1 a2 c1 c2 f g w k1 k2 h h2).mono fun _ _ ⟨he, q, hw⟩ => ⟨he, hw ▸ below_drewN (Below.refl _ _) q⟩
theorem pass_le (f g : List Int) : (J.pass f g).length ≤ f.length := by
  by_cases h : J.jright f g
  · rw [J.pass_len h]; exact Nat.le_refl _
  · rw [J.pass_no h]; simp
theorem new_one (w : World) : Calls Tryz.prog 25 #[.int .i64 1] w fun e w' => e = .returned (.agg #[.int .i64 3, .int .i64 1, .int .i64 (-1), .int .i64 0, .int .i64 0, .int .i64 0]) ∧ Below w.heap.size w w' := by
  have := new_any 1 w
  rwa [show clip 1 = 1 by decide] at this
set_option maxHeartbeats 6400000 in
theorem gives_bad (a1 a2 : Option Addr) (c1 c2 n m np nd : Nat) (t l P X : List Int) (off : Int) (w : World) (L : D.Lw w) (h1 : J.Row w a1 t) (h2 : J.Row w a2 l) (e1 : Hid (t.length = n)) (e2 : Hid (l.length = m)) (b1 : n ≤ 17592186044416) (b2 : m ≤ 17592186044416)
    (eP : Hid (J.pass t l = P)) (lP : Hid (P.length = np)) (bP : np ≤ 17592186044416) (eX : Hid (J.dl t P = X)) (lX : Hid (X.length = nd)) (b : Bool) (hb : Hid (decide (J.jright t l) = b))
    (hbad : b = false ∨ b = true ∧ decide (off < 0) = true ∨ b = true ∧ decide (off < 0) = false ∧ decide (1073741824 < off) = true) :
    Calls Tryz.prog 6 #[.slice a1 n c1, .slice a2 m c2, .int .i64 off] w fun e w' => e = .returned (.bool true) ∧ Below w.heap.size w w' := by
  rcases hbad with rfl | ⟨rfl, t1⟩ | ⟨rfl, t1, t2⟩
  all_goals
    go_enter Tryz.func6, Tryz.ntmps6
    go_wp2_with (first
      | (go_at_call 7; refine (D.alive_top _ L).mono ?_; clear L; rintro e v0 ⟨rfl, B⟩; replace h1 := jrow_kept h1 B; replace h2 := jrow_kept h2 B)
      | (go_at_call 17; refine (pass_r a1 a2 _ _ n m t l P np _ h1 h2 e1.out e2.out b1 b2 eP.out lP.out).mono ?_; rintro e v1 ⟨ao, cp, rfl, h4, b9⟩; replace h1 := jrow_kept h1 b9; replace h2 := jrow_kept h2 b9; replace B := bthen B b9; clear b9)
      | (go_at_call 22; refine (delays_r a1 _ _ _ n np t P X nd _ h1 h4 e1.out lP.out b1 bP eX.out lX.out).mono ?_; rintro e v2 ⟨ao2, cp2, rfl, h3, b9⟩; replace h1 := jrow_kept h1 b9; replace h2 := jrow_kept h2 b9; replace B := bthen B b9; clear b9 h4)
      | (go_at_call 18; refine (right_r a1 a2 _ _ n m t l _ h1 h2 e1.out e2.out b1 b2 _ hb.out).mono ?_; rintro e v3 ⟨rfl, b9⟩; replace h3 := jrow_kept h3 b9; replace B := bthen B b9; clear b9 h1 h2))
    go_ret
    exact ⟨rfl, B⟩
theorem low {C : Nat} {u v x : World} (h : Below C u v) (b : Below v.heap.size v x) (hl : C < v.heap.size) : Below C u x :=
  ⟨b.os.trans h.os, b.tape.trans h.tape, b.output.trans h.output, Nat.le_trans h.size b.size, fun k hk => (b.block k (by omega)).trans (h.block k hk)⟩
theorem row_low {u v x : World} {a : Option Addr} {z : List Int} (h : J.Row u a z) (hv : J.Row v a z) (b : Below u.heap.size v x) : J.Row x a z := by
  rcases h with h | ⟨g, o, rfl, h⟩
  · exact .inl h
  · rcases hv with hv | ⟨g', o', e, hv⟩
    · exact .inl hv
    · injection e with e
      injection e with e1 e2
      subst e1; subst e2
      exact .inr ⟨_, _, rfl, fun j hj => (b.cell (p := ⟨g, o + j, none⟩) (J.block_lt (h j hj))).trans (hv j hj)⟩
set_option maxHeartbeats 12800000 in
theorem gives_ok (a1 a2 : Option Addr) (c1 c2 n m np N : Nat) (t l P X : List Int) (off : Int) (w : World) (L : D.Lw w) (h1 : J.Row w a1 t) (h2 : J.Row w a2 l) (e1 : Hid (t.length = n)) (e2 : Hid (l.length = m)) (b1 : n ≤ 17592186044416) (b2 : m ≤ 17592186044416)
    (eP : Hid (J.pass t l = P)) (lP : Hid (P.length = np)) (bP : np ≤ 17592186044416) (eX : Hid (J.dl t P = X)) (lX : Hid (X.length = N)) (bN : N ≤ 17592186044416) (hb : Hid (decide (J.jright t l) = true)) (hy0 : 0 ≤ off) (hy1 : off ≤ 1073741824) (hX : Hid (∀ k, k < N → 0 ≤ X.getD k 0)) :
    Calls Tryz.prog 6 #[.slice a1 n c1, .slice a2 m c2, .int .i64 off] w fun e w' => e = .returned (.bool true) ∧ Below w.heap.size w w' := by
  have t1 : decide (off < 0) = false := decide_eq_false (by omega)
  have t3 : decide (1073741824 < off) = false := decide_eq_false (by omega)
  have T1 := tok
  go_enter Tryz.func6, Tryz.ntmps6
  go_wp2_with (first
      | (go_at_call 7; refine (D.alive_top _ L).mono ?_; clear L; rintro e v0 ⟨rfl, B⟩; replace h1 := jrow_kept h1 B; replace h2 := jrow_kept h2 B)
      | (go_at_call 17; refine (pass_r a1 a2 _ _ n m t l P np _ h1 h2 e1.out e2.out b1 b2 eP.out lP.out).mono ?_; rintro e v1 ⟨ao, cp, rfl, h4, b9⟩; replace h1 := jrow_kept h1 b9; replace h2 := jrow_kept h2 b9; replace B := bthen B b9; clear b9)
      | (go_at_call 22; refine (delays_r a1 _ _ _ n np t P X N _ h1 h4 e1.out lP.out b1 bP eX.out lX.out).mono ?_; rintro e v2 ⟨ao2, cp2, rfl, h3, b9⟩; replace h1 := jrow_kept h1 b9; replace h2 := jrow_kept h2 b9; replace B := bthen B b9; clear b9 h4)
      | (go_at_call 18; refine (right_r a1 a2 _ _ n m t l _ h1 h2 e1.out e2.out b1 b2 _ hb.out).mono ?_; rintro e v3 ⟨rfl, b9⟩; replace h3 := jrow_kept h3 b9; replace B := bthen B b9; clear b9 h1 h2)
      | (clear T1; go_at_call 25; refine (new_one _).mono ?_; rintro e v5 ⟨rfl, b9⟩; replace h3 := jrow_kept h3 b9; replace B := bthen B b9; clear b9)
      | (go_at_call 25; refine (new_one _).mono ?_; rintro e v6 ⟨rfl, b9⟩; replace h3 := jrow_kept h3 b9; replace B := bthen B b9; clear b9))
  have hz : w.heap.size ≤ v6.heap.size := B.size
  have hst := balloc (balloc B (.cells #[.int .i64 3, .int .i64 1, .int .i64 (-1), .int .i64 0, .int .i64 0, .int .i64 0] 45)) (.cells #[.int .i64 3, .int .i64 1, .int .i64 (-1), .int .i64 0, .int .i64 0, .int .i64 0] 45)
  have hr := jrow_kept (jrow_kept h3 (balloc (Below.refl _ v6) (.cells #[.int .i64 3, .int .i64 1, .int .i64 (-1), .int .i64 0, .int .i64 0, .int .i64 0] 45))) (balloc (Below.refl _ _) (.cells #[.int .i64 3, .int .i64 1, .int .i64 (-1), .int .i64 0, .int .i64 0, .int .i64 0] 45))
  have X0 := (Ctl.new v6 _ rfl 3 1 (-1) 0 0 0).alloc (.cells #[.int .i64 3, .int .i64 1, .int .i64 (-1), .int .i64 0, .int .i64 0, .int .i64 0] 45)
  have Y0 := Ctl.new (v6.alloc (.cells #[.int .i64 3, .int .i64 1, .int .i64 (-1), .int .i64 0, .int .i64 0, .int .i64 0] 45)) (v6.heap.size + 1) (by simp) 3 1 (-1) 0 0 0
  have hCD : v6.heap.size < v6.heap.size + 1 := by omega
  have hlow : Hid (∀ v, Below v6.heap.size ((v6.alloc (.cells #[.int .i64 3, .int .i64 1, .int .i64 (-1), .int .i64 0, .int .i64 0, .int .i64 0] 45)).alloc (.cells #[.int .i64 3, .int .i64 1, .int .i64 (-1), .int .i64 0, .int .i64 0, .int .i64 0] 45)) v → J.Row v ao2 X) := fun v b => row_low h3 hr b
  generalize v6.heap.size + 1 = D at hCD Y0 ⊢
  generalize v6.heap.size = C at hz hCD X0 hlow ⊢
  generalize hW : (v6.alloc (.cells #[.int .i64 3, .int .i64 1, .int .i64 (-1), .int .i64 0, .int .i64 0, .int .i64 0] 45)).alloc (.cells #[.int .i64 3, .int .i64 1, .int .i64 (-1), .int .i64 0, .int .i64 0, .int .i64 0] 45) = v7 at hst hr X0 Y0 hlow ⊢
  clear hW B h3
  have hz2 : w.heap.size ≤ D := by omega
  go_loopw [37] (fun i wr => ∃ (k : Nat) (n b b2 q : Int), k ≤ N ∧ i = .int .i64 k ∧ (1 ≤ n ∧ n ≤ 12) ∧ ((0 ≤ q ∧ q ≤ 3) ∧ (n < 12 ∨ q = 0)) ∧ (b = -1 ∧ b2 = -1 ∨ 0 ≤ b ∧ b ≤ 1073741824 ∧ b2 = b + off) ∧ Ctl wr C 3 n b 0 0 q ∧ Ctl wr D 3 n b2 0 0 q ∧ Below w.heap.size w wr ∧ Below C v7 wr) (fun i _ => N - (intOf i).toNat)
  case atStart => exact ⟨0, 1, -1, -1, 0, Nat.zero_le _, rfl, by omega, by omega, .inl ⟨rfl, rfl⟩, X0, Y0, hst, Below.refl _ _⟩
  case round =>
    obtain ⟨k, n, b, b2, q, hk, rfl, hn, hq, hbb, X1, Y1, hB, hC⟩ := hrel
    clear X0 Y0 hst
    by_cases hlt : k < N
    · obtain ⟨g, o, rfl, e3⟩ : ∃ g o, ao2 = some ⟨g, o, none⟩ ∧ ∀ j, j < X.length → wr.cell? ⟨g, o + j, none⟩ = some (.int .i64 (X.getD j 0)) := by
        rcases hlow.out _ hC with h | h
        · have := lX.out; rw [h] at this; simp at this; omega
        · exact h
      have cx := e3 k (by have := lX.out; omega)
      have hx0 := hX.out k hlt
      have hkI : (k : Int) < N := by omega
      clear e3
      generalize X.getD k 0 = x at cx hx0
      by_cases hx1 : x ≤ 1073741824
      · have hkr : mright 3 n b 0 0 q := ⟨rfl, hn, by omega, rfl, rfl, hq.1, hq.2⟩
        have hkr2 : mright 3 n b2 0 0 q := ⟨rfl, hn, by omega, rfl, rfl, hq.1, hq.2⟩
        obtain ⟨V, B, Q, hN2, hN3, hV, hQ, hBi⟩ : ∃ V B Q, nextC 3 n b 0 0 q x = (3, V, B, Q, 0) ∧ nextC 3 n b2 0 0 q (x + off) = (3, V, B + off, Q, 0) ∧ (1 ≤ V ∧ V ≤ 12) ∧ ((0 ≤ Q ∧ Q ≤ 3) ∧ (V < 12 ∨ Q = 0)) ∧ (0 ≤ B ∧ B ≤ 1073741824) := by
          have hi1 : inr x := ⟨by omega, by omega⟩
          have hi2 : inr (x + off) := ⟨by omega, by omega⟩
          have e : nb b2 (x + off) = nb b x + off := by
            rcases hbb with ⟨rfl, rfl⟩ | ⟨h0, _, rfl⟩
            · rw [nb_none, nb_none]
            · exact nb_off h0 hy0
          have hi := nb_in (b := b) hi1
          refine ⟨_, _, _, by unfold nextC; rw [if_pos hkr, if_pos hi1], ?_, ct_right.1, ct_right.2, hi.1, by omega⟩
          unfold nextC; rw [if_pos hkr2, if_pos hi2, e, show x + off - (nb b x + off) = x - nb b x by omega]
        have nx := fun v => next_any 3 n b 0 0 q x 3 V B Q 0 hN2 v
        have ny := fun v => next_any 3 n b2 0 0 q (x + off) 3 V (B + off) Q 0 hN3 v
        clear hkr hkr2 hN2 hN3 hn hq hbb
        replace hQ : Hid _ := hQ
        have t2 : decide (1073741824 < x) = false := decide_eq_false (by omega)
        have T1 := tok
        have T2 := tok
        have hCl : C < wr.heap.size := block_lt X1.c0
        obtain ⟨c0, c1, c2, c3, c4, c5, f0, f1, f2, f3, f4, f5⟩ := X1
        obtain ⟨d0, d1, d2, d3, d4, d5, g0, g1, g2, g3, g4, g5⟩ := Y1
        go_wp2_with (first
          | (clear T1; go_at_call 26; with_reducible refine (nx _).mono ?_; rintro e v8 ⟨rfl, b5⟩; clear nx; have X2 := (Ctl.mk c0 c1 c2 c3 c4 c5 f0 f1 f2 f3 f4 f5).kept b5; have Y2 := (Ctl.mk d0 d1 d2 d3 d4 d5 g0 g1 g2 g3 g4 g5).kept b5; clear c0 c1 c2 c3 c4 c5 f0 f1 f2 f3 f4 f5; clear d0 d1 d2 d3 d4 d5 g0 g1 g2 g3 g4 g5; replace hB := bthen hB b5; replace hC := low hC b5 hCl; have hCl := Nat.lt_of_lt_of_le hCl b5.size; clear b5; obtain ⟨c0, c1, c2, c3, c4, c5, f0, f1, f2, f3, f4, f5⟩ := X2; obtain ⟨d0, d1, d2, d3, d4, d5, g0, g1, g2, g3, g4, g5⟩ := Y2)
          | (clear T2; go_at_call 26; with_reducible refine (ny _).mono ?_; rintro e v9 ⟨rfl, b6⟩; clear ny; have X2 := (Ctl.put (Ctl.mk c0 c1 c2 c3 c4 c5 f0 f1 f2 f3 f4 f5) 3 V B 0 0 Q).kept b6; have Y2 := ((((((((Ctl.mk d0 d1 d2 d3 d4 d5 g0 g1 g2 g3 g4 g5).far (by omega) _).far (by omega) _).far (by omega) _).far (by omega) _).far (by omega) _).far (by omega) _)).kept b6; clear c0 c1 c2 c3 c4 c5 f0 f1 f2 f3 f4 f5; clear d0 d1 d2 d3 d4 d5 g0 g1 g2 g3 g4 g5; replace hB := bthen ((((((hB.setCell (p := ⟨C, 0, none⟩) hz _).setCell (p := ⟨C, 1, none⟩) hz _).setCell (p := ⟨C, 2, none⟩) hz _).setCell (p := ⟨C, 3, none⟩) hz _).setCell (p := ⟨C, 4, none⟩) hz _).setCell (p := ⟨C, 5, none⟩) hz _) b6; replace hC := low ((((((hC.setCell (p := ⟨C, 0, none⟩) (Nat.le_refl C) _).setCell (p := ⟨C, 1, none⟩) (Nat.le_refl C) _).setCell (p := ⟨C, 2, none⟩) (Nat.le_refl C) _).setCell (p := ⟨C, 3, none⟩) (Nat.le_refl C) _).setCell (p := ⟨C, 4, none⟩) (Nat.le_refl C) _).setCell (p := ⟨C, 5, none⟩) (Nat.le_refl C) _) b6 (by simpa using hCl); clear b6; obtain ⟨c0, c1, c2, c3, c4, c5, f0, f1, f2, f3, f4, f5⟩ := X2; obtain ⟨d0, d1, d2, d3, d4, d5, g0, g1, g2, g3, g4, g5⟩ := Y2))
        go_roundw
        case rel => exact ⟨k + 1, V, B, B + off, Q, by omega, by go_num, hV, hQ.out, .inr ⟨hBi.1, hBi.2, rfl⟩, (((((((Ctl.mk c0 c1 c2 c3 c4 c5 f0 f1 f2 f3 f4 f5).far (by omega) _).far (by omega) _).far (by omega) _).far (by omega) _).far (by omega) _).far (by omega) _), Ctl.put (Ctl.mk d0 d1 d2 d3 d4 d5 g0 g1 g2 g3 g4 g5) 3 V (B + off) 0 0 Q, ((((((hB.setCell (p := ⟨D, 0, none⟩) hz2 _).setCell (p := ⟨D, 1, none⟩) hz2 _).setCell (p := ⟨D, 2, none⟩) hz2 _).setCell (p := ⟨D, 3, none⟩) hz2 _).setCell (p := ⟨D, 4, none⟩) hz2 _).setCell (p := ⟨D, 5, none⟩) hz2 _), ((((((hC.setCell (p := ⟨D, 0, none⟩) (Nat.le_of_lt hCD) _).setCell (p := ⟨D, 1, none⟩) (Nat.le_of_lt hCD) _).setCell (p := ⟨D, 2, none⟩) (Nat.le_of_lt hCD) _).setCell (p := ⟨D, 3, none⟩) (Nat.le_of_lt hCD) _).setCell (p := ⟨D, 4, none⟩) (Nat.le_of_lt hCD) _).setCell (p := ⟨D, 5, none⟩) (Nat.le_of_lt hCD) _)⟩
        case measure => simp [intOf]; omega
      · have t2 : decide (1073741824 < x) = true := decide_eq_true (by omega)
        clear hbb hq X1 Y1
        go_wp2
        go_ret
        exact ⟨rfl, hB⟩
    · go_wp2
      go_ret
      exact ⟨rfl, hB⟩
theorem topGives_go (a1 a2 : Option Addr) (c1 c2 : Nat) (t l : List Int) (off : Int) (w : World) (L : D.Lw w) (h1 : J.FarIn w a1 c1 t) (h2 : J.FarIn w a2 c2 l) :
    Calls Tryz.prog 6 #[.slice a1 t.length c1, .slice a2 l.length c2, .int .i64 off] w fun e w' => e = .returned (.bool true) ∧ Below w.heap.size w w' := by
  have b1 : t.length ≤ 17592186044416 := by have := h1.2.1; omega
  have b2 : l.length ≤ 17592186044416 := by have := h2.2.1; omega
  have bP : (J.pass t l).length ≤ 17592186044416 := by have := pass_le t l; omega
  by_cases h : J.jright t l
  · by_cases c0 : off < 0
    · exact gives_bad a1 a2 c1 c2 _ _ _ _ t l _ _ off w L h1.1 h2.1 rfl rfl b1 b2 rfl rfl bP rfl rfl true (decide_eq_true h) (.inr (.inl ⟨rfl, decide_eq_true c0⟩))
    by_cases c3 : 1073741824 < off
    · exact gives_bad a1 a2 c1 c2 _ _ _ _ t l _ _ off w L h1.1 h2.1 rfl rfl b1 b2 rfl rfl bP rfl rfl true (decide_eq_true h) (.inr (.inr ⟨rfl, decide_eq_false c0, decide_eq_true c3⟩))
    have hl : (J.dl t (J.pass t l)).length = t.length := by rw [J.dl_len, J.pass_len h, Nat.min_self]
    refine gives_ok a1 a2 c1 c2 _ _ _ _ t l _ _ off w L h1.1 h2.1 rfl rfl b1 b2 rfl rfl bP rfl rfl (by omega) (decide_eq_true h) (by omega) (by omega) (fun k hk => ?_)
    rw [hl] at hk
    rw [J.dl_pass h k hk]
    have := J.passed_lo t l k
    have q := h.2.2.2 k (by have := h.1; omega)
    unfold J.inr at q
    omega
  · exact gives_bad a1 a2 c1 c2 _ _ _ _ t l _ _ off w L h1.1 h2.1 rfl rfl b1 b2 rfl rfl bP rfl rfl false (decide_eq_false h) (.inl rfl)
end Go.Proofs.YtjageagnclmnjabGreatDoor.G
