/- PROVED: what slope.below and mean.leastSlope answer. CONDITIONS: none beyond each theorem's own. -/
import Derived.Test.YtdbpgcaodgkcjaaHv
import Derived.Test.YtdbpgcaodgkcjaaFr
namespace Go.Proofs.Ytdbpgcaodgkcjaa
open Go.RowKit
set_option linter.unusedVariables false

instance (a b : Int × Int) : Decidable (sbl a b) := inferInstanceAs (Decidable (_ < _))
/-- a slope that is small -/
def sok (a b : Int) : Prop := (-629145600 ≤ a ∧ a ≤ 629145600) ∧ 1 ≤ b ∧ b ≤ 300
theorem sok_mul {a b c d : Int} (h : sok a b) (h' : sok c d) : -188743680000 ≤ a * d ∧ a * d ≤ 188743680000 := by
  obtain ⟨⟨h1, h2⟩, h3, h4⟩ := h
  obtain ⟨_, h5, h6⟩ := h'
  have a1 := mul_le_pos h1 (show (0 : Int) ≤ d by omega)
  have a2 := mul_le_pos h2 (show (0 : Int) ≤ d by omega)
  omega
theorem Fr.new58 (w : World) (C : Nat) (hC : C = w.heap.size) (a b : Int) : Fr (w.alloc (.cells #[.int .i64 a, .int .i64 b] 58)) C a b := by
  subst hC
  constructor
  all_goals first
    | (rw [World.cell?_alloc_at _ _ _ _ rfl]; rfl)
    | (rw [World.frozen?_alloc_at _ _ _ _ rfl])

set_option maxHeartbeats 800000 in
theorem below_any (a b c d : Int) (h : sok a b) (h' : sok c d) (w : World) :
    Calls Try.prog 30 #[.agg #[.int .i64 a, .int .i64 b], .agg #[.int .i64 c, .int .i64 d]] w fun e w' => e = .returned (.bool (decide (sbl (a, b) (c, d)))) ∧ Below w.heap.size w w' := by
  have m1 := sok_mul h h'
  have m2 := sok_mul h' h
  have X := (Fr.new58 w _ rfl a b).alloc (.cells #[.int .i64 c, .int .i64 d] 58)
  have Y := Fr.new58 (w.alloc (.cells #[.int .i64 a, .int .i64 b] 58)) (w.heap.size + 1) (by simp) c d
  have B : Below w.heap.size w ((w.alloc (.cells #[.int .i64 a, .int .i64 b] 58)).alloc (.cells #[.int .i64 c, .int .i64 d] 58)) := balloc (balloc (Below.refl _ _) _) _
  have e : decide (sbl (a, b) (c, d)) = decide (a * d < c * b) := rfl
  rw [e]
  have w1 : wrap64 (a * d) = a * d := IntWalk.wrap64_in _ (by omega)
  have w2 : wrap64 (c * b) = c * b := IntWalk.wrap64_in _ (by omega)
  obtain ⟨W, hW⟩ : ∃ W, (w.alloc (.cells #[.int .i64 a, .int .i64 b] 58)).alloc (.cells #[.int .i64 c, .int .i64 d] 58) = W := ⟨_, rfl⟩
  rw [hW] at X Y B
  obtain ⟨x0, x1, _, _⟩ := X
  obtain ⟨y0, y1, _, _⟩ := Y
  clear e h h'
  go_enter Try.func30, Try.ntmps30
  go_wp2
  go_ret
  exact ⟨rfl, B⟩

theorem Fr.farS {w : World} {C : Nat} {a b : Int} (h : Fr w C a b) {O : Nat} (hO : ¬ O = C) (k : Nat) (x : Value) : Fr (w.setCell ⟨O, k, none⟩ x) C a b :=
  ⟨(World.cell?_setCell_other _ _ _ _ (fun q => hO (by injection q))).trans h.c0, (World.cell?_setCell_other _ _ _ _ (fun q => hO (by injection q))).trans h.c1, (World.frozen?_setCell _ _ _ _).trans h.f0, (World.frozen?_setCell _ _ _ _).trans h.f1⟩
theorem put2S {B P : Nat} {w v : World} (b : Below B w v) (h : B ≤ P) (x y : Value) : Below B w ((v.setCell ⟨P, 0, none⟩ x).setCell ⟨P, 1, none⟩ y) := Below.setCell (Below.setCell b h _) h _

set_option maxHeartbeats 3200000 in
theorem leastSlope_any (n : Nat) (es : List Eg) (hG : Gph n es) (g c : Nat) (O : Nat → Nat) (N1 : Nat) (hN1 : N1 = n + 1) (v : Nat) (hv : v < n) (x : Int × Nat) (hx : tb es n v = some x) (w : World) (hT : Tbl w g c n O es) :
    Calls Try.prog 29 #[.slice (some ⟨g, 0, none⟩) N1 c, .int .i64 v] w fun e w' => ∃ s : Int × Int, e = .returned (.agg #[.int .i64 s.1, .int .i64 s.2]) ∧ Lsl es n v n s ∧ Below w.heap.size w w' := by
  have n3 := hG.n3
  have xr := tb_range hG.wgt hx
  have i2 : (N1 : Int) - 1 = (n : Int) := by omega
  have i3 : (n : Int) < (N1 : Int) := by omega
  have i4 : (0 : Int) < (N1 : Int) := by omega
  have i5 : (v : Int) < (n : Int) := by omega
  have i6 : n ≤ c := by have := hT.cap; omega
  have hgh : Hid (Gph n es) := hG
  have T0 := hT.alloc (.cells #[.int .i64 0, .int .i64 0] 58)
  have tn := T0.top n (Nat.le_refl _)
  have t0 := T0.top 0 (Nat.zero_le _)
  have rn := ((T0.row n (Nat.le_refl _)).c v hv).1
  have r0 := ((T0.row 0 (Nat.zero_le _)).c v hv).1
  simp only [hx, wv] at rn
  simp only [tb, wv] at r0
  have wx : wrap64 x.1 = x.1 := IntWalk.wrap64_in _ (by omega)
  have st : Lsl es n v 0 (x.1 - 0, (n : Int)) := Lsl.start hx (by omega)
  rw [Int.sub_zero] at st
  have FR := (Fr.new58 w _ rfl 0 0).alloc (.cells #[.int .i64 x.1, .int .i64 (n : Int)] 58)
  have FL := Fr.new58 (w.alloc (.cells #[.int .i64 0, .int .i64 0] 58)) (w.heap.size + 1) (by simp) x.1 n
  have B1 : Below w.heap.size w ((w.alloc (.cells #[.int .i64 0, .int .i64 0] 58)).alloc (.cells #[.int .i64 x.1, .int .i64 (n : Int)] 58)) := balloc (balloc (Below.refl _ _) _) _
  obtain ⟨W1, hW1⟩ : ∃ W1, (w.alloc (.cells #[.int .i64 0, .int .i64 0] 58)).alloc (.cells #[.int .i64 x.1, .int .i64 (n : Int)] 58) = W1 := ⟨_, rfl⟩
  rw [hW1] at FR FL B1
  have hxx : Hid (tb es n v = some x) := hx
  replace hN1 : Hid _ := hN1
  clear hx hG
  go_enter Try.func29, Try.ntmps29
  go_wp2
  clear tn t0 rn r0 T0
  go_loopw [37] (fun i wr => ∃ k : Nat, k ≤ n ∧ i = .int .i64 k ∧ ∃ s : Int × Int, Lsl es n v k s ∧ Fr wr w.heap.size 0 0 ∧ Fr wr (w.heap.size + 1) s.1 s.2 ∧ Below w.heap.size w wr) (fun i _ => n - (intOf i).toNat)
  case atStart => exact ⟨0, Nat.zero_le _, rfl, _, st, FR, FL, B1⟩
  case round =>
    clear st B1 wx FR FL hW1
    obtain ⟨k, hk, rfl, ⟨s1, s2⟩, hS, FR, FL, B⟩ := hrel
    simp only at FL
    by_cases hlt : k < n
    · have hx := hxx.out
      obtain ⟨y, hy⟩ := tb_down (show k ≤ n by omega) hx
      have yr := tb_range hgh.out.wgt hy
      have T := hT.kept B
      have tk := T.top k hk
      have rk := ((T.row k hk).c v hv).1
      simp only [hy, wv] at rk
      have hkI : (k : Int) < (n : Int) := by omega
      obtain ⟨A, hA⟩ : ∃ A, x.1 - y.1 = A := ⟨_, rfl⟩
      obtain ⟨D, hD⟩ : ∃ D, (n : Int) - (k : Int) = D := ⟨_, rfl⟩
      have wA : wrap64 (x.1 - y.1) = A := by rw [← hA]; exact IntWalk.wrap64_in _ (by omega)
      have wD : wrap64 ((n : Int) - (k : Int)) = D := by rw [← hD]; exact IntWalk.wrap64_in _ (by omega)
      have so1 : sok A D := ⟨by omega, by omega⟩
      have so2 : sok s1 s2 := hS.range hgh.out.wgt n3
      have hbl := below_any A D s1 s2 so1 so2
      have yes : sbl (A, D) (s1, s2) → Lsl es n v (k + 1) (A, D) := fun h => by
        have := hS.take hlt hx hy (by rw [hA, hD]; exact h)
        rw [hA, hD] at this; exact this
      have no : ¬ sbl (A, D) (s1, s2) → Lsl es n v (k + 1) (s1, s2) := fun h => hS.keep hx hy (by rw [hA, hD]; exact h)
      have B2 := balloc B (.cells #[.int .i64 A, .int .i64 D] 58)
      have FR2 := FR.alloc (.cells #[.int .i64 A, .int .i64 D] 58)
      have FL2 := FL.alloc (.cells #[.int .i64 A, .int .i64 D] 58)
      have FS := Fr.new58 wr wr.heap.size rfl A D
      have hsz := B.size
      have hl1 : w.heap.size + 1 < wr.heap.size := block_lt FL.c0
      obtain ⟨W2, hW2⟩ : ∃ W2, wr.alloc (.cells #[.int .i64 A, .int .i64 D] 58) = W2 := ⟨_, rfl⟩
      obtain ⟨E, hEE⟩ : ∃ E, wr.heap.size = E := ⟨_, rfl⟩
      rw [hW2] at B2 FR2 FL2 FS
      rw [hEE] at FS hl1
      obtain ⟨s0, s01, _, _⟩ := id FS
      obtain ⟨l0, l01, _, _⟩ := id FL2
      clear FR FL hS hx hy yr T so1 so2 B
      replace hA : Hid _ := hA
      by_cases hb : sbl (A, D) (s1, s2)
      · have hY := yes hb
        have dd : decide (sbl (A, D) (s1, s2)) = true := decide_eq_true hb
        rw [dd] at hbl
        clear yes no dd hb
        go_wp2_with (go_at_call 30; refine (hbl _).mono ?_; rintro e W3 ⟨rfl, bb⟩; clear hbl; replace B2 := bthen B2 bb; replace FR2 := FR2.kept bb; replace FL2 := FL2.kept bb; replace FS := FS.kept bb; clear s0 s01 l0 l01; obtain ⟨s0, s01, _, _⟩ := id FS; obtain ⟨l0, l01, lf0, lf1⟩ := id FL2; have FR3 := (FR2.farS (show ¬ w.heap.size + 1 = w.heap.size by omega) 0 (.int .i64 A)).farS (show ¬ w.heap.size + 1 = w.heap.size by omega) 1 (.int .i64 D); have FL3 := FL2.put A D; have B3 := put2S (P := w.heap.size + 1) B2 (by omega) (.int .i64 A) (.int .i64 D))
        go_roundw
        case rel => exact ⟨k + 1, by omega, by go_num, (A, D), hY, FR3, FL3, B3⟩
        case measure => simp [intOf]; omega
      · have hY := no hb
        have dd : decide (sbl (A, D) (s1, s2)) = false := decide_eq_false hb
        rw [dd] at hbl
        clear yes no dd hb
        go_wp2_with (go_at_call 30; refine (hbl _).mono ?_; rintro e W3 ⟨rfl, bb⟩; clear hbl; replace B2 := bthen B2 bb; replace FR2 := FR2.kept bb; replace FL2 := FL2.kept bb)
        go_roundw
        case rel => exact ⟨k + 1, by omega, by go_num, (s1, s2), hY, FR2, FL2, B2⟩
        case measure => simp [intOf]; omega
    · obtain rfl : k = n := by omega
      obtain ⟨l0, l01, _, _⟩ := id FL
      obtain ⟨r0, r01, rf0, rf1⟩ := id FR
      obtain ⟨z0, z1, _, _⟩ := FR.put s1 s2
      go_wp2
      refine bodyPost_ret (v := .agg #[.int .i64 s1, .int .i64 s2]) (by simp [results, Try.results29, go_sem, z0, z1]) rfl ⟨(s1, s2), rfl, hS, put2S (P := w.heap.size) B (Nat.le_refl _) _ _⟩

end Go.Proofs.Ytdbpgcaodgkcjaa
