/- PROVED: what the document's own RGreatest answers. CONDITIONS: none beyond each theorem's own. -/
import Derived.Test.YtdbpgcaodgkcjaaRAb
import Derived.Test.YtdbpgcaodgkcjaaLw
import Derived.Test.YtdbpgcaodgkcjaaQWr
namespace Go.Proofs.Ytdbpgcaodgkcjaa
open Go.RowKit
set_option linter.unusedVariables false

theorem mid_in {lo hi : Int} (h : 1 < hi - lo) : lo < (lo + hi).tdiv 2 ∧ (lo + hi).tdiv 2 < hi := by
  rcases Int.le_total 0 (lo + hi) with h0 | h0
  · rw [Int.tdiv_eq_ediv_of_nonneg h0]; omega
  · have e : (lo + hi).tdiv 2 = -((-(lo + hi)).tdiv 2) := by rw [Int.neg_tdiv, Int.neg_neg]
    rw [e, Int.tdiv_eq_ediv_of_nonneg (by omega)]; omega
/-- the cells of a fraction that may be written -/
theorem Fr.far {w : World} {C : Nat} {a b : Int} (h : Fr w C a b) {O : Nat} (hO : ¬ O = C) (k : Nat) (x : Value) : Fr (w.setCell ⟨O, k, none⟩ x) C a b :=
  ⟨(World.cell?_setCell_other _ _ _ _ (fun q => hO (by injection q))).trans h.c0, (World.cell?_setCell_other _ _ _ _ (fun q => hO (by injection q))).trans h.c1, (World.frozen?_setCell _ _ _ _).trans h.f0, (World.frozen?_setCell _ _ _ _).trans h.f1⟩
theorem prod_in {x y : Int} (h0 : -314573100 ≤ x) (h1 : x ≤ 314573100) (h2 : 1 ≤ y) (h3 : y ≤ 300) : -94371930000 ≤ x * y ∧ x * y ≤ 94371930000 := by
  have a1 := mul_le_pos h0 (show (0 : Int) ≤ y by omega)
  have a2 := mul_le_pos h1 (show (0 : Int) ≤ y by omega)
  omega
theorem put2 {B P : Nat} {w v : World} (b : Below B w v) (h : B ≤ P) (x y : Value) : Below B w ((v.setCell ⟨P, 0, none⟩ x).setCell ⟨P, 1, none⟩ y) := Below.setCell (Below.setCell b h _) h _

theorem rgreatest_wrong (N : Int) (a : Option Addr) (cap : Nat) (L : List Ed) (w : World) (hE : ERow w a L) (hl : L.length ≤ 9223372036854775807) (hg : ¬ grt N L) :
    Calls Try.prog 8 #[.agg #[.int .i64 N, .slice a L.length cap]] w fun e w' => e = .returned (.tuple #[.agg #[.int .i64 0, .int .i64 0], .int .i64 2]) ∧ Below w.heap.size w w' := by
  have B : Below w.heap.size w ((w.alloc (.cells #[.int .i64 N, .slice a L.length cap] 24)).alloc (.cells #[.int .i64 0, .int .i64 0] 26)) := balloc (balloc (Below.refl _ _) _) _
  have hw := qwrong_any N a cap L _ (hE.kept B) hl
  rw [gwr_no hg] at hw
  have R := Fr.new (w.alloc (.cells #[.int .i64 N, .slice a L.length cap] 24)) (w.heap.size + 1) (by simp) 0 0
  generalize L.length = m at *
  clear hE hg
  go_enter Try.func8, Try.ntmps8
  go_wp2_with (go_at_call 17; refine hw.mono ?_; rintro e w1 ⟨rfl, b1⟩; clear hw; replace R := R.kept b1; replace B := bthen B b1; obtain ⟨r0, r1, f0, f1⟩ := id R)
  obtain ⟨z0, z1, _, _⟩ := R.put 0 0
  refine bodyPost_ret (v := .tuple #[.agg #[.int .i64 0, .int .i64 0], .int .i64 2]) (by simp [results, Try.results8, go_sem, z0, z1]) rfl ⟨rfl, put2 B (by omega) _ _⟩

theorem rgreatest_none (n : Nat) (es : List Eg) (hG : Gph n es) (hc : ¬ ∃ l, Cyc es l) (a : Option Addr) (cap m : Nat) (hm : es.length = m) (w : World) (hE : GRow w a es) :
    Calls Try.prog 8 #[.agg #[.int .i64 n, .slice a m cap]] w fun e w' => e = .returned (.tuple #[.agg #[.int .i64 0, .int .i64 0], .int .i64 3]) ∧ Below w.heap.size w w' := by
  have m4 := hG.m4
  have B : Below w.heap.size w ((w.alloc (.cells #[.int .i64 n, .slice a m cap] 24)).alloc (.cells #[.int .i64 0, .int .i64 0] 26)) := balloc (balloc (Below.refl _ _) _) _
  have hw := qwrong_any n a cap (es.map upE) _ (ERow.kept hE B) (by rw [List.length_map]; omega)
  rw [gwr_yes (gph_grt hG), List.length_map, hm] at hw
  have ha : Hid (∀ v, GRow v a es → Calls Try.prog 18 #[.agg #[.int .i64 n, .slice a m cap], .int .i64 (-1048577), .int .i64 1] v fun e w' => e = .returned (.bool false) ∧ Below v.heap.size v w') := fun v h =>
    (rabove_any n es hG a cap m hm (-1048577) 1 (by omega) (by omega) (by omega) v h).mono fun e w' ⟨t, h1, h2, h3⟩ => ⟨by rw [h1, show t = false by cases t; (rfl); (exact absurd ((abv_least hG.wgt).1 (h2.1 rfl)) hc)], h3⟩
  have R := Fr.new (w.alloc (.cells #[.int .i64 n, .slice a m cap] 24)) (w.heap.size + 1) (by simp) 0 0
  have K := (Gb.new w n a m cap).alloc (.cells #[.int .i64 0, .int .i64 0] 26)
  have E := hE.kept B
  clear hE hG hc hm
  obtain ⟨g0, g1⟩ := id K
  go_enter Try.func8, Try.ntmps8
  go_wp2_with (first
    | (go_at_call 17; refine hw.mono ?_; rintro e w1 ⟨rfl, b1⟩; clear hw; replace R := R.kept b1; replace B := bthen B b1; replace E := E.kept b1; replace K := K.kept b1; clear g0 g1; obtain ⟨g0, g1⟩ := id K)
    | (go_at_call 18; refine (ha.out _ E).mono ?_; rintro e w2 ⟨rfl, b1⟩; clear ha; replace R := R.kept b1; replace B := bthen B b1; obtain ⟨r0, r1, f0, f1⟩ := id R))
  obtain ⟨z0, z1, _, _⟩ := R.put 0 0
  refine bodyPost_ret (v := .tuple #[.agg #[.int .i64 0, .int .i64 0], .int .i64 3]) (by simp [results, Try.results8, go_sem, z0, z1]) rfl ⟨rfl, put2 B (by omega) _ _⟩

set_option maxHeartbeats 6400000 in
theorem rgreatest_some (n : Nat) (es : List Eg) (hG : Gph n es) (p : Int) (q : Nat) (q1 : 1 ≤ q) (qn : q ≤ n) (hp : -1048576 * (q : Int) ≤ p ∧ p ≤ 1048576 * (q : Int)) (hL : Lam es p q) (a : Option Addr) (cap m : Nat) (hm : es.length = m) (w : World) (hE : GRow w a es) :
    Calls Try.prog 8 #[.agg #[.int .i64 n, .slice a m cap]] w fun e w' => ∃ P Q : Int, e = .returned (.tuple #[.agg #[.int .i64 P, .int .i64 Q], .int .i64 0]) ∧ Low P Q ∧ P * (q : Int) = p * Q ∧ Below w.heap.size w w' := by
  have m4 := hG.m4
  have n3 := hG.n3
  have B : Below w.heap.size w ((w.alloc (.cells #[.int .i64 n, .slice a m cap] 24)).alloc (.cells #[.int .i64 0, .int .i64 0] 26)) := balloc (balloc (Below.refl _ _) _) _
  have hw := qwrong_any n a cap (es.map upE) _ (ERow.kept hE B) (by rw [List.length_map]; omega)
  rw [gwr_yes (gph_grt hG), List.length_map, hm] at hw
  have hcyc : ∃ l, Cyc es l := by obtain ⟨l, h, _⟩ := hL.got; exact ⟨l, h⟩
  have ha0 : Hid (∀ v, GRow v a es → Calls Try.prog 18 #[.agg #[.int .i64 n, .slice a m cap], .int .i64 (-1048577), .int .i64 1] v fun e w' => e = .returned (.bool true) ∧ Below v.heap.size v w') := fun v h =>
    (rabove_any n es hG a cap m hm (-1048577) 1 (by omega) (by omega) (by omega) v h).mono fun e w' ⟨t, h1, h2, h3⟩ => ⟨by rw [h1, h2.2 ((abv_least hG.wgt).2 hcyc)], h3⟩
  have hab : Hid (∀ (A b : Int) (t : Bool), 1 ≤ b → b ≤ 300 → -314573100 ≤ A ∧ A ≤ 314572800 → (t = true ↔ A * (q : Int) < b * p) → ∀ v, GRow v a es → Calls Try.prog 18 #[.agg #[.int .i64 n, .slice a m cap], .int .i64 A, .int .i64 b] v fun e w' => e = .returned (.bool t) ∧ Below v.heap.size v w') := fun A b t h1 h2 h3 h4 v h =>
    (rabove_any n es hG a cap m hm A b h1 h2 h3 v h).mono fun e w' ⟨t', h5, h6, h7⟩ => ⟨by
      rw [h5]
      have : t' = t := by rw [Bool.eq_iff_iff, h6, h4]; exact abv_iff hL (by omega)
      rw [this], h7⟩
  have R := Fr.new (w.alloc (.cells #[.int .i64 n, .slice a m cap] 24)) (w.heap.size + 1) (by simp) 0 0
  have K := (Gb.new w n a m cap).alloc (.cells #[.int .i64 0, .int .i64 0] 26)
  have E := hE.kept B
  have hpq : Hid ((1 ≤ q ∧ q ≤ n) ∧ -1048576 * (q : Int) ≤ p ∧ p ≤ 1048576 * (q : Int)) := ⟨⟨q1, qn⟩, hp⟩
  clear hE hG hcyc hm hL hp q1 qn
  obtain ⟨g0, g1⟩ := id K
  have T1 := True.intro
  go_enter Try.func8, Try.ntmps8
  go_wp2_with (first
    | (go_at_call 17; refine hw.mono ?_; rintro e w1 ⟨rfl, b1⟩; clear hw; replace R := R.kept b1; replace B := bthen B b1; replace E := E.kept b1; replace K := K.kept b1; clear g0 g1; obtain ⟨g0, g1⟩ := id K)
    | (go_at_call 18; clear T1; refine (ha0.out _ E).mono ?_; rintro e v2 ⟨rfl, b1⟩; clear ha0; replace R := R.kept b1; replace B := bthen B b1; replace E := E.kept b1; replace K := K.kept b1; clear g0 g1))
  have hF0 := Fr.new v2 v2.heap.size rfl 0 0
  have hB0 : Below v2.heap.size v2 (v2.alloc (.cells #[.int .i64 0, .int .i64 0] 26)) := balloc (Below.refl _ _) _
  go_loopw [6] (fun bb wr => ∃ (k : Nat) (N D : Int), k ≤ n ∧ bb = .int .i64 ((k : Int) + 1) ∧ Lst p q k N D ∧ (-314573100 ≤ N ∧ N ≤ 314572800) ∧ Fr wr v2.heap.size N D ∧ Below v2.heap.size v2 wr) (fun b _ => n + 1 - (intOf b).toNat)
  case atStart => exact ⟨0, 0, 0, Nat.zero_le _, rfl, Lst.start p q hpq.out.1.1, by omega, hF0, hB0⟩
  case round =>
    obtain ⟨k, N, D, hk, rfl, hS, hNr, hF, hBl⟩ := hrel
    clear hF0 hB0
    obtain ⟨c0, c1⟩ := K.kept hBl
    by_cases hlt : k < n
    · obtain ⟨bI, hbI⟩ : ∃ bI : Int, (k : Int) + 1 = bI := ⟨_, rfl⟩
      have db : decide (bI ≤ (n : Int)) = true := decide_eq_true (by omega)
      have b0 : 1 ≤ bI := by omega
      have b1 : bI ≤ 300 := by omega
      obtain ⟨l0, hl0⟩ : ∃ l0, -1048577 * bI = l0 := ⟨_, rfl⟩
      obtain ⟨h0, hh0⟩ : ∃ h0, 1048576 * bI = h0 := ⟨_, rfl⟩
      have wl : wrap64 (-1048577 * bI) = l0 := by rw [← hl0]; exact IntWalk.wrap64_in _ (by omega)
      have wh : wrap64 (1048576 * bI) = h0 := by rw [← hh0]; exact IntWalk.wrap64_in _ (by omega)
      have lr : -314573100 ≤ l0 := by omega
      have hr : h0 ≤ 314572800 := by omega
      have lh : l0 < h0 := by omega
      have hlow : Hid (l0 * (q : Int) < bI * p) := (by
        have h := hpq.out
        rw [← hl0, Int.mul_comm (-1048577) bI, Int.mul_assoc, Int.mul_comm bI (-1048577 * (q : Int)), Int.mul_comm bI p]
        exact mul_lt_pos (by omega) (by omega) : l0 * (q : Int) < bI * p)
      have hhig : Hid (bI * p ≤ h0 * (q : Int)) := (by
        have h := hpq.out
        rw [← hh0, Int.mul_comm 1048576 bI, Int.mul_assoc, Int.mul_comm bI (1048576 * (q : Int)), Int.mul_comm bI p]
        exact mul_le_pos h.2.2 (by omega) : bI * p ≤ h0 * (q : Int))
      rw [hbI]
      have hbk : Hid ((k : Int) + 1 = bI) := hbI
      clear hbI
      replace hl0 : Hid _ := hl0
      replace hh0 : Hid _ := hh0
      go_wp2
      clear c0 c1 db wl wh
      go_loopw [7, 8] (fun x y ws => ∃ lo hi : Int, x = .int .i64 lo ∧ y = .int .i64 hi ∧ l0 ≤ lo ∧ lo < hi ∧ hi ≤ h0 ∧ lo * (q : Int) < bI * p ∧ bI * p ≤ hi * (q : Int) ∧ Fr ws v2.heap.size N D ∧ Below v2.heap.size v2 ws) (fun x y _ => (intOf y - intOf x).toNat)
      case atStart => exact ⟨l0, h0, by rw [hl0.out], by rw [hh0.out], by omega, lh, by omega, hlow.out, hhig.out, hF, hBl⟩
      case round =>
        obtain ⟨lo, hi, rfl, rfl, r1, r2, r3, r4, r5, hF2, hB2⟩ := hrel
        clear hF hBl hlow hhig
        have wd : wrap64 (hi - lo) = hi - lo := IntWalk.wrap64_in _ (by omega)
        by_cases hgap : 1 < hi - lo
        · obtain ⟨mid, hmid⟩ : ∃ mid, (lo + hi).tdiv 2 = mid := ⟨_, rfl⟩
          have hmi := mid_in hgap
          rw [hmid] at hmi
          have dg : decide (1 < hi - lo) = true := decide_eq_true hgap
          have E2 := E.kept hB2
          obtain ⟨c0, c1⟩ := K.kept hB2
          by_cases hc : mid * (q : Int) < bI * p
          · have cc := hab.out mid bI true b0 b1 (by omega) ⟨fun _ => hc, fun _ => rfl⟩ wr E2
            replace hc : Hid _ := hc
            replace r4 : Hid _ := r4
            replace r5 : Hid _ := r5
            go_wp2_with (go_at_call 18; refine cc.mono ?_; rintro e v3 ⟨rfl, bb⟩; clear cc)
            go_roundw
            case rel => exact ⟨mid, hi, rfl, rfl, by omega, by omega, by omega, hc.out, r5.out, hF2.kept bb, hB2.trans (bb.mono hB2.size)⟩
            case measure => simp [intOf]; omega
          · have cc := hab.out mid bI false b0 b1 (by omega) ⟨fun h => by simp at h, fun h => absurd h hc⟩ wr E2
            have hc2 : Hid (bI * p ≤ mid * (q : Int)) := (by omega : bI * p ≤ mid * (q : Int))
            replace r4 : Hid _ := r4
            replace r5 : Hid _ := r5
            clear hc
            go_wp2_with (go_at_call 18; refine cc.mono ?_; rintro e v3 ⟨rfl, bb⟩; clear cc)
            go_roundw
            case rel => exact ⟨lo, mid, rfl, rfl, by omega, by omega, by omega, r4.out, hc2.out, hF2.kept bb, hB2.trans (bb.mono hB2.size)⟩
            case measure => simp [intOf]; omega
        · have dg : decide (1 < hi - lo) = false := decide_eq_false hgap
          have e1 : (hi - 1) * (q : Int) < ((k : Int) + 1) * p := by rw [hbk.out, show hi - 1 = lo by omega]; exact r4
          have e2 : ((k : Int) + 1) * p ≤ hi * (q : Int) := by rw [hbk.out]; exact r5
          have hq1 := hpq.out.1.1
          obtain ⟨c0, c1, f0, f1⟩ := id hF2
          by_cases hD : D = 0
          · have hT : Hid (Lst p q (k + 1) hi bI) := (by rw [← hbk.out]; exact hS.take hq1 e1 e2 (.inl hD) : Lst p q (k + 1) hi bI)
            have dD : (D == 0) = true := beq_iff_eq.2 hD
            have hP := hF2.put hi bI
            have hBp := put2 hB2 (Nat.le_refl _) (.int .i64 hi) (.int .i64 bI)
            clear hS e1 e2 r4 r5 hF2 hD
            go_wp2
            go_roundw
            case rel => exact ⟨k + 1, hi, bI, by omega, by have := hbk.out; congr 1; omega, hT.out, by omega, hP, hBp⟩
            case measure => have := hbk.out; simp [intOf]; omega
          · have dD : (D == 0) = false := beq_eq_false_iff_ne.2 hD
            have hDr : 1 ≤ D ∧ D ≤ k := hS.pos (Nat.pos_of_ne_zero fun e => hD (hS.none e))
            obtain ⟨X1, hX1⟩ : ∃ X1, hi * D = X1 := ⟨_, rfl⟩
            obtain ⟨X2, hX2⟩ : ∃ X2, N * bI = X2 := ⟨_, rfl⟩
            have p1 := prod_in (x := hi) (y := D) (by omega) (by omega) (by omega) (by omega)
            have p2 := prod_in (x := N) (y := bI) (by omega) (by omega) (by omega) (by omega)
            rw [hX1] at p1
            rw [hX2] at p2
            have w1 : wrap64 (hi * D) = X1 := by rw [hX1]; exact IntWalk.wrap64_in _ (by omega)
            have w2 : wrap64 (N * bI) = X2 := by rw [hX2]; exact IntWalk.wrap64_in _ (by omega)
            by_cases hc : X1 < X2
            · have hT : Hid (Lst p q (k + 1) hi bI) := (by rw [← hbk.out]; exact hS.take hq1 e1 e2 (.inr (by rw [hbk.out, hX1, hX2]; exact hc)) : Lst p q (k + 1) hi bI)
              have dc : decide (X1 < X2) = true := decide_eq_true hc
              have hP := hF2.put hi bI
              have hBp := put2 hB2 (Nat.le_refl _) (.int .i64 hi) (.int .i64 bI)
              replace hX1 : Hid _ := hX1
              replace hX2 : Hid _ := hX2
              clear hS e1 e2 r4 r5 hF2 hD hc
              go_wp2
              go_roundw
              case rel => exact ⟨k + 1, hi, bI, by omega, by have := hbk.out; congr 1; omega, hT.out, by omega, hP, hBp⟩
              case measure => have := hbk.out; simp [intOf]; omega
            · have hT : Hid (Lst p q (k + 1) N D) := hS.keep hq1 e1 e2 hD (by rw [hbk.out, hX1, hX2]; exact hc)
              have dc : decide (X1 < X2) = false := decide_eq_false hc
              replace hX1 : Hid _ := hX1
              replace hX2 : Hid _ := hX2
              clear hS e1 e2 r4 r5 hD hc
              go_wp2
              go_roundw
              case rel => exact ⟨k + 1, N, D, by omega, by have := hbk.out; congr 1; omega, hT.out, by omega, hF2, hB2⟩
              case measure => have := hbk.out; simp [intOf]; omega
    · obtain rfl : k = n := by omega
      have hq := hpq.out
      have hD := hS.pos (by omega)
      have hE := hS.eq hq.1.2
      obtain ⟨hlow, hcross⟩ := low_of N D (by omega)
      have cl := fun v => nlowest_any N D v (by omega) (by omega) (by omega) (by omega)
      unfold low1 low2 gcd at cl
      obtain ⟨P, hP⟩ : ∃ P, N.tdiv (Int.gcd N D : Int) = P := ⟨_, rfl⟩
      obtain ⟨Q, hQ⟩ : ∃ Q, D.tdiv (Int.gcd N D : Int) = Q := ⟨_, rfl⟩
      rw [hP, hQ] at hlow hcross
      simp only [hP, hQ] at cl
      have hfin : Hid (Low P Q ∧ P * (q : Int) = p * Q) := ⟨hlow, by
        refine Int.eq_of_mul_eq_mul_right (a := D) (by omega) ?_
        calc P * (q : Int) * D = P * D * (q : Int) := by ac_rfl
          _ = N * Q * (q : Int) := by rw [hcross]
          _ = N * (q : Int) * Q := by ac_rfl
          _ = p * D * Q := by rw [hE]
          _ = p * Q * D := by ac_rfl⟩
      have db : decide ((k : Int) + 1 ≤ (k : Int)) = false := decide_eq_false (by omega)
      obtain ⟨e0, e1, f0, f1⟩ := id hF
      have R2 := R.kept hBl
      clear hS hlow hcross hE hP hQ hF
      go_wp2_with (go_at_call 19; refine (cl _).mono ?_; rintro e v3 ⟨rfl, bb⟩; clear cl; replace R2 := R2.kept bb; obtain ⟨s0, s1, s2, s3⟩ := id R2)
      obtain ⟨z0, z1, _, _⟩ := R2.put P Q
      exact bodyPost_ret (v := .tuple #[.agg #[.int .i64 P, .int .i64 Q], .int .i64 0]) (by simp [results, Try.results8, go_sem, z0, z1]) rfl ⟨P, Q, rfl, hfin.out.1, hfin.out.2, put2 (bthen (bthen B hBl) bb) (by omega) _ _⟩

end Go.Proofs.Ytdbpgcaodgkcjaa
