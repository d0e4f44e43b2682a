/- PROVED: the law MeanTells, if mean.Greatest and mean.Best answer as they should. CONDITIONS: none beyond each theorem's own. -/
import Derived.Test.YtdbpgcaodgkcjaaMTo
import Derived.Test.YtdbpgcaodgkcjaaRGr
import Derived.Test.YtdbpgcaodgkcjaaQWei
namespace Go.Proofs.Ytdbpgcaodgkcjaa
open Go.RowKit
set_option linter.unusedVariables false

theorem low_le {P Q p : Int} {q : Nat} (h : Low P Q) (hq : 1 ≤ q) (e : P * (q : Int) = p * Q) (hb : -1048576 * (q : Int) ≤ p ∧ p ≤ 1048576 * (q : Int)) : 1 ≤ Q ∧ Q ≤ (q : Int) ∧ -1048576 * Q ≤ P ∧ P ≤ 1048576 * Q := by
  obtain ⟨q0, hg⟩ := h
  have hn : P.natAbs * q = p.natAbs * Q.natAbs := by
    have := congrArg Int.natAbs e
    rw [Int.natAbs_mul, Int.natAbs_mul] at this
    simpa using this
  have d1 : Q.natAbs ∣ q := Nat.Coprime.dvd_of_dvd_mul_left (k := Q.natAbs) (m := P.natAbs) (n := q) (by rw [Nat.coprime_comm]; exact hg) ⟨p.natAbs, by rw [hn, Nat.mul_comm]⟩
  have h1 := Nat.le_of_dvd hq d1
  have hq0 : (0 : Int) < (q : Int) := by omega
  refine ⟨by omega, by omega, ?_, ?_⟩
  · refine le_of_mul hq0 ?_
    rw [e]
    have := mul_le_pos hb.1 (Int.le_of_lt q0)
    calc -1048576 * Q * (q : Int) = -1048576 * (q : Int) * Q := by ac_rfl
      _ ≤ p * Q := this
  · refine le_of_mul hq0 ?_
    rw [e]
    have := mul_le_pos hb.2 (Int.le_of_lt q0)
    calc p * Q ≤ 1048576 * (q : Int) * Q := this
      _ = 1048576 * Q * (q : Int) := by ac_rfl
theorem frac_same {P Q P2 Q2 p : Int} {q : Nat} (hq : 1 ≤ q) (h : Low P Q) (e : P * (q : Int) = p * Q) (h2 : Low P2 Q2) (e2 : P2 * (q : Int) = p * Q2) : P2 = P ∧ Q2 = Q := by
  have := low_same h h2 (by
    refine Int.eq_of_mul_eq_mul_right (a := (q : Int)) (by omega) ?_
    calc P * Q2 * (q : Int) = P * (q : Int) * Q2 := by ac_rfl
      _ = p * Q2 * Q := by rw [e]; ac_rfl
      _ = P2 * (q : Int) * Q := by rw [e2]
      _ = P2 * Q * (q : Int) := by ac_rfl)
  exact ⟨this.1.symm, this.2.symm⟩
theorem just_frac {P Q p x : Int} {q k : Nat} (hq : 1 ≤ q) (e : P * (q : Int) = p * Q) (h : (q : Int) * x = p * (k : Int)) : x * Q = P * (k : Int) := by
  refine Int.eq_of_mul_eq_mul_right (a := (q : Int)) (by omega) ?_
  calc x * Q * (q : Int) = (q : Int) * x * Q := by ac_rfl
    _ = p * Q * (k : Int) := by rw [h]; ac_rfl
    _ = P * (k : Int) * (q : Int) := by rw [← e]; ac_rfl
theorem wsz_nsumT {es : List Eg} (hw : Wgt es) {z : List Int} {R : Nat → Nat} (p : Nat) (hp : p ≤ 8796093022207) (h : ∀ j, j < p → z.getD j 0 = (R j : Int) ∧ R j < es.length) : wsz es z p = nsum es R p := by
  induction p with
  | zero => rfl
  | succ p ih =>
    have hr := nsum_range hw R (p + 1) fun j hj => (h j hj).2
    show wrap64 (wsz es z p + (eg es (z.getD p 0).toNat).x) = nsum es R p + (eg es (R p)).x
    rw [ih (by omega) fun j hj => h j (by omega), (h p (by omega)).1, Int.toNat_natCast]
    exact IntWalk.wrap64_in _ (by
      have e : nsum es R (p + 1) = nsum es R p + (eg es (R p)).x := rfl
      rw [← e]; omega)
theorem wge_wokT {n : Nat} {es : List Eg} (hG : Gph n es) {R : Nat → Nat} {p : Nat} (hp : p ≤ 300) (h : Wok es R p) : wge es (outs (fun j => (R j : Int)) p) = (nsum es R p, 0) := by
  have hg : ∀ j, j < p → (outs (fun j => (R j : Int)) p).getD j 0 = (R j : Int) := fun j hj => outs_getD _ _ _ hj
  rw [wge_yes, outs_len, wsz_nsumT hG.wgt p (by omega) fun j hj => ⟨hg j hj, (h j hj).1⟩]
  rw [outs_len]
  intro j hj
  obtain ⟨h1, h2⟩ := h j hj
  refine ⟨by rw [hg j hj]; omega, by rw [hg j hj]; omega, fun h0 => ?_⟩
  rw [hg j hj, hg (j - 1) (by omega), Int.toNat_natCast, Int.toNat_natCast]
  exact h2 h0

attribute [local go_sem ↓] eqF

set_option maxHeartbeats 3200000 in
theorem tells_w (hGS : GSome) (hGN : GNone) (hGW : GWrong) (hBS : BSome) (hBN : BNone) (hBW : BWrong) (N : Int) (a : Option Addr) (cap : Nat) (L : List Ed) (w : World) (hE : ERow w a L) (hl : L.length ≤ 9223372036854775807) (hg : ¬ grt N L) :
    Calls Try.prog 3 #[.agg #[.int .i64 N, .slice a L.length cap]] w fun e w' => e = .returned (.bool true) ∧ Below w.heap.size w w' := by
  have k7 : Hid (∀ v, ERow v a L → Calls Try.prog 7 #[.agg #[.int .i64 N, .slice a L.length cap]] v fun e w' => e = .returned (.tuple #[.agg #[.int .i64 0, .int .i64 0], .int .i64 2]) ∧ Below v.heap.size v w') := fun v h => hGW N a cap L hl hg v h
  have k8 : Hid (∀ v, ERow v a L → Calls Try.prog 8 #[.agg #[.int .i64 N, .slice a L.length cap]] v fun e w' => e = .returned (.tuple #[.agg #[.int .i64 0, .int .i64 0], .int .i64 2]) ∧ Below v.heap.size v w') := fun v h => rgreatest_wrong N a cap L v h hl hg
  have k9 : Hid (∀ v, ERow v a L → Calls Try.prog 9 #[.agg #[.int .i64 N, .slice a L.length cap]] v fun e w' => e = .returned (.tuple #[.slice none 0 0, .int .i64 2]) ∧ Below v.heap.size v w') := fun v h => hBW N a cap L hl hg v h
  have s0 : sameF 0 0 0 0 = true := same_self 0 0
  generalize L.length = m at *
  have B : Below w.heap.size w (w.alloc (.cells #[.int .i64 N, .slice a m cap] 24)) := balloc (Below.refl _ _) _
  have E := hE.kept B
  have K := Gb.new w N a m cap
  obtain ⟨w0, hw0⟩ : ∃ w0, w.alloc (.cells #[.int .i64 N, .slice a m cap] 24) = w0 := ⟨_, rfl⟩
  rw [hw0] at B E K
  obtain ⟨g0, g1⟩ := id K
  clear hE hg hGS hGN hGW hBS hBN hBW
  go_enter Try.func3, Try.ntmps3
  go_wp2_with (first
    | (go_at_call 7; refine (k7.out _ E).mono ?_; rintro e vk7 ⟨rfl, bb⟩; clear k7; replace E := E.kept bb; replace K := K.kept bb; replace B := bthen B bb; replace E := E.alloc (.cells #[.int .i64 0, .int .i64 0] 26); replace K := K.alloc (.cells #[.int .i64 0, .int .i64 0] 26); replace B := balloc B (.cells #[.int .i64 0, .int .i64 0] 26); have Fq := Fr.new vk7 vk7.heap.size rfl 0 0; clear g0 g1; obtain ⟨g0, g1⟩ := id K)
    | (go_at_call 8; refine (k8.out _ E).mono ?_; rintro e vk8 ⟨rfl, bb⟩; clear k8; replace E := E.kept bb; replace K := K.kept bb; replace Fq := Fq.kept bb; replace B := bthen B bb; replace E := E.alloc (.cells #[.int .i64 0, .int .i64 0] 26); replace K := K.alloc (.cells #[.int .i64 0, .int .i64 0] 26); replace Fq := Fq.alloc (.cells #[.int .i64 0, .int .i64 0] 26); replace B := balloc B (.cells #[.int .i64 0, .int .i64 0] 26); have Fr2 := Fr.new vk8 vk8.heap.size rfl 0 0; clear g0 g1; obtain ⟨g0, g1⟩ := id K)
    | (go_at_call 9; refine (k9.out _ E).mono ?_; rintro e vk9 ⟨rfl, bb⟩; clear k9; replace E := E.kept bb; replace K := K.kept bb; replace Fq := Fq.kept bb; replace Fr2 := Fr2.kept bb; replace B := bthen B bb; obtain ⟨f0, f1, _, _⟩ := id Fq; obtain ⟨f2, f3, _, _⟩ := id Fr2; clear g0 g1; obtain ⟨g0, g1⟩ := id K))
  go_ret
  exact ⟨rfl, B⟩

set_option maxHeartbeats 3200000 in
theorem tells_n (hGS : GSome) (hGN : GNone) (hGW : GWrong) (hBS : BSome) (hBN : BNone) (hBW : BWrong) (n : Nat) (es : List Eg) (hG : Gph n es) (hc : ¬ ∃ l, Cyc es l) (a : Option Addr) (cap m : Nat) (hm : es.length = m) (w : World) (hE : GRow w a es) :
    Calls Try.prog 3 #[.agg #[.int .i64 n, .slice a m cap]] w fun e w' => e = .returned (.bool true) ∧ Below w.heap.size w w' := by
  have n3 := hG.n3
  have k7 : Hid (∀ v, GRow v a es → Calls Try.prog 7 #[.agg #[.int .i64 n, .slice a m cap]] v fun e w' => e = .returned (.tuple #[.agg #[.int .i64 0, .int .i64 0], .int .i64 3]) ∧ Below v.heap.size v w') := fun v h => hGN n es hG a cap m hm hc v h
  have k8 : Hid (∀ v, GRow v a es → Calls Try.prog 8 #[.agg #[.int .i64 n, .slice a m cap]] v fun e w' => e = .returned (.tuple #[.agg #[.int .i64 0, .int .i64 0], .int .i64 3]) ∧ Below v.heap.size v w') := fun v h => rgreatest_none n es hG hc a cap m hm v h
  have k9 : Hid (∀ v, GRow v a es → Calls Try.prog 9 #[.agg #[.int .i64 n, .slice a m cap]] v fun e w' => e = .returned (.tuple #[.slice none 0 0, .int .i64 3]) ∧ Below v.heap.size v w') := fun v h => hBN n es hG a cap m hm hc v h
  have s0 : sameF 0 0 0 0 = true := same_self 0 0
  have B : Below w.heap.size w (w.alloc (.cells #[.int .i64 n, .slice a m cap] 24)) := balloc (Below.refl _ _) _
  have E := hE.kept B
  have K := Gb.new w n a m cap
  obtain ⟨w0, hw0⟩ : ∃ w0, w.alloc (.cells #[.int .i64 n, .slice a m cap] 24) = w0 := ⟨_, rfl⟩
  rw [hw0] at B E K
  obtain ⟨g0, g1⟩ := id K
  clear hE hG hc hm hGS hGN hGW hBS hBN hBW
  go_enter Try.func3, Try.ntmps3
  go_wp2_with (first
    | (go_at_call 7; refine (k7.out _ E).mono ?_; rintro e vk7 ⟨rfl, bb⟩; clear k7; replace E := E.kept bb; replace K := K.kept bb; replace B := bthen B bb; replace E := E.alloc (.cells #[.int .i64 0, .int .i64 0] 26); replace K := K.alloc (.cells #[.int .i64 0, .int .i64 0] 26); replace B := balloc B (.cells #[.int .i64 0, .int .i64 0] 26); have Fq := Fr.new vk7 vk7.heap.size rfl 0 0; clear g0 g1; obtain ⟨g0, g1⟩ := id K)
    | (go_at_call 8; refine (k8.out _ E).mono ?_; rintro e vk8 ⟨rfl, bb⟩; clear k8; replace E := E.kept bb; replace K := K.kept bb; replace Fq := Fq.kept bb; replace B := bthen B bb; replace E := E.alloc (.cells #[.int .i64 0, .int .i64 0] 26); replace K := K.alloc (.cells #[.int .i64 0, .int .i64 0] 26); replace Fq := Fq.alloc (.cells #[.int .i64 0, .int .i64 0] 26); replace B := balloc B (.cells #[.int .i64 0, .int .i64 0] 26); have Fr2 := Fr.new vk8 vk8.heap.size rfl 0 0; clear g0 g1; obtain ⟨g0, g1⟩ := id K)
    | (go_at_call 9; refine (k9.out _ E).mono ?_; rintro e vk9 ⟨rfl, bb⟩; clear k9; replace E := E.kept bb; replace K := K.kept bb; replace Fq := Fq.kept bb; replace Fr2 := Fr2.kept bb; replace B := bthen B bb; obtain ⟨f0, f1, _, _⟩ := id Fq; obtain ⟨f2, f3, _, _⟩ := id Fr2; clear g0 g1; obtain ⟨g0, g1⟩ := id K))
  go_ret
  exact ⟨rfl, B⟩

set_option maxHeartbeats 3200000 in
theorem tells_s (hGS : GSome) (hGN : GNone) (hGW : GWrong) (hBS : BSome) (hBN : BNone) (hBW : BWrong) (n : Nat) (es : List Eg) (hG : Gph n es) (p : Int) (q : Nat) (q1 : 1 ≤ q) (qn : q ≤ n) (hb : -1048576 * (q : Int) ≤ p ∧ p ≤ 1048576 * (q : Int)) (hL : Lam es p q) (a : Option Addr) (cap m : Nat) (hm : es.length = m) (w : World) (hE : GRow w a es) :
    Calls Try.prog 3 #[.agg #[.int .i64 n, .slice a m cap]] w fun e w' => e = .returned (.bool true) ∧ Below w.heap.size w w' := by
  have n3 := hG.n3
  have k7 : Hid (∀ v, GRow v a es → Calls Try.prog 7 #[.agg #[.int .i64 n, .slice a m cap]] v fun e w' => ∃ P Q : Int, e = .returned (.tuple #[.agg #[.int .i64 P, .int .i64 Q], .int .i64 0]) ∧ Low P Q ∧ P * (q : Int) = p * Q ∧ Below v.heap.size v w') := fun v h => hGS n es hG a cap m hm p q q1 qn hb hL v h
  have k8 : Hid (∀ v, GRow v a es → Calls Try.prog 8 #[.agg #[.int .i64 n, .slice a m cap]] v fun e w' => ∃ P Q : Int, e = .returned (.tuple #[.agg #[.int .i64 P, .int .i64 Q], .int .i64 0]) ∧ Low P Q ∧ P * (q : Int) = p * Q ∧ Below v.heap.size v w') := fun v h => rgreatest_some n es hG p q q1 qn hb hL a cap m hm v h
  have k9 : Hid (∀ v, GRow v a es → Calls Try.prog 9 #[.agg #[.int .i64 n, .slice a m cap]] v fun e w' => ∃ g o k c R, e = .returned (.tuple #[.slice (some ⟨g, o, none⟩) k c, .int .i64 0]) ∧ Rbe n es p q R k ∧ k ≤ c ∧ Cat w' g o k (fun j => (R j : Int)) ∧ Below v.heap.size v w') := fun v h => hBS n es hG a cap m hm p q q1 qn hb hL v h
  have k10 : Hid (∀ (g o k c : Nat) (R : Nat → Nat), Rbe n es p q R k → ∀ v, GRow v a es → Cat v g o k (fun j => (R j : Int)) → Calls Try.prog 10 #[.agg #[.int .i64 n, .slice a m cap], .slice (some ⟨g, o, none⟩) k c] v fun e w' => e = .returned (.tuple #[.int .i64 (nsum es R k), .int .i64 0]) ∧ Below v.heap.size v w') := fun g o k c R hR v h hh => by
    have := qweigh_any n es hG a (some ⟨g, o, none⟩) cap c (outs (fun j => (R j : Int)) k) v h hh.row (by rw [outs_len]; have := hR.kn; omega)
    rw [outs_len, hm, wge_wokT hG (by have := hR.kn; omega) hR.wok] at this
    exact this
  have hlm : Hid (es.length = m) := hm
  have hgh : Hid (Gph n es) := hG
  have hqq : Hid (1 ≤ q ∧ (-1048576 * (q : Int) ≤ p ∧ p ≤ 1048576 * (q : Int))) := ⟨q1, hb⟩
  have hqq3 : Hid (q ≤ 300) := (by omega : q ≤ 300)
  have m4 : m ≤ 4800 := by rw [← hm]; exact hG.m4
  have B : Below w.heap.size w (w.alloc (.cells #[.int .i64 n, .slice a m cap] 24)) := balloc (Below.refl _ _) _
  have E := hE.kept B
  have K := Gb.new w n a m cap
  obtain ⟨w0, hw0⟩ : ∃ w0, w.alloc (.cells #[.int .i64 n, .slice a m cap] 24) = w0 := ⟨_, rfl⟩
  rw [hw0] at B E K
  obtain ⟨g0, g1⟩ := id K
  clear hE hG hm hL hb q1 qn hGS hGN hGW hBS hBN hBW
  go_enter Try.func3, Try.ntmps3
  go_wp2_with (first
    | (go_at_call 7; refine (k7.out _ E).mono ?_; rintro e vk7 ⟨P, Q, rfl, hLo, hPq, bb⟩; clear k7; replace E := E.kept bb; replace K := K.kept bb; replace B := bthen B bb; replace E := E.alloc (.cells #[.int .i64 P, .int .i64 Q] 26); replace K := K.alloc (.cells #[.int .i64 P, .int .i64 Q] 26); replace B := balloc B (.cells #[.int .i64 P, .int .i64 Q] 26); have Fq := Fr.new vk7 vk7.heap.size rfl P Q; clear g0 g1; obtain ⟨g0, g1⟩ := id K)
    | (go_at_call 8; refine (k8.out _ E).mono ?_; rintro e vk8 ⟨P2, Q2, rfl, hLo2, hPq2, bb⟩; clear k8; obtain ⟨rfl, rfl⟩ := frac_same hqq.out.1 hLo hPq hLo2 hPq2; clear hLo2 hPq2; replace E := E.kept bb; replace K := K.kept bb; replace Fq := Fq.kept bb; replace B := bthen B bb; replace E := E.alloc (.cells #[.int .i64 P2, .int .i64 Q2] 26); replace K := K.alloc (.cells #[.int .i64 P2, .int .i64 Q2] 26); replace Fq := Fq.alloc (.cells #[.int .i64 P2, .int .i64 Q2] 26); replace B := balloc B (.cells #[.int .i64 P2, .int .i64 Q2] 26); have sA := same_self P2 Q2; have Fr2 := Fr.new vk8 vk8.heap.size rfl P2 Q2; clear g0 g1; obtain ⟨g0, g1⟩ := id K)
    | (go_at_call 9; refine (k9.out _ E).mono ?_; rintro e vk9 ⟨g, o, k, c, R, rfl, hR, hkc, C, bb⟩; clear k9; replace E := E.kept bb; replace K := K.kept bb; replace Fq := Fq.kept bb; replace Fr2 := Fr2.kept bb; replace B := bthen B bb; obtain ⟨f0, f1, _, _⟩ := id Fq; obtain ⟨f2, f3, _, _⟩ := id Fr2; clear g0 g1; obtain ⟨g0, g1⟩ := id K)
    | (go_at_call 10; refine (k10.out g o k c R hR _ E C).mono ?_; rintro e vk10 ⟨rfl, bb⟩; clear k10; replace E := E.kept bb; replace K := K.kept bb; replace Fr2 := Fr2.kept bb; replace C := C.kept bb; replace B := bthen B bb; clear f0 f1 f2 f3; obtain ⟨f2, f3, _, _⟩ := id Fr2; clear g0 g1; obtain ⟨g0, g1⟩ := id K))
  obtain ⟨k1, kn, hwk, hends, hjust⟩ := hR
  have q1 := hlm.out
  have hlo := low_le hLo hqq.out.1 hPq hqq.out.2
  have hXX := just_frac hqq.out.1 hPq hjust
  have hsr := nsum_range hgh.out.wgt R k fun j hj => (hwk j hj).1
  have hq3 : (q : Int) ≤ 300 := by have := hqq3.out; omega
  obtain ⟨pp, hpp⟩ : ∃ pp, k = pp + 1 := ⟨k - 1, by omega⟩
  obtain ⟨b, off, rfl, e1⟩ := E.at (by have := (hwk 0 (by omega)).1; omega)
  have r0 := (hwk 0 (by omega)).1
  have r1 := (hwk pp (by omega)).1
  obtain ⟨x0, _, _⟩ := e1 (R 0) r0
  obtain ⟨_, x1, _⟩ := e1 (R pp) r1
  have y0 := C.c 0 (by omega)
  rw [Nat.add_zero] at y0
  have y1 := C.c pp (by omega)
  rw [show k - 1 = pp by omega] at hends
  rw [hends] at x0
  generalize nsum es R k = S at *
  generalize (eg es (R pp)).t = T at *
  generalize R 0 = R0 at *
  generalize R pp = R1 at *
  try simp only at y0 y1
  have pr := prod_in (x := S) (y := Q2) (by omega) (by omega) (by omega) (by omega)
  obtain ⟨X, hX⟩ : ∃ X, S * Q2 = X := ⟨_, rfl⟩
  rw [hX] at pr hXX
  have wX : IntKind.i64.wrap (S * Q2) = X := by rw [hX]; exact wrap_in (by omega)
  have wY : IntKind.i64.wrap (P2 * (k : Int)) = X := by rw [← hXX]; exact wrap_in (by omega)
  have wX' : wrap64 (S * Q2) = X := by rw [hX]; exact IntWalk.wrap64_in _ (by omega)
  have wY' : wrap64 (P2 * (k : Int)) = X := by rw [← hXX]; exact IntWalk.wrap64_in _ (by omega)
  have i0 : (R0 : Int) < (m : Int) := by omega
  have i1 : (R1 : Int) < (m : Int) := by omega
  have i2 : (k : Int) - 1 = (pp : Int) := by omega
  have i3 : IntKind.i64.wrap (pp : Int) = (pp : Int) := wrap_in (by omega)
  have i4 : (pp : Int) < (k : Int) := by omega
  have i5 : (0 : Int) < (k : Int) := by omega
  have d0 : decide ((0 : Int) < (k : Int)) = true := decide_eq_true (by omega)
  have d1 : decide (0 < k) = true := decide_eq_true (by omega)
  have d2 : decide ((k : Int) ≤ (n : Int)) = true := decide_eq_true (by omega)
  have d3 : decide (k ≤ n) = true := decide_eq_true (by omega)
  have d5 : ((T : Int) == (T : Int)) = true := beq_self_eq_true _
  have d6 : (X == X) = true := beq_self_eq_true _
  clear hwk hends e1 q1 E C hpp hjust hXX hsr hX pr hlo hLo hPq Fq Fr2 sA hq3
  go_quiet (fail)
  go_wp2
  go_ret
  exact ⟨rfl, below_drewN B _⟩

theorem meanTells_all (hGS : GSome) (hGN : GNone) (hGW : GWrong) (hBS : BSome) (hBN : BNone) (hBW : BWrong) (N : Int) (a : Option Addr) (cap : Nat) (L : List Ed) (w : World) (hE : ERow w a L) (hl : L.length ≤ 9223372036854775807) :
    Calls Try.prog 3 #[.agg #[.int .i64 N, .slice a L.length cap]] w fun e w' => e = .returned (.bool true) ∧ Below w.heap.size w w' := by
  by_cases hg : grt N L
  · obtain ⟨n, es, rfl, rfl, hG⟩ := grt_gph hg
    rw [List.length_map]
    by_cases hc : ∃ l, Cyc es l
    · obtain ⟨p, q, q1, qn, hb, hL⟩ := lam_all hG hc
      exact tells_s hGS hGN hGW hBS hBN hBW n es hG p q q1 qn hb hL a cap _ rfl w hE
    · exact tells_n hGS hGN hGW hBS hBN hBW n es hG hc a cap _ rfl w hE
  · exact tells_w hGS hGN hGW hBS hBN hBW N a cap L w hE hl hg

end Go.Proofs.Ytdbpgcaodgkcjaa
