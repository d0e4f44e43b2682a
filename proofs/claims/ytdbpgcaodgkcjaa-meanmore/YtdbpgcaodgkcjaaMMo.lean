/- PROVED: the law MeanMost for rows of up to 1048576 numbers, if mean.Greatest and mean.Best answer as they should. CONDITIONS: none beyond each theorem's own. -/
import Derived.Test.YtdbpgcaodgkcjaaMRo
namespace Go.Proofs.Ytdbpgcaodgkcjaa
open Go.RowKit
set_option linter.unusedVariables false

theorem wok_pathL {es : List Eg} {R : Nat → Nat} {p : Nat} (h : Wok es R p) (j : Nat) (hj : j < p) : ∃ l, Path es (eg es (R 0)).f l (eg es (R j)).t ∧ wt l = nsum es R (j + 1) ∧ l.length = j + 1 := by
  induction j with
  | zero => exact ⟨[eg es (R 0)], path_one (eg_mem (h 0 hj).1), by simp [wt, nsum], rfl⟩
  | succ j ih =>
    obtain ⟨l, g1, g2, g3⟩ := ih (by omega)
    obtain ⟨k1, k2⟩ := h (j + 1) hj
    refine ⟨l ++ [eg es (R (j + 1))], path_append.2 ⟨_, g1, eg_mem k1, k2 (by omega), rfl⟩, ?_, by simp [g3]⟩
    rw [wt_append, g2]
    simp [wt, nsum]
theorem rnz_cyc {es : List Eg} {z : List Int} {k : Nat} (h : Rnz es z k) : ∃ l, Cyc es l ∧ l.length = k ∧ wt l = nsum es (fun j => (z.getD j 0).toNat) k := by
  obtain ⟨h1, h2, h3⟩ := h
  obtain ⟨l, g1, g2, g3⟩ := wok_pathL (es := es) (R := fun j => (z.getD j 0).toNat) (p := k) (fun j hj => by obtain ⟨a, b, c⟩ := h1 j hj; exact ⟨by show (z.getD j 0).toNat < es.length; omega, c⟩) (k - 1) (by omega)
  have e : k - 1 + 1 = k := by omega
  rw [e] at g2 g3
  have g1' : Path es (eg es (z.getD 0 0).toNat).f l (eg es (z.getD (k - 1) 0).toNat).t := g1
  rw [← h3] at g1'
  exact ⟨l, ⟨fun q => by rw [q] at g3; simp at g3; omega, _, g1'⟩, g3, g2⟩
theorem rnz_most {es : List Eg} {p q : Int} (hL : Lam es p q) (hw : Wgt es) {z : List Int} {k : Nat} (hk : k ≤ 1048576) (h : Rnz es z k) : q * wsz es z k ≤ p * (k : Int) ∧ -(1048576 * (k : Int)) ≤ wsz es z k ∧ wsz es z k ≤ 1048576 * (k : Int) := by
  have e := wsz_nsumT hw (z := z) (R := fun j => (z.getD j 0).toNat) k (by omega) fun j hj => by obtain ⟨a, b, c⟩ := h.1 j hj; exact ⟨by omega, by omega⟩
  have r := nsum_range hw (fun j => (z.getD j 0).toNat) k fun j hj => by obtain ⟨a, b, c⟩ := h.1 j hj; show (z.getD j 0).toNat < _; omega
  obtain ⟨l, h1, h2, h3⟩ := rnz_cyc h
  have := hL.most l h1
  rw [h2, h3, ← e] at this
  rw [← e] at r
  exact ⟨this, r⟩
theorem rbe_rnz {n : Nat} {es : List Eg} {p : Int} {q : Nat} {R : Nat → Nat} {k : Nat} (h : Rbe n es p q R k) : Rnz es (outs (fun j => (R j : Int)) k) k := by
  have hg : ∀ j, j < k → (outs (fun j => (R j : Int)) k).getD j 0 = (R j : Int) := fun j hj => outs_getD _ _ _ hj
  have k1 := h.k1
  refine ⟨fun j hj => ?_, by omega, ?_⟩
  · obtain ⟨h1, h2⟩ := h.wok j hj
    refine ⟨by rw [hg j hj]; omega, by rw [hg j hj]; omega, fun h0 => ?_⟩
    rw [hg j hj, hg (j - 1) (by omega), Int.toNat_natCast, Int.toNat_natCast]
    exact h2 h0
  · rw [hg 0 (by omega), hg (k - 1) (by omega), Int.toNat_natCast, Int.toNat_natCast]
    exact h.ends
theorem frac_le {P Q p x : Int} {q k : Nat} (hq : 1 ≤ q) (hQ : 0 < Q) (e : P * (q : Int) = p * Q) (h : (q : Int) * x ≤ p * (k : Int)) : x * Q ≤ P * (k : Int) := by
  refine le_of_mul (c := (q : Int)) (by omega) ?_
  have := mul_le_pos h (Int.le_of_lt hQ)
  calc x * Q * (q : Int) = (q : Int) * x * Q := by ac_rfl
    _ ≤ p * (k : Int) * Q := this
    _ = p * Q * (k : Int) := by ac_rfl
    _ = P * (k : Int) * (q : Int) := by rw [← e]; ac_rfl
theorem mul_abs {x y X Y : Int} (h1 : -X ≤ x ∧ x ≤ X) (h2 : 0 ≤ y ∧ y ≤ Y) (hX : 0 ≤ X) : -(X * Y) ≤ x * y ∧ x * y ≤ X * Y := by
  have a1 := mul_le_pos h1.1 h2.1
  have a2 := mul_le_pos h1.2 h2.1
  have a3 : X * y ≤ X * Y := Int.mul_le_mul_of_nonneg_left h2.2 hX
  rw [Int.neg_mul] at a1
  omega

attribute [local go_sem ↓] eqF

set_option maxHeartbeats 3200000 in
theorem most_w (hGS : GSome) (hGN : GNone) (hGW : GWrong) (hBS : BSome) (hBN : BNone) (hBW : BWrong) (N : Int) (a : Option Addr) (cap : Nat) (L : List Ed) (a1 : Option Addr) (cap1 pz : Nat) (z : List Int) (hzp : z.length = pz) (hu : pz ≤ 1048576) (w : World) (hz : Row w a1 z) (hE : ERow w a L) (hl : L.length ≤ 9223372036854775807) (hg : ¬ grt N L) :
    Calls Try.prog 4 #[.agg #[.int .i64 N, .slice a L.length cap], .slice a1 pz cap1] w fun e w' => e = .returned (.bool true) ∧ Below w.heap.size w w' := by
  have k11 : Hid (∀ v : World, True → Calls Try.prog 11 #[] v fun e w' => e = .returned (.bool true) ∧ Below v.heap.size v w') := fun v _ => alive18_any hGS hGN hBS v
  have k7 : Hid (∀ v, ERow v a L → Calls Try.prog 7 #[.agg #[.int .i64 N, .slice a L.length cap]] v fun e w' => e = .returned (.tuple #[.agg #[.int .i64 0, .int .i64 0], .int .i64 2]) ∧ Below v.heap.size v w') := fun v h => hGW N a cap L hl hg v h
  have k9 : Hid (∀ v, ERow v a L → Calls Try.prog 9 #[.agg #[.int .i64 N, .slice a L.length cap]] v fun e w' => e = .returned (.tuple #[.slice none 0 0, .int .i64 2]) ∧ Below v.heap.size v w') := fun v h => hBW N a cap L hl hg v h
  have k12 : Hid (∀ v, ERow v a L → Calls Try.prog 12 #[.agg #[.int .i64 N, .slice a L.length cap], .slice a1 pz cap1] v fun e w' => e = .returned (.bool false) ∧ Below v.heap.size v w') := fun v h => round_wrong N a cap L a1 cap1 pz hl hg v h
  have s0 : sameF 0 0 0 0 = true := same_self 0 0
  generalize L.length = m at *
  have B : Below w.heap.size w (w.alloc (.cells #[.int .i64 N, .slice a m cap] 24)) := balloc (Below.refl _ _) _
  have E := hE.kept B
  have Z := hz.kept B
  have K := Gb.new w N a m cap
  obtain ⟨w0, hw0⟩ : ∃ w0, w.alloc (.cells #[.int .i64 N, .slice a m cap] 24) = w0 := ⟨_, rfl⟩
  rw [hw0] at B E K Z
  obtain ⟨g0, g1⟩ := id K
  clear hE hz hg hzp hGS hGN hGW hBS hBN hBW
  go_enter Try.func4, Try.ntmps4
  go_wp2_with (first
    | (go_at_call 11; refine (k11.out _ trivial).mono ?_; rintro e vk11 ⟨rfl, bb⟩; clear k11; replace E := E.kept bb; replace K := K.kept bb; replace Z := Z.kept bb; replace B := bthen B bb; clear g0 g1; obtain ⟨g0, g1⟩ := id K)
    | (go_at_call 7; refine (k7.out _ E).mono ?_; rintro e vk7 ⟨rfl, bb⟩; clear k7; replace E := E.kept bb; replace K := K.kept bb; replace Z := Z.kept bb; replace B := bthen B bb; replace E := E.alloc (.cells #[.int .i64 0, .int .i64 0] 26); replace K := K.alloc (.cells #[.int .i64 0, .int .i64 0] 26); replace Z := Z.alloc (.cells #[.int .i64 0, .int .i64 0] 26); replace B := balloc B (.cells #[.int .i64 0, .int .i64 0] 26); have Fq := Fr.new vk7 vk7.heap.size rfl 0 0; clear g0 g1; obtain ⟨g0, g1⟩ := id K)
    | (go_at_call 9; refine (k9.out _ E).mono ?_; rintro e vk9 ⟨rfl, bb⟩; clear k9; replace E := E.kept bb; replace K := K.kept bb; replace Z := Z.kept bb; replace Fq := Fq.kept bb; replace B := bthen B bb; obtain ⟨f0, f1, _, _⟩ := id Fq; clear g0 g1; obtain ⟨g0, g1⟩ := id K)
    | (go_at_call 12; refine (k12.out _ E).mono ?_; rintro e vk12 ⟨rfl, bb⟩; clear k12; replace E := E.kept bb; replace K := K.kept bb; replace B := bthen B bb; clear g0 g1; obtain ⟨g0, g1⟩ := id K))
  go_ret
  exact ⟨rfl, B⟩

set_option maxHeartbeats 3200000 in
theorem most_n (hGS : GSome) (hGN : GNone) (hGW : GWrong) (hBS : BSome) (hBN : BNone) (hBW : BWrong) (n : Nat) (es : List Eg) (hG : Gph n es) (hc : ¬ ∃ l, Cyc es l) (a : Option Addr) (cap m : Nat) (hm : es.length = m) (a1 : Option Addr) (cap1 pz : Nat) (z : List Int) (hzp : z.length = pz) (hu : pz ≤ 1048576) (w : World) (hz : Row w a1 z) (hE : GRow w a es) :
    Calls Try.prog 4 #[.agg #[.int .i64 n, .slice a m cap], .slice a1 pz cap1] w fun e w' => e = .returned (.bool true) ∧ Below w.heap.size w w' := by
  have n3 := hG.n3
  have k11 : Hid (∀ v : World, True → Calls Try.prog 11 #[] v fun e w' => e = .returned (.bool true) ∧ Below v.heap.size v w') := fun v _ => alive18_any hGS hGN hBS v
  have k7 : Hid (∀ v, GRow v a es → Calls Try.prog 7 #[.agg #[.int .i64 n, .slice a m cap]] v fun e w' => e = .returned (.tuple #[.agg #[.int .i64 0, .int .i64 0], .int .i64 3]) ∧ Below v.heap.size v w') := fun v h => hGN n es hG a cap m hm hc v h
  have k9 : Hid (∀ v, GRow v a es → Calls Try.prog 9 #[.agg #[.int .i64 n, .slice a m cap]] v fun e w' => e = .returned (.tuple #[.slice none 0 0, .int .i64 3]) ∧ Below v.heap.size v w') := fun v h => hBN n es hG a cap m hm hc v h
  have k12 : Hid (∀ v, GRow v a es → Row v a1 z → Calls Try.prog 12 #[.agg #[.int .i64 n, .slice a m cap], .slice a1 pz cap1] v fun e w' => e = .returned (.bool false) ∧ Below v.heap.size v w') := fun v h hh => round_any n es hG a cap m hm a1 cap1 pz z hzp (by omega) false ⟨fun k => by simp at k, fun k => by obtain ⟨l, hl, _⟩ := rnz_cyc k; exact absurd ⟨l, hl⟩ hc⟩ v h hh
  have s0 : sameF 0 0 0 0 = true := same_self 0 0
  have B : Below w.heap.size w (w.alloc (.cells #[.int .i64 n, .slice a m cap] 24)) := balloc (Below.refl _ _) _
  have E := hE.kept B
  have Z := hz.kept B
  have K := Gb.new w n a m cap
  obtain ⟨w0, hw0⟩ : ∃ w0, w.alloc (.cells #[.int .i64 n, .slice a m cap] 24) = w0 := ⟨_, rfl⟩
  rw [hw0] at B E K Z
  obtain ⟨g0, g1⟩ := id K
  clear hE hz hG hc hm hzp hGS hGN hGW hBS hBN hBW
  go_enter Try.func4, Try.ntmps4
  go_wp2_with (first
    | (go_at_call 11; refine (k11.out _ trivial).mono ?_; rintro e vk11 ⟨rfl, bb⟩; clear k11; replace E := E.kept bb; replace K := K.kept bb; replace Z := Z.kept bb; replace B := bthen B bb; clear g0 g1; obtain ⟨g0, g1⟩ := id K)
    | (go_at_call 7; refine (k7.out _ E).mono ?_; rintro e vk7 ⟨rfl, bb⟩; clear k7; replace E := E.kept bb; replace K := K.kept bb; replace Z := Z.kept bb; replace B := bthen B bb; replace E := E.alloc (.cells #[.int .i64 0, .int .i64 0] 26); replace K := K.alloc (.cells #[.int .i64 0, .int .i64 0] 26); replace Z := Z.alloc (.cells #[.int .i64 0, .int .i64 0] 26); replace B := balloc B (.cells #[.int .i64 0, .int .i64 0] 26); have Fq := Fr.new vk7 vk7.heap.size rfl 0 0; clear g0 g1; obtain ⟨g0, g1⟩ := id K)
    | (go_at_call 9; refine (k9.out _ E).mono ?_; rintro e vk9 ⟨rfl, bb⟩; clear k9; replace E := E.kept bb; replace K := K.kept bb; replace Z := Z.kept bb; replace Fq := Fq.kept bb; replace B := bthen B bb; obtain ⟨f0, f1, _, _⟩ := id Fq; clear g0 g1; obtain ⟨g0, g1⟩ := id K)
    | (go_at_call 12; refine (k12.out _ E Z).mono ?_; rintro e vk12 ⟨rfl, bb⟩; clear k12; replace E := E.kept bb; replace K := K.kept bb; replace B := bthen B bb; clear g0 g1; obtain ⟨g0, g1⟩ := id K))
  go_ret
  exact ⟨rfl, B⟩

set_option maxHeartbeats 3200000 in
theorem most_y (hGS : GSome) (hGN : GNone) (hGW : GWrong) (hBS : BSome) (hBN : BNone) (hBW : BWrong) (n : Nat) (es : List Eg) (hG : Gph n es) (p : Int) (q : Nat) (q1 : 1 ≤ q) (qn : q ≤ n) (hb : -1048576 * (q : Int) ≤ p ∧ p ≤ 1048576 * (q : Int)) (hL : Lam es p q) (a : Option Addr) (cap m : Nat) (hm : es.length = m) (a1 : Option Addr) (cap1 pz : Nat) (z : List Int) (hzp : z.length = pz) (hu : pz ≤ 1048576) (w : World) (hz : Row w a1 z) (hr : Rnz es z pz) (hE : GRow w a es) :
    Calls Try.prog 4 #[.agg #[.int .i64 n, .slice a m cap], .slice a1 pz cap1] w fun e w' => e = .returned (.bool true) ∧ Below w.heap.size w w' := by
  have n3 := hG.n3
  have k11 : Hid (∀ v : World, True → Calls Try.prog 11 #[] v fun e w' => e = .returned (.bool true) ∧ Below v.heap.size v w') := fun v _ => alive18_any hGS hGN hBS v
  have k7 : Hid (∀ v, GRow v a es → Calls Try.prog 7 #[.agg #[.int .i64 n, .slice a m cap]] v fun e w' => ∃ P Q : Int, e = .returned (.tuple #[.agg #[.int .i64 P, .int .i64 Q], .int .i64 0]) ∧ Low P Q ∧ P * (q : Int) = p * Q ∧ Below v.heap.size v w') := fun v h => hGS n es hG a cap m hm p q q1 qn hb hL v h
  have k9 : Hid (∀ v, GRow v a es → Calls Try.prog 9 #[.agg #[.int .i64 n, .slice a m cap]] v fun e w' => ∃ g o k c R, e = .returned (.tuple #[.slice (some ⟨g, o, none⟩) k c, .int .i64 0]) ∧ Rbe n es p q R k ∧ k ≤ c ∧ Cat w' g o k (fun j => (R j : Int)) ∧ Below v.heap.size v w') := fun v h => hBS n es hG a cap m hm p q q1 qn hb hL v h
  have k13 : Hid (∀ (g o k c : Nat) (R : Nat → Nat), Rbe n es p q R k → ∀ v, GRow v a es → Cat v g o k (fun j => (R j : Int)) → Calls Try.prog 13 #[.agg #[.int .i64 n, .slice a m cap], .slice (some ⟨g, o, none⟩) k c] v fun e w' => e = .returned (.tuple #[.int .i64 (nsum es R k), .int .i64 0]) ∧ Below v.heap.size v w') := fun g o k c R hR v h hh => weighN n es hG a cap m hm (some ⟨g, o, none⟩) c k _ (outs_len _ _) (by have := hR.kn; omega) v h hh.row _ _ (wge_wokT hG (by have := hR.kn; omega) hR.wok)
  have k12 : Hid (∀ (g o k c : Nat) (R : Nat → Nat), Rbe n es p q R k → ∀ v, GRow v a es → Cat v g o k (fun j => (R j : Int)) → Calls Try.prog 12 #[.agg #[.int .i64 n, .slice a m cap], .slice (some ⟨g, o, none⟩) k c] v fun e w' => e = .returned (.bool true) ∧ Below v.heap.size v w') := fun g o k c R hR v h hh => round_any n es hG a cap m hm (some ⟨g, o, none⟩) c k _ (outs_len _ _) (by have := hR.kn; omega) true ⟨fun _ => rbe_rnz hR, fun _ => rfl⟩ v h hh.row
  obtain ⟨A1, A2, hA, hA2, hA1⟩ : ∃ A1 A2, wge es z = (A1, A2) ∧ A2 = 0 ∧ A1 = wsz es z pz := ⟨_, _, wge_yes (by rw [hzp]; exact hr.1), rfl, by rw [hzp]⟩
  have k13l : Hid (∀ v, GRow v a es → Row v a1 z → Calls Try.prog 13 #[.agg #[.int .i64 n, .slice a m cap], .slice a1 pz cap1] v fun e w' => e = .returned (.tuple #[.int .i64 A1, .int .i64 A2]) ∧ Below v.heap.size v w') := fun v h hh => weighN n es hG a cap m hm a1 cap1 pz z hzp (by omega) v h hh A1 A2 hA
  have k12l : Hid (∀ v, GRow v a es → Row v a1 z → Calls Try.prog 12 #[.agg #[.int .i64 n, .slice a m cap], .slice a1 pz cap1] v fun e w' => e = .returned (.bool true) ∧ Below v.heap.size v w') := fun v h hh => round_any n es hG a cap m hm a1 cap1 pz z hzp (by omega) true ⟨fun _ => hr, fun _ => rfl⟩ v h hh
  have hmo : Hid ((q : Int) * A1 ≤ p * (pz : Int) ∧ -(1048576 * (pz : Int)) ≤ A1 ∧ A1 ≤ 1048576 * (pz : Int)) := by rw [hA1]; exact rnz_most hL hG.wgt hu hr
  have hgh : Hid (Gph n es) := hG
  have hqq : Hid (1 ≤ q ∧ (-1048576 * (q : Int) ≤ p ∧ p ≤ 1048576 * (q : Int))) := ⟨q1, hb⟩
  have hqq3 : Hid (q ≤ 300) := (by omega : q ≤ 300)
  have B : Below w.heap.size w (w.alloc (.cells #[.int .i64 n, .slice a m cap] 24)) := balloc (Below.refl _ _) _
  have E := hE.kept B
  have Z := hz.kept B
  have K := Gb.new w n a m cap
  obtain ⟨w0, hw0⟩ : ∃ w0, w.alloc (.cells #[.int .i64 n, .slice a m cap] 24) = w0 := ⟨_, rfl⟩
  rw [hw0] at B E K Z
  obtain ⟨g0, g1⟩ := id K
  subst hA2
  clear hE hz hG hm hL hb q1 qn hzp hA hA1 hr hGS hGN hGW hBS hBN hBW
  go_enter Try.func4, Try.ntmps4
  go_wp2_with (first
    | (go_at_call 11; refine (k11.out _ trivial).mono ?_; rintro e vk11 ⟨rfl, bb⟩; clear k11; replace E := E.kept bb; replace K := K.kept bb; replace Z := Z.kept bb; replace B := bthen B bb; clear g0 g1; obtain ⟨g0, g1⟩ := id K)
    | (go_at_call 7; refine (k7.out _ E).mono ?_; rintro e vk7 ⟨P, Q, rfl, hLo, hPq, bb⟩; clear k7; replace E := E.kept bb; replace K := K.kept bb; replace Z := Z.kept bb; replace B := bthen B bb; replace E := E.alloc (.cells #[.int .i64 P, .int .i64 Q] 26); replace K := K.alloc (.cells #[.int .i64 P, .int .i64 Q] 26); replace Z := Z.alloc (.cells #[.int .i64 P, .int .i64 Q] 26); replace B := balloc B (.cells #[.int .i64 P, .int .i64 Q] 26); have Fq := Fr.new vk7 vk7.heap.size rfl P Q; clear g0 g1; obtain ⟨g0, g1⟩ := id K)
    | (go_at_call 9; refine (k9.out _ E).mono ?_; rintro e vk9 ⟨g, o, k, c, R, rfl, hR, hkc, C, bb⟩; clear k9; replace E := E.kept bb; replace K := K.kept bb; replace Z := Z.kept bb; replace Fq := Fq.kept bb; replace B := bthen B bb; have hlo := low_le hLo hqq.out.1 hPq hqq.out.2; have hXX := just_frac hqq.out.1 hPq hR.just; have hsr := nsum_range hgh.out.wgt R k (fun j hj => (hR.wok j hj).1); have hkn := hR.kn; have hk1 := hR.k1; have hq3 := hqq3.out; have dQ : decide (Q < 1) = false := decide_eq_false (by omega); have prs := prod_in (x := nsum es R k) (y := Q) (by omega) (by omega) (by omega) (by omega); have wX : wrap64 (nsum es R k * Q) = nsum es R k * Q := IntWalk.wrap64_in _ (by omega); have wY : wrap64 (P * (k : Int)) = nsum es R k * Q := (by rw [← hXX]; exact IntWalk.wrap64_in _ (by omega)); have dX : (nsum es R k * Q != nsum es R k * Q) = false := bne_self_eq_false _; clear prs hXX hsr; have hm3 := hmo.out; have hle := frac_le hqq.out.1 hLo.1 hPq hm3.1; have y1 := mul_abs (x := A1) (y := Q) (X := 1099511627776) (Y := 300) (by omega) (by omega) (by omega); have y2 := mul_abs (x := P) (y := (pz : Int)) (X := 314572800) (Y := 1048576) (by omega) (by omega) (by omega); have wA : wrap64 (A1 * Q) = A1 * Q := IntWalk.wrap64_in _ (by omega); have wB : wrap64 (P * (pz : Int)) = P * (pz : Int) := IntWalk.wrap64_in _ (by omega); have dL : decide (A1 * Q ≤ P * (pz : Int)) = true := decide_eq_true hle; clear y1 y2 hle hm3; obtain ⟨f0, f1, _, _⟩ := id Fq; clear g0 g1; obtain ⟨g0, g1⟩ := id K)
    | (go_at_call 13; refine (k13.out g o k c R hR _ E C).mono ?_; rintro e vk13 ⟨rfl, bb⟩; clear k13; replace E := E.kept bb; replace K := K.kept bb; replace Z := Z.kept bb; replace Fq := Fq.kept bb; replace C := C.kept bb; replace B := bthen B bb; clear f0 f1; obtain ⟨f0, f1, _, _⟩ := id Fq; clear g0 g1; obtain ⟨g0, g1⟩ := id K)
    | (go_at_call 12; refine (k12.out g o k c R hR _ E C).mono ?_; rintro e vk12 ⟨rfl, bb⟩; clear k12; replace E := E.kept bb; replace K := K.kept bb; replace Z := Z.kept bb; replace Fq := Fq.kept bb; replace C := C.kept bb; replace B := bthen B bb; clear f0 f1; obtain ⟨f0, f1, _, _⟩ := id Fq; clear g0 g1; obtain ⟨g0, g1⟩ := id K)
    | (go_at_call 13; refine (k13l.out _ E Z).mono ?_; rintro e vk13l ⟨rfl, bb⟩; clear k13l; replace E := E.kept bb; replace K := K.kept bb; replace Z := Z.kept bb; replace Fq := Fq.kept bb; replace C := C.kept bb; replace B := bthen B bb; clear f0 f1; obtain ⟨f0, f1, _, _⟩ := id Fq; clear g0 g1; obtain ⟨g0, g1⟩ := id K)
    | (go_at_call 12; refine (k12l.out _ E Z).mono ?_; rintro e vk12l ⟨rfl, bb⟩; clear k12l; replace E := E.kept bb; replace K := K.kept bb; replace Z := Z.kept bb; replace Fq := Fq.kept bb; replace C := C.kept bb; replace B := bthen B bb; clear f0 f1; obtain ⟨f0, f1, _, _⟩ := id Fq; clear g0 g1; obtain ⟨g0, g1⟩ := id K))
  go_ret
  exact ⟨rfl, B⟩

set_option maxHeartbeats 3200000 in
theorem most_f (hGS : GSome) (hGN : GNone) (hGW : GWrong) (hBS : BSome) (hBN : BNone) (hBW : BWrong) (n : Nat) (es : List Eg) (hG : Gph n es) (p : Int) (q : Nat) (q1 : 1 ≤ q) (qn : q ≤ n) (hb : -1048576 * (q : Int) ≤ p ∧ p ≤ 1048576 * (q : Int)) (hL : Lam es p q) (a : Option Addr) (cap m : Nat) (hm : es.length = m) (a1 : Option Addr) (cap1 pz : Nat) (z : List Int) (hzp : z.length = pz) (hu : pz ≤ 1048576) (w : World) (hz : Row w a1 z) (hr : ¬ Rnz es z pz) (hE : GRow w a es) :
    Calls Try.prog 4 #[.agg #[.int .i64 n, .slice a m cap], .slice a1 pz cap1] w fun e w' => e = .returned (.bool true) ∧ Below w.heap.size w w' := by
  have n3 := hG.n3
  have k11 : Hid (∀ v : World, True → Calls Try.prog 11 #[] v fun e w' => e = .returned (.bool true) ∧ Below v.heap.size v w') := fun v _ => alive18_any hGS hGN hBS v
  have k7 : Hid (∀ v, GRow v a es → Calls Try.prog 7 #[.agg #[.int .i64 n, .slice a m cap]] v fun e w' => ∃ P Q : Int, e = .returned (.tuple #[.agg #[.int .i64 P, .int .i64 Q], .int .i64 0]) ∧ Low P Q ∧ P * (q : Int) = p * Q ∧ Below v.heap.size v w') := fun v h => hGS n es hG a cap m hm p q q1 qn hb hL v h
  have k9 : Hid (∀ v, GRow v a es → Calls Try.prog 9 #[.agg #[.int .i64 n, .slice a m cap]] v fun e w' => ∃ g o k c R, e = .returned (.tuple #[.slice (some ⟨g, o, none⟩) k c, .int .i64 0]) ∧ Rbe n es p q R k ∧ k ≤ c ∧ Cat w' g o k (fun j => (R j : Int)) ∧ Below v.heap.size v w') := fun v h => hBS n es hG a cap m hm p q q1 qn hb hL v h
  have k13 : Hid (∀ (g o k c : Nat) (R : Nat → Nat), Rbe n es p q R k → ∀ v, GRow v a es → Cat v g o k (fun j => (R j : Int)) → Calls Try.prog 13 #[.agg #[.int .i64 n, .slice a m cap], .slice (some ⟨g, o, none⟩) k c] v fun e w' => e = .returned (.tuple #[.int .i64 (nsum es R k), .int .i64 0]) ∧ Below v.heap.size v w') := fun g o k c R hR v h hh => weighN n es hG a cap m hm (some ⟨g, o, none⟩) c k _ (outs_len _ _) (by have := hR.kn; omega) v h hh.row _ _ (wge_wokT hG (by have := hR.kn; omega) hR.wok)
  have k12 : Hid (∀ (g o k c : Nat) (R : Nat → Nat), Rbe n es p q R k → ∀ v, GRow v a es → Cat v g o k (fun j => (R j : Int)) → Calls Try.prog 12 #[.agg #[.int .i64 n, .slice a m cap], .slice (some ⟨g, o, none⟩) k c] v fun e w' => e = .returned (.bool true) ∧ Below v.heap.size v w') := fun g o k c R hR v h hh => round_any n es hG a cap m hm (some ⟨g, o, none⟩) c k _ (outs_len _ _) (by have := hR.kn; omega) true ⟨fun _ => rbe_rnz hR, fun _ => rfl⟩ v h hh.row
  obtain ⟨A1, A2, hA⟩ : ∃ A1 A2, wge es z = (A1, A2) := ⟨_, _, rfl⟩
  have k13l : Hid (∀ v, GRow v a es → Row v a1 z → Calls Try.prog 13 #[.agg #[.int .i64 n, .slice a m cap], .slice a1 pz cap1] v fun e w' => e = .returned (.tuple #[.int .i64 A1, .int .i64 A2]) ∧ Below v.heap.size v w') := fun v h hh => weighN n es hG a cap m hm a1 cap1 pz z hzp (by omega) v h hh A1 A2 hA
  have k12l : Hid (∀ v, GRow v a es → Row v a1 z → Calls Try.prog 12 #[.agg #[.int .i64 n, .slice a m cap], .slice a1 pz cap1] v fun e w' => e = .returned (.bool false) ∧ Below v.heap.size v w') := fun v h hh => round_any n es hG a cap m hm a1 cap1 pz z hzp (by omega) false ⟨fun k => by simp at k, fun k => absurd k hr⟩ v h hh
  have hgh : Hid (Gph n es) := hG
  have hqq : Hid (1 ≤ q ∧ (-1048576 * (q : Int) ≤ p ∧ p ≤ 1048576 * (q : Int))) := ⟨q1, hb⟩
  have hqq3 : Hid (q ≤ 300) := (by omega : q ≤ 300)
  have B : Below w.heap.size w (w.alloc (.cells #[.int .i64 n, .slice a m cap] 24)) := balloc (Below.refl _ _) _
  have E := hE.kept B
  have Z := hz.kept B
  have K := Gb.new w n a m cap
  obtain ⟨w0, hw0⟩ : ∃ w0, w.alloc (.cells #[.int .i64 n, .slice a m cap] 24) = w0 := ⟨_, rfl⟩
  rw [hw0] at B E K Z
  obtain ⟨g0, g1⟩ := id K
  clear hE hz hG hm hL hb q1 qn hzp hA hr hGS hGN hGW hBS hBN hBW
  go_enter Try.func4, Try.ntmps4
  go_wp2_with (first
    | (go_at_call 11; refine (k11.out _ trivial).mono ?_; rintro e vk11 ⟨rfl, bb⟩; clear k11; replace E := E.kept bb; replace K := K.kept bb; replace Z := Z.kept bb; replace B := bthen B bb; clear g0 g1; obtain ⟨g0, g1⟩ := id K)
    | (go_at_call 7; refine (k7.out _ E).mono ?_; rintro e vk7 ⟨P, Q, rfl, hLo, hPq, bb⟩; clear k7; replace E := E.kept bb; replace K := K.kept bb; replace Z := Z.kept bb; replace B := bthen B bb; replace E := E.alloc (.cells #[.int .i64 P, .int .i64 Q] 26); replace K := K.alloc (.cells #[.int .i64 P, .int .i64 Q] 26); replace Z := Z.alloc (.cells #[.int .i64 P, .int .i64 Q] 26); replace B := balloc B (.cells #[.int .i64 P, .int .i64 Q] 26); have Fq := Fr.new vk7 vk7.heap.size rfl P Q; clear g0 g1; obtain ⟨g0, g1⟩ := id K)
    | (go_at_call 9; refine (k9.out _ E).mono ?_; rintro e vk9 ⟨g, o, k, c, R, rfl, hR, hkc, C, bb⟩; clear k9; replace E := E.kept bb; replace K := K.kept bb; replace Z := Z.kept bb; replace Fq := Fq.kept bb; replace B := bthen B bb; have hlo := low_le hLo hqq.out.1 hPq hqq.out.2; have hXX := just_frac hqq.out.1 hPq hR.just; have hsr := nsum_range hgh.out.wgt R k (fun j hj => (hR.wok j hj).1); have hkn := hR.kn; have hk1 := hR.k1; have hq3 := hqq3.out; have dQ : decide (Q < 1) = false := decide_eq_false (by omega); have prs := prod_in (x := nsum es R k) (y := Q) (by omega) (by omega) (by omega) (by omega); have wX : wrap64 (nsum es R k * Q) = nsum es R k * Q := IntWalk.wrap64_in _ (by omega); have wY : wrap64 (P * (k : Int)) = nsum es R k * Q := (by rw [← hXX]; exact IntWalk.wrap64_in _ (by omega)); have dX : (nsum es R k * Q != nsum es R k * Q) = false := bne_self_eq_false _; clear prs hXX hsr; obtain ⟨f0, f1, _, _⟩ := id Fq; clear g0 g1; obtain ⟨g0, g1⟩ := id K)
    | (go_at_call 13; refine (k13.out g o k c R hR _ E C).mono ?_; rintro e vk13 ⟨rfl, bb⟩; clear k13; replace E := E.kept bb; replace K := K.kept bb; replace Z := Z.kept bb; replace Fq := Fq.kept bb; replace C := C.kept bb; replace B := bthen B bb; clear f0 f1; obtain ⟨f0, f1, _, _⟩ := id Fq; clear g0 g1; obtain ⟨g0, g1⟩ := id K)
    | (go_at_call 12; refine (k12.out g o k c R hR _ E C).mono ?_; rintro e vk12 ⟨rfl, bb⟩; clear k12; replace E := E.kept bb; replace K := K.kept bb; replace Z := Z.kept bb; replace Fq := Fq.kept bb; replace C := C.kept bb; replace B := bthen B bb; clear f0 f1; obtain ⟨f0, f1, _, _⟩ := id Fq; clear g0 g1; obtain ⟨g0, g1⟩ := id K)
    | (go_at_call 13; refine (k13l.out _ E Z).mono ?_; rintro e vk13l ⟨rfl, bb⟩; clear k13l; replace E := E.kept bb; replace K := K.kept bb; replace Z := Z.kept bb; replace Fq := Fq.kept bb; replace C := C.kept bb; replace B := bthen B bb; clear f0 f1; obtain ⟨f0, f1, _, _⟩ := id Fq; clear g0 g1; obtain ⟨g0, g1⟩ := id K)
    | (go_at_call 12; refine (k12l.out _ E Z).mono ?_; rintro e vk12l ⟨rfl, bb⟩; clear k12l; replace E := E.kept bb; replace K := K.kept bb; replace Z := Z.kept bb; replace Fq := Fq.kept bb; replace C := C.kept bb; replace B := bthen B bb; clear f0 f1; obtain ⟨f0, f1, _, _⟩ := id Fq; clear g0 g1; obtain ⟨g0, g1⟩ := id K))
  go_ret
  exact ⟨rfl, B⟩

theorem meanMost_all (hGS : GSome) (hGN : GNone) (hGW : GWrong) (hBS : BSome) (hBN : BNone) (hBW : BWrong) (N : Int) (a : Option Addr) (cap : Nat) (L : List Ed) (a1 : Option Addr) (cap1 : Nat) (z : List Int) (hu : z.length ≤ 1048576) (w : World) (hE : ERow w a L) (hl : L.length ≤ 9223372036854775807) (hz : Row w a1 z) :
    Calls Try.prog 4 #[.agg #[.int .i64 N, .slice a L.length cap], .slice a1 z.length cap1] w fun e w' => e = .returned (.bool true) ∧ Below w.heap.size w w' := by
  by_cases hg : grt N L
  · obtain ⟨n, es, rfl, rfl, hG⟩ := grt_gph hg
    rw [List.length_map]
    by_cases hc : ∃ l, Cyc es l
    · obtain ⟨p, q, q1, qn, hb, hL⟩ := lam_all hG hc
      by_cases hr : Rnz es z z.length
      · exact most_y hGS hGN hGW hBS hBN hBW n es hG p q q1 qn hb hL a cap _ rfl a1 cap1 _ z rfl hu w hz hr hE
      · exact most_f hGS hGN hGW hBS hBN hBW n es hG p q q1 qn hb hL a cap _ rfl a1 cap1 _ z rfl hu w hz hr hE
    · exact most_n hGS hGN hGW hBS hBN hBW n es hG hc a cap _ rfl a1 cap1 _ z rfl hu w hz hE
  · exact most_w hGS hGN hGW hBS hBN hBW N a cap L a1 cap1 _ z rfl hu w hz hE hl hg

end Go.Proofs.Ytdbpgcaodgkcjaa
