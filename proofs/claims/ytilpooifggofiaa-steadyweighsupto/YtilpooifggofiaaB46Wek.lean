/- PROVED: tidewaitkeep.SteadyWeighs at who = 1, over what States, Graph and Play answer. CONDITIONS: what they answer. -/
import Derived.Test.YtilpooifggofiaaB38Gf
import Derived.Test.YtilpooifggofiaaB44Con
import Derived.BigQuiet
namespace Go.Proofs.Ytilpooifggofiaa.D
open Go.RowKit K
set_option linter.unusedVariables false

set_option maxRecDepth 100000 in
set_option maxHeartbeats 12800000 in
theorem wei_go1 (r : Ru) (ratio : Int) (hra : 1 ≤ ratio ∧ ratio ≤ 100) (q E T len N : Nat) (hq : r.j + 1 = (q : Int)) (hqE : (q : Int) * (q : Int) = (E : Int)) (hq4 : q ≤ 4) (hE16 : E ≤ 16) (hT : (E : Int) * (len : Int) = (T : Int)) (hll : len ≤ 300) (L : List Sx) (hlen : L.length = len) (A : Nat → Nat) (hA0 : A 0 = 0) (hA : ∀ k, k ≤ N → A k < len) (z : Sx) (R : List Rx) (hRN : R.length = N) (hN : N ≤ 1048576) (hRb : ∀ k, k < N → (0 ≤ (R.getD k R0).c0 ∧ (R.getD k R0).c0 ≤ 1000) ∧ (0 ≤ (R.getD k R0).c1 ∧ (R.getD k R0).c1 ≤ 1000))
    (a : Option Addr) (cap : Nat) (ls : List (Int × Int)) (hlN : ls.length = N) (w : World) (hv : VRow w a ls)
    (al : ∀ v, Calls Try.prog 16 #[] v fun e w' => e = .returned (.bool true) ∧ Below v.heap.size v w')
    (st : ∀ v, Calls Try.prog 8 #[.agg #[.int .i64 r.k0, .int .i64 r.k1, .int .i64 r.r, .int .i64 r.m, .int .i64 r.j]] v fun e w' => ∃ g cp, e = .returned (.tuple #[.slice (some ⟨g, 0, none⟩) len cp, .int .i64 0]) ∧ len ≤ cp ∧ (∀ i s, L[i]? = some s → Sat w' g (i * 14) s) ∧ Below v.heap.size v w')
    (gr : ∀ v, Calls Try.prog 10 #[.agg #[.int .i64 r.k0, .int .i64 r.k1, .int .i64 r.r, .int .i64 r.m, .int .i64 r.j], .int .i64 1, .int .i64 ratio] v fun e w' => ∃ h c, e = .returned (.tuple #[.agg #[.int .i64 len, .slice (some ⟨h, 0, none⟩) T c], .int .i64 0]) ∧ T ≤ c ∧ (∀ k x y, k < N → (x, y) = ls.getD k (0, 0) → ∃ (X Y u : Nat), x = X ∧ y = Y ∧ X ≤ 3 ∧ Y ≤ 3 ∧ E * A k + X * q + Y = u ∧ u < T ∧ EAt w' h (u * 3) (A k : Int) (A (k + 1) : Int) ((R.getD k R0).c1 - ratio * (R.getD k R0).c0)) ∧ Below v.heap.size v w')
    (pl : ∀ v, VRow v a ls → Calls Try.prog 17 #[.agg #[.int .i64 r.k0, .int .i64 r.k1, .int .i64 r.r, .int .i64 r.m, .int .i64 r.j], .slice a N cap] v fun e w' => ∃ ao rc, e = .returned (.tuple #[.slice ao N rc, .agg #[.int .i64 z.f0.k, .int .i64 z.f0.n, .int .i64 z.f0.b, .int .i64 z.f0.a, .int .i64 z.f0.s, .int .i64 z.f0.q, .int .i64 z.f1.k, .int .i64 z.f1.n, .int .i64 z.f1.b, .int .i64 z.f1.a, .int .i64 z.f1.s, .int .i64 z.f1.q, .int .i64 z.w0, .int .i64 z.w1], .int .i64 0]) ∧ RRow w' ao R ∧ Below v.heap.size v w') :
    Calls Try.prog 6 #[.agg #[.int .i64 r.k0, .int .i64 r.k1, .int .i64 r.r, .int .i64 r.m, .int .i64 r.j], .int .i64 1, .int .i64 ratio, .slice a N cap] w fun e w' => e = .returned (.bool true) ∧ Below w.heap.size w w' := by
  have X := Rul.new w _ rfl r.k0 r.k1 r.r r.m r.j
  have B : Below w.heap.size w (w.alloc (.cells #[.int .i64 r.k0, .int .i64 r.k1, .int .i64 r.r, .int .i64 r.m, .int .i64 r.j] 24)) := balloc (Below.refl _ _) _
  replace hv := hv.alloc (.cells #[.int .i64 r.k0, .int .i64 r.k1, .int .i64 r.r, .int .i64 r.m, .int .i64 r.j] 24)
  have hTl : T ≤ 4800 := by
    have h1 : E * len ≤ 16 * 300 := Nat.mul_le_mul hE16 hll
    have h2 : ((E * len : Nat) : Int) = (T : Int) := by rw [Int.natCast_mul]; exact hT
    omega
  have hwE : IntKind.i64.wrap (E : Int) = (E : Int) := wrapIn (by omega)
  have hwT : IntKind.i64.wrap (T : Int) = (T : Int) := wrapIn (by omega)
  have hwq : IntKind.i64.wrap (q : Int) = (q : Int) := wrapIn (by omega)
  obtain ⟨x0, x1, x2, x3, x4, _, _, _, _, _⟩ := id X
  replace hA : Hid _ := hA
  replace hRb : Hid _ := hRb
  replace hlen : Hid _ := hlen
  replace hRN : Hid _ := hRN
  replace hlN : Hid _ := hlN
  replace hA0 : Hid _ := hA0
  go_enter Try.func6, Try.ntmps6
  go_wp2_with (first
    | (go_at_call 16; refine (al _).mono ?_; clear al x0 x1 x2 x3 x4; rintro e v1 ⟨rfl, b⟩; replace X := X.kept b; replace hv := hv.kept b; replace B := bthen B b; obtain ⟨x0, x1, x2, x3, x4, _, _, _, _, _⟩ := id X)
    | (go_at_call 8; refine (st _).mono ?_; clear st x0 x1 x2 x3 x4; rintro e v1 ⟨g, cp, rfl, hcp, hsts, b⟩; replace hsts : Hid (∀ i s, L[i]? = some s → Sat v1 g (i * 14) s) := hsts; replace X := X.kept b; replace hv := hv.kept b; replace B := bthen B b; obtain ⟨x0, x1, x2, x3, x4, _, _, _, _, _⟩ := id X)
    | (go_at_call 10; refine (gr _).mono ?_; clear gr x0 x1 x2 x3 x4; rintro e v2 ⟨h, c, rfl, hTc, hed, b⟩; replace hed : Hid (∀ k x y, k < N → (x, y) = ls.getD k (0, 0) → ∃ (X Y u : Nat), x = X ∧ y = Y ∧ X ≤ 3 ∧ Y ≤ 3 ∧ E * A k + X * q + Y = u ∧ u < T ∧ EAt (v2.alloc (.cells #[.int .i64 len, .slice (some ⟨h, 0, none⟩) T c] 40)) h (u * 3) (A k : Int) (A (k + 1) : Int) ((R.getD k R0).c1 - ratio * (R.getD k R0).c0)) := (fun k x y hk e => (by obtain ⟨X, Y, u, a1, a2, a3, a4, a5, a6, a7⟩ := hed k x y hk e; exact ⟨X, Y, u, a1, a2, a3, a4, a5, a6, a7.kept (balloc (Below.refl _ _) _)⟩)); replace hsts : Hid (∀ i s, L[i]? = some s → Sat (v2.alloc (.cells #[.int .i64 len, .slice (some ⟨h, 0, none⟩) T c] 40)) g (i * 14) s) := (fun i s e => (hsts.out i s e).kept (balloc b (.cells #[.int .i64 len, .slice (some ⟨h, 0, none⟩) T c] 40))); replace X := X.kept (balloc b (.cells #[.int .i64 len, .slice (some ⟨h, 0, none⟩) T c] 40)); replace hv := hv.kept (balloc b (.cells #[.int .i64 len, .slice (some ⟨h, 0, none⟩) T c] 40)); replace B := balloc (bthen B b) (.cells #[.int .i64 len, .slice (some ⟨h, 0, none⟩) T c] 40); have G0 : (v2.alloc (.cells #[.int .i64 len, .slice (some ⟨h, 0, none⟩) T c] 40)).cell? ⟨v2.heap.size, 0, none⟩ = some (.int .i64 len) := (by rw [World.cell?_alloc_at _ _ _ _ rfl]; rfl); have G1 : (v2.alloc (.cells #[.int .i64 len, .slice (some ⟨h, 0, none⟩) T c] 40)).cell? ⟨v2.heap.size, 1, none⟩ = some (.slice (some ⟨h, 0, none⟩) T c) := (by rw [World.cell?_alloc_at _ _ _ _ rfl]; rfl); have gl : v2.heap.size < (v2.alloc (.cells #[.int .i64 len, .slice (some ⟨h, 0, none⟩) T c] 40)).heap.size := (by simp); obtain ⟨x0, x1, x2, x3, x4, _, _, _, _, _⟩ := id X)
    | (go_at_call 17; refine (pl _ hv).mono ?_; clear pl x0 x1 x2 x3 x4; rintro e v3 ⟨ao, rc, rfl, hR, b⟩; have b2 := balloc b (.cells #[.int .i64 z.f0.k, .int .i64 z.f0.n, .int .i64 z.f0.b, .int .i64 z.f0.a, .int .i64 z.f0.s, .int .i64 z.f0.q, .int .i64 z.f1.k, .int .i64 z.f1.n, .int .i64 z.f1.b, .int .i64 z.f1.a, .int .i64 z.f1.s, .int .i64 z.f1.q, .int .i64 z.w0, .int .i64 z.w1] 48); replace hR := hR.alloc (.cells #[.int .i64 z.f0.k, .int .i64 z.f0.n, .int .i64 z.f0.b, .int .i64 z.f0.a, .int .i64 z.f0.s, .int .i64 z.f0.q, .int .i64 z.f1.k, .int .i64 z.f1.n, .int .i64 z.f1.b, .int .i64 z.f1.a, .int .i64 z.f1.s, .int .i64 z.f1.q, .int .i64 z.w0, .int .i64 z.w1] 48); replace X := X.kept b2; replace hv := hv.kept b2; replace B := bthen B b2; replace G1 := (b2.cell (p := ⟨v2.heap.size, 1, none⟩) gl).trans G1; replace hsts : Hid (∀ i s, L[i]? = some s → Sat (v3.alloc (.cells #[.int .i64 z.f0.k, .int .i64 z.f0.n, .int .i64 z.f0.b, .int .i64 z.f0.a, .int .i64 z.f0.s, .int .i64 z.f0.q, .int .i64 z.f1.k, .int .i64 z.f1.n, .int .i64 z.f1.b, .int .i64 z.f1.a, .int .i64 z.f1.s, .int .i64 z.f1.q, .int .i64 z.w0, .int .i64 z.w1] 48)) g (i * 14) s) := (fun i s e => (hsts.out i s e).kept b2); replace hed : Hid (∀ k x y, k < N → (x, y) = ls.getD k (0, 0) → ∃ (X Y u : Nat), x = X ∧ y = Y ∧ X ≤ 3 ∧ Y ≤ 3 ∧ E * A k + X * q + Y = u ∧ u < T ∧ EAt (v3.alloc (.cells #[.int .i64 z.f0.k, .int .i64 z.f0.n, .int .i64 z.f0.b, .int .i64 z.f0.a, .int .i64 z.f0.s, .int .i64 z.f0.q, .int .i64 z.f1.k, .int .i64 z.f1.n, .int .i64 z.f1.b, .int .i64 z.f1.a, .int .i64 z.f1.s, .int .i64 z.f1.q, .int .i64 z.w0, .int .i64 z.w1] 48)) h (u * 3) (A k : Int) (A (k + 1) : Int) ((R.getD k R0).c1 - ratio * (R.getD k R0).c0)) := (fun k x y hk e => (by obtain ⟨X, Y, u, a1, a2, a3, a4, a5, a6, a7⟩ := hed.out k x y hk e; exact ⟨X, Y, u, a1, a2, a3, a4, a5, a6, a7.kept b2⟩)); clear G0 b2 b))
  obtain ⟨W3, hW3⟩ : ∃ W3, v3.alloc (.cells #[.int .i64 z.f0.k, .int .i64 z.f0.n, .int .i64 z.f0.b, .int .i64 z.f0.a, .int .i64 z.f0.s, .int .i64 z.f0.q, .int .i64 z.f1.k, .int .i64 z.f1.n, .int .i64 z.f1.b, .int .i64 z.f1.a, .int .i64 z.f1.s, .int .i64 z.f1.q, .int .i64 z.w0, .int .i64 z.w1] 48) = W3 := ⟨_, rfl⟩
  obtain ⟨Gb, hGb⟩ : ∃ Gb, v2.heap.size = Gb := ⟨_, rfl⟩
  rw [hW3] at hR X hv B G1 hsts hed ⊢
  rw [hGb] at G1 ⊢
  clear hW3 hGb gl
  go_loopw [17, 76] (fun tv iv wr => ∃ k : Nat, k ≤ N ∧ iv = .int .i64 k ∧ tv = .int .i64 (A k : Int) ∧ Below W3.heap.size W3 wr) (fun _ iv _ => N - (intOf iv).toNat)
  case atStart => exact ⟨0, Nat.zero_le _, rfl, by rw [hA0.out]; rfl, Below.refl _ _⟩
  case round =>
    obtain ⟨k, hkN, rfl, rfl, b4⟩ := hrel
    by_cases hk : k < N
    · have hkI : (k : Int) < (N : Int) := by omega
      obtain ⟨Rb, Ro, rfl, hRk⟩ := hR.at (by rw [hRN.out]; omega)
      obtain ⟨lb, lo, rfl, hls⟩ := hv.at (by rw [hlN.out]; omega)
      have rk := (hRk k (by rw [hRN.out]; exact hk)).kept b4
      obtain ⟨x, yy, hxy⟩ : ∃ x y, (x, y) = ls.getD k (0, 0) := ⟨_, _, rfl⟩
      obtain ⟨X1, Y1, u, rfl, rfl, hX3, hY3, hu, huT, hE0⟩ := hed.out k x yy hk hxy
      obtain ⟨l0, l1⟩ := hls k (by rw [hlN.out]; exact hk)
      rw [← hxy] at l0 l1
      have hll2 : lb < W3.heap.size := block_lt l0
      have hGl2 : Gb < W3.heap.size := block_lt G1
      obtain ⟨Xr, hXr⟩ : ∃ Xr, R.getD k R0 = Xr := ⟨_, rfl⟩
      obtain ⟨Ak, hAk⟩ : ∃ Ak, A k = Ak := ⟨_, rfl⟩
      obtain ⟨Ak1, hAk1⟩ : ∃ Ak1, A (k + 1) = Ak1 := ⟨_, rfl⟩
      have ha1 : Ak < len := by rw [← hAk]; exact hA.out k (by omega)
      have ha2 : Ak1 < len := by rw [← hAk1]; exact hA.out (k + 1) (by omega)
      have hc := hRb.out k hk
      rw [hXr] at rk hE0 hc
      rw [hAk] at hu hE0 ⊢
      rw [hAk1] at hE0
      have b5 := balloc b4 (.cells #[.int .i64 Xr.s0, .int .i64 Xr.s1, .int .i64 Xr.c0, .int .i64 Xr.c1, .int .i64 Xr.l0, .int .i64 Xr.l1] 62)
      have rN := Rnd.new wr wr.heap.size rfl Xr.s0 Xr.s1 Xr.c0 Xr.c1 Xr.l0 Xr.l1
      obtain ⟨W4, hW4⟩ : ∃ W4, wr.alloc (.cells #[.int .i64 Xr.s0, .int .i64 Xr.s1, .int .i64 Xr.c0, .int .i64 Xr.c1, .int .i64 Xr.l0, .int .i64 Xr.l1] 62) = W4 := ⟨_, rfl⟩
      obtain ⟨Rn, hRn⟩ : ∃ Rn, wr.heap.size = Rn := ⟨_, rfl⟩
      rw [hW4] at b5 rN
      rw [hRn] at rN
      have hE4 := hE0.kept b5
      have g1 := (b5.cell (p := ⟨Gb, 1, none⟩) hGl2).trans G1
      have k0 := (b5.cell (p := ⟨lb, lo + k * 2, none⟩) hll2).trans l0
      have k1 := (b5.cell (p := ⟨lb, lo + k * 2 + 1, none⟩) hll2).trans l1
      obtain ⟨_, _, _, _, j4, _⟩ := X.kept b5
      obtain ⟨r0, r1, r2, r3, r4, r5⟩ := id rk
      obtain ⟨n0, n1, n2, n3, n4, n5, _⟩ := id rN
      obtain ⟨e0, e1, e2⟩ := id hE4
      obtain ⟨m1, hm1⟩ : ∃ m1, E * Ak = m1 := ⟨_, rfl⟩
      obtain ⟨m2, hm2⟩ : ∃ m2, X1 * q = m2 := ⟨_, rfl⟩
      obtain ⟨m3, hm3⟩ : ∃ m3, m1 + m2 = m3 := ⟨_, rfl⟩
      rw [hm1, hm2, hm3] at hu
      have hi1 : (E : Int) * (Ak : Int) = (m1 : Int) := by rw [← hm1, Int.natCast_mul]
      have hi2 : (X1 : Int) * (q : Int) = (m2 : Int) := by rw [← hm2, Int.natCast_mul]
      have hi3 : (m1 : Int) + (m2 : Int) = (m3 : Int) := by omega
      have hi4 : (m3 : Int) + (Y1 : Int) = (u : Int) := by omega
      have hb : m3 ≤ 4800 ∧ u ≤ 4800 := by omega
      have hw1 : IntKind.i64.wrap (m1 : Int) = (m1 : Int) := wrapIn (by omega)
      have hw2 : IntKind.i64.wrap (m2 : Int) = (m2 : Int) := wrapIn (by omega)
      have hw3 : IntKind.i64.wrap (m3 : Int) = (m3 : Int) := wrapIn (by omega)
      have hw4 : IntKind.i64.wrap (u : Int) = (u : Int) := wrapIn (by omega)
      have huI : (u : Int) < (T : Int) := by omega
      clear hRk hls rk hu hm1 hm2 hm3 hxy hE0 l0 l1
      go_wp2
      first | (go_region_held3 (fun w' => w'.cell? ⟨Gb, 1, none⟩ = some (.slice (some ⟨h, 0, none⟩) T c) ∧ w'.cell? ⟨lb, lo + k * 2, none⟩ = some (.int .i64 (X1 : Int)) ∧ w'.cell? ⟨lb, lo + k * 2 + 1, none⟩ = some (.int .i64 (Y1 : Int)) ∧ w'.cell? ⟨w.heap.size, 4, none⟩ = some (.int .i64 r.j) ∧ w'.cell? ⟨h, u * 3, none⟩ = some (.int .i64 (Ak : Int)) ∧ w'.cell? ⟨h, u * 3 + 1, none⟩ = some (.int .i64 (Ak1 : Int)) ∧ w'.cell? ⟨h, u * 3 + 2, none⟩ = some (.int .i64 (Xr.c1 - ratio * Xr.c0))) (first | exact ⟨g1, k0, k1, j4, e0, e1, e2⟩ | simp [*, World.cell?_alloc_some]) (fail)) | fail
      obtain ⟨W5, hW5⟩ : ∃ W5, (W4.alloc (.cells #[.int .i64 (Ak : Int), .int .i64 (Ak1 : Int), .int .i64 (Xr.c1 - ratio * Xr.c0)] 54)).drew = W5 := ⟨_, rfl⟩
      have b6 : Below W4.heap.size W4 W5 := by rw [← hW5]; exact Below.drew (balloc (Below.refl _ _) _)
      have en0 : W5.cell? ⟨W4.heap.size, 0, none⟩ = some (.int .i64 (Ak : Int)) := by rw [← hW5]; show (W4.alloc _).cell? _ = _; rw [World.cell?_alloc_at _ _ _ _ rfl]; rfl
      have en1 : W5.cell? ⟨W4.heap.size, 1, none⟩ = some (.int .i64 (Ak1 : Int)) := by rw [← hW5]; show (W4.alloc _).cell? _ = _; rw [World.cell?_alloc_at _ _ _ _ rfl]; rfl
      have en2 : W5.cell? ⟨W4.heap.size, 2, none⟩ = some (.int .i64 (Xr.c1 - ratio * Xr.c0)) := by rw [← hW5]; show (W4.alloc _).cell? _ = _; rw [World.cell?_alloc_at _ _ _ _ rfl]; rfl
      have rN5 := rN.kept b6
      have b7 := bthen b5 b6
      obtain ⟨En, hEn⟩ : ∃ En, W4.heap.size = En := ⟨_, rfl⟩
      rw [hEn] at en0 en1 en2 ⊢
      rw [hW5]
      clear g1 k0 k1 j4 e0 e1 e2 n0 n1 n2 n3 n4 n5 rN hE4 b6 hW5 hEn r0 r1 r2 r3 r4 r5 hW4 hRn
      obtain ⟨_, _, n2, n3, _⟩ := id rN5
      have hd1 : decide ((Ak1 : Int) < 0) = false := decide_eq_false (by omega)
      have hd2 : decide ((len : Int) ≤ (Ak1 : Int)) = false := decide_eq_false (by omega)
      have hPb : 0 ≤ ratio * Xr.c0 ∧ ratio * Xr.c0 ≤ 100 * 1000 := ⟨Int.mul_nonneg (by omega) hc.1.1, Int.mul_le_mul hra.2 hc.1.2 hc.1.1 (by omega)⟩
      have hp1 : IntKind.i64.wrap (ratio * Xr.c0) = ratio * Xr.c0 := wrapIn (by omega)
      have hp2 : IntKind.i64.wrap (Xr.c1 - ratio * Xr.c0) = Xr.c1 - ratio * Xr.c0 := wrapIn (by omega)
      go_wp2
      go_quiet (fail)
      go_wp2
      go_roundw
      case rel => exact ⟨k + 1, by omega, by go_num, by rw [hAk1], below_drewN b7 _⟩
      case measure => simp [intOf]; omega
    · obtain rfl : k = N := by omega
      have ha1 := hA.out k (Nat.le_refl _)
      obtain ⟨Ak, hAk⟩ : ∃ Ak, A k = Ak := ⟨_, rfl⟩
      rw [hAk] at ha1 ⊢
      obtain ⟨s, hs⟩ : ∃ s, L[Ak]? = some s := ⟨_, List.getElem?_eq_getElem (by rw [hlen.out]; exact ha1)⟩
      have hsat := (hsts.out Ak s hs).kept b4
      have hcon := fun v b => contains_in s L len hlen.out hll (List.mem_of_getElem? hs) g cp hcp v (fun i s' e => ((hsts.out i s' e).kept b4).kept b)
      have haI : (Ak : Int) < (len : Int) := by omega
      obtain ⟨c0, c1, c2, c3, c4, c5, c6, c7, c8, c9, c10, c11, c12, c13⟩ := id hsat
      replace hs : Hid _ := hs
      clear hsat
      go_wp2_with (go_at_call 18; refine (hcon _ (Below.refl _ _)).mono ?_; clear hcon; rintro e v4 ⟨rfl, b6⟩)
      go_ret
      exact ⟨rfl, bthen (bthen B b4) b6⟩

end Go.Proofs.Ytilpooifggofiaa.D
