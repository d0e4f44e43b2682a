/- PROVED: PotentialHigh: heights are no matter: with each edge so much lighter as it climbs there is a way round just as before. CONDITIONS: none. -/
import Derived.Test.YtikcjlignnfkdaaTold
import Derived.Test.YtikcjlignnfkdaaFar
import Derived.Test.YtikcjlignnfkdaaAlv
import Derived.Test.YtikcjlignnfkdaaHig
import Derived.Deep.RegionHeld3
namespace Go.Proofs.Ytikcjlignnfkdaa.Z
open Go.RowKit
set_option linter.unusedVariables false

attribute [local go_sem ↓] appe_whole

set_option maxHeartbeats 6400000 in
theorem high_w (N : Int) (a : Option Addr) (cap : Nat) (L : List Ed) (a1 : Option Addr) (cap1 p : Nat) (w : World) (hE : ERow w a L) (hl : L.length ≤ 9223372036854775807) (hg : ¬ grt N L) :
    Calls Try.prog 8 #[.agg #[.int .i64 N, .slice a L.length cap], .slice a1 p cap1] w fun e w' => e = .returned (.bool true) ∧ Below w.heap.size w w' := by
  have c12 : Hid (∀ v, ERow v a L → Calls Try.prog 12 #[.agg #[.int .i64 N, .slice a L.length cap]] v fun e w' => e = .returned (.int .i64 2) ∧ Below v.heap.size v w') := fun v h => by have := wrong_any N a cap L v h hl; rw [gwr_no hg] at this; exact this
  generalize L.length = m at *
  have B : Below w.heap.size w (w.alloc (.cells #[.int .i64 N, .slice a m cap] 24)) := balloc (Below.refl _ _) _
  have E := hE.kept B
  have K := Gb.new w N a m cap
  have c17 : Hid (∀ v : World, True → Calls Try.prog 17 #[] v fun e w' => e = .returned (.bool true) ∧ Below v.heap.size v w') := fun v _ => alive_any v
  obtain ⟨w0, hw0⟩ : ∃ w0, w.alloc (.cells #[.int .i64 N, .slice a m cap] 24) = w0 := ⟨_, rfl⟩
  rw [hw0] at B E K
  obtain ⟨g0, g1⟩ := id K
  clear hE hg
  go_enter Try.func8, Try.ntmps8
  go_wp2_with (first
    | (go_at_call 17; refine (c17.out _ trivial).mono ?_; rintro e v17 ⟨rfl, bb⟩; clear c17; replace E := E.kept bb; replace K := K.kept bb; replace B := bthen B bb; clear g0 g1; obtain ⟨g0, g1⟩ := id K)
    | (go_at_call 12; refine (c12.out _ E).mono ?_; rintro e v12 ⟨rfl, bb⟩; clear c12; replace E := E.kept bb; replace K := K.kept bb; replace B := bthen B bb; clear g0 g1; obtain ⟨g0, g1⟩ := id K))
  go_ret
  exact ⟨rfl, B⟩

set_option maxHeartbeats 6400000 in
theorem high_l (n : Nat) (es : List Eg) (hG : Gph n es) (a : Option Addr) (cap m : Nat) (hm : es.length = m) (a1 : Option Addr) (cap1 p : Nat) (z : List Int) (hzp : z.length = p) (hl : p ≤ 9223372036854775807) (w : World) (hE : GRow w a es) (hz : Row w a1 z) (hpn : p ≠ n) :
    Calls Try.prog 8 #[.agg #[.int .i64 n, .slice a m cap], .slice a1 p cap1] w fun e w' => e = .returned (.bool true) ∧ Below w.heap.size w w' := by
  have n3 := hG.n3
  have m4 : m ≤ 4800 := by rw [← hm]; exact hG.m4
  have c12 : Hid (∀ v, GRow v a es → Calls Try.prog 12 #[.agg #[.int .i64 n, .slice a m cap]] v fun e w' => e = .returned (.int .i64 0) ∧ Below v.heap.size v w') := fun v h => wrong_yes n es hG a cap m hm v h
  have d0 : ((p : Int) != (n : Int)) = true := bne_iff_ne.2 (by omega)
  have B : Below w.heap.size w (w.alloc (.cells #[.int .i64 n, .slice a m cap] 24)) := balloc (Below.refl _ _) _
  have E := hE.kept B
  have K := Gb.new w n a m cap
  have c17 : Hid (∀ v : World, True → Calls Try.prog 17 #[] v fun e w' => e = .returned (.bool true) ∧ Below v.heap.size v w') := fun v _ => alive_any v
  obtain ⟨w0, hw0⟩ : ∃ w0, w.alloc (.cells #[.int .i64 n, .slice a m cap] 24) = w0 := ⟨_, rfl⟩
  rw [hw0] at B E K
  obtain ⟨g0, g1⟩ := id K
  clear hE hG hm hz hzp hpn
  go_enter Try.func8, Try.ntmps8
  go_wp2_with (first
    | (go_at_call 17; refine (c17.out _ trivial).mono ?_; rintro e v17 ⟨rfl, bb⟩; clear c17; replace E := E.kept bb; replace K := K.kept bb; replace B := bthen B bb; clear g0 g1; obtain ⟨g0, g1⟩ := id K)
    | (go_at_call 12; refine (c12.out _ E).mono ?_; rintro e v12 ⟨rfl, bb⟩; clear c12; replace E := E.kept bb; replace K := K.kept bb; replace B := bthen B bb; clear g0 g1; obtain ⟨g0, g1⟩ := id K))
  go_ret
  exact ⟨rfl, B⟩

set_option maxHeartbeats 6400000 in
theorem high_g (n : Nat) (es : List Eg) (hG : Gph n es) (a : Option Addr) (cap m : Nat) (hm : es.length = m) (a1 : Option Addr) (cap1 p : Nat) (z : List Int) (hzp : z.length = p) (hl : p ≤ 9223372036854775807) (w : World) (hE : GRow w a es) (hz : Row w a1 z) (hpn : p = n) :
    Calls Try.prog 8 #[.agg #[.int .i64 n, .slice a m cap], .slice a1 p cap1] w fun e w' => e = .returned (.bool true) ∧ Below w.heap.size w w' := by
  have n3 := hG.n3
  have m4 : m ≤ 4800 := by rw [← hm]; exact hG.m4
  have c12 : Hid (∀ v, GRow v a es → Calls Try.prog 12 #[.agg #[.int .i64 n, .slice a m cap]] v fun e w' => e = .returned (.int .i64 0) ∧ Below v.heap.size v w') := fun v h => wrong_yes n es hG a cap m hm v h
  have hgh : Hid (Gph n es) := hG
  have hlm : Hid (es.length = m) := hm
  have hzz : Hid (z.length = p) := hzp
  have hpn2 : Hid (p = n) := hpn
  have d0 : ((p : Int) != (n : Int)) = false := by rw [hpn]; exact bne_self_eq_false _
  have c17 : Hid (∀ v : World, True → Calls Try.prog 17 #[] v fun e w' => e = .returned (.bool true) ∧ Below v.heap.size v w') := fun v _ => alive_any v
  have c12h : Hid (∀ v ao cp, ERow v ao (hL es z m) → Calls Try.prog 12 #[.agg #[.int .i64 n, .slice ao m cp]] v fun e w' => e = .returned (.int .i64 (gwr n (hL es z m))) ∧ Below v.heap.size v w') := fun v ao cp h => by
    have := wrong_any n ao cp (hL es z m) v h (by rw [hL_len (by omega)]; omega)
    rw [hL_len (by omega)] at this
    exact this
  have ccyc : Hid (gwr n (hL es z m) = 0 → ∃ r : Int, (∀ v, GRow v a es → Calls Try.prog 16 #[.agg #[.int .i64 n, .slice a m cap]] v fun e w' => ∃ x q c, e = .returned (.tuple #[.slice x q c, .int .i64 r]) ∧ Below v.heap.size v w') ∧ (∀ v ao cp, ERow v ao (hL es z m) → Calls Try.prog 16 #[.agg #[.int .i64 n, .slice ao m cp]] v fun e w' => ∃ x q c, e = .returned (.tuple #[.slice x q c, .int .i64 r]) ∧ Below v.heap.size v w')) := fun hgw => by
    have hh : hL es z m = (hes es z).map upE := by rw [← hm]; exact hL_all es z
    rw [hh] at hgw ⊢
    have hgr : grt (n : Int) ((hes es z).map upE) := Classical.byContradiction fun q => by rw [gwr_no q] at hgw; omega
    have hG2 := hes_gph hG hgr
    have hm2 : (hes es z).length = m := by rw [hes_len]; exact hm
    by_cases hp : noPos es
    · exact ⟨3, fun v h => (cycle_yes n es hG a cap m hm hp v h).mono fun e w' ⟨h1, h2⟩ => ⟨none, 0, 0, h1, h2⟩, fun v ao cp h => (cycle_yes n (hes es z) hG2 ao cp m hm2 ((hes_noPos es z).2 hp) v h).mono fun e w' ⟨h1, h2⟩ => ⟨none, 0, 0, h1, h2⟩⟩
    · exact ⟨0, fun v h => (cycle_no n es hG a cap m hm hp v h).mono fun e w' ⟨g, p, c, R, h1, _, _, _, h2⟩ => ⟨some ⟨g, 0, none⟩, p, c, h1, h2⟩, fun v ao cp h => (cycle_no n (hes es z) hG2 ao cp m hm2 (fun q => hp ((hes_noPos es z).1 q)) v h).mono fun e w' ⟨g, p, c, R, h1, _, _, _, h2⟩ => ⟨some ⟨g, 0, none⟩, p, c, h1, h2⟩⟩
  have B : Below w.heap.size w (w.alloc (.cells #[.int .i64 n, .slice a m cap] 24)) := balloc (Below.refl _ _) _
  have E := hE.kept B
  have K := Gb.new w n a m cap
  have Z := hz.kept B
  obtain ⟨w0, hw0⟩ : ∃ w0, w.alloc (.cells #[.int .i64 n, .slice a m cap] 24) = w0 := ⟨_, rfl⟩
  rw [hw0] at B E K Z
  obtain ⟨g0, g1⟩ := id K
  clear hE hG hm hz hzp hpn
  go_enter Try.func8, Try.ntmps8
  go_wp2_with (first
    | (go_at_call 17; refine (c17.out _ trivial).mono ?_; rintro e v17 ⟨rfl, bb⟩; replace Z := Z.kept bb; clear c17; replace E := E.kept bb; replace K := K.kept bb; replace B := bthen B bb; clear g0 g1; obtain ⟨g0, g1⟩ := id K)
    | (go_at_call 12; refine (c12.out _ E).mono ?_; rintro e v12 ⟨rfl, bb⟩; replace Z := Z.kept bb; clear c12; replace E := E.kept bb; replace K := K.kept bb; replace B := bthen B bb; clear g0 g1; obtain ⟨g0, g1⟩ := id K; have hst := Hb.start v12 (n : Int); obtain ⟨h0, h1, h2, _, _, _⟩ := id hst; obtain ⟨g2, g3⟩ := id (K.alloc (.cells #[.int .i64 n, .slice none 0 0] 24))))
  clear h0 h1 h2 g2 g3 g0 g1 d0
  go_loopw [30] (fun i wr => ∃ (j : Nat) (ao : Option Addr) (cp : Nat), j ≤ m ∧ i = .int .i64 j ∧ Hb v12 wr v12.heap.size n ao cp (hL es z j)) (fun i _ => m - (intOf i).toNat)
  case atStart => exact ⟨0, none, 0, Nat.zero_le _, rfl, hst⟩
  case round =>
    obtain ⟨j, ao, cp, hj, rfl, hH⟩ := hrel
    clear hst
    have hB := hH.bel
    by_cases hlt : j < m
    · have q1 := hlm.out
      have q2 := hzz.out
      have q3 := hpn2.out
      have G := hgh.out
      have hin := G.inn _ (eg_mem (es := es) (i := j) (by omega))
      have hx := G.wgt _ (eg_mem (es := es) (i := j) (by omega))
      obtain ⟨b, off, rfl, e1⟩ := (E.kept hB).at (by omega)
      obtain ⟨cx1, cy1, cz1⟩ := e1 j (by omega)
      have hjI : (j : Int) < (m : Int) := by omega
      have hnx := hL_succ (es := es) (z := z) (k := j) (by omega)
      have hlj := hL_len (es := es) (z := z) (k := j) (by omega)
      obtain ⟨⟨f, t, x⟩, he⟩ : ∃ e, eg es j = e := ⟨_, rfl⟩
      rw [he] at cx1 cy1 cz1 hin hx hnx
      simp only at cx1 cy1 cz1 hin hx
      replace hnx : Hid (hL es z (j + 1) = hL es z j ++ [⟨(f : Int), (t : Int), x + z.getD f 0 - z.getD t 0⟩]) := hnx
      clear e1 q1 G he
      obtain ⟨b1', o1', hb1, e0⟩ := Z.at (by omega)
      have hZb1 : b1' < v12.heap.size := block_lt (e0 f (by omega))
      clear e0
      obtain ⟨b1, o1, hb2, e3⟩ := ((Z.kept hB).alloc (.cells #[.int .i64 (f : Int), .int .i64 (t : Int), .int .i64 x] 37)).at (by omega)
      have hZb : b1 < v12.heap.size := by rw [hb1] at hb2; injection hb2 with hb2; injection hb2 with hb2 _ _; omega
      subst hb2
      clear hb1 hZb1
      have yf := e3 f (by omega)
      have yt := e3 t (by omega)
      have x0 : (wr.alloc (.cells #[.int .i64 (f : Int), .int .i64 (t : Int), .int .i64 x] 37)).cell? ⟨wr.heap.size, 0, none⟩ = some (.int .i64 f) := by rw [World.cell?_alloc_at _ _ _ _ rfl]; rfl
      have x1 : (wr.alloc (.cells #[.int .i64 (f : Int), .int .i64 (t : Int), .int .i64 x] 37)).cell? ⟨wr.heap.size, 1, none⟩ = some (.int .i64 t) := by rw [World.cell?_alloc_at _ _ _ _ rfl]; rfl
      have x2 : (wr.alloc (.cells #[.int .i64 (f : Int), .int .i64 (t : Int), .int .i64 x] 37)).cell? ⟨wr.heap.size, 2, none⟩ = some (.int .i64 x) := by rw [World.cell?_alloc_at _ _ _ _ rfl]; rfl
      have hH3 := hH.kept (balloc (Below.refl _ _) (.cells #[.int .i64 (f : Int), .int .i64 (t : Int), .int .i64 x] 37))
      obtain ⟨W1, hW1⟩ : ∃ W1, wr.alloc (.cells #[.int .i64 (f : Int), .int .i64 (t : Int), .int .i64 x] 37) = W1 := ⟨_, rfl⟩
      rw [hW1] at x0 x1 x2 hH3 yf yt
      have hBw := bthen B hH3.bel
      have hbz : b1 < v12.heap.size := hZb
      have hEq : Hid (some wr.heap.size ≠ Value.ownBlock (.slice ao j cp) ∧ some b1 ≠ Value.ownBlock (.slice ao j cp)) := (by
        have ho := hH.own.lt
        rw [hlj] at ho
        exact ⟨fun q => by have := (ho _ q.symm).2; omega, fun q => by have := (ho _ q.symm).1; omega⟩ : some wr.heap.size ≠ Value.ownBlock (.slice ao j cp) ∧ some b1 ≠ Value.ownBlock (.slice ao j cp))
      have hEq2 : Hid (¬ v12.heap.size = wr.heap.size ∧ ¬ v12.heap.size = b1) := (by have := hH.lt; omega : ¬ v12.heap.size = wr.heap.size ∧ ¬ v12.heap.size = b1)
      have fI : (f : Int) < (p : Int) := by omega
      have tI : (t : Int) < (p : Int) := by omega
      obtain ⟨zf, hzf⟩ : ∃ zf, z.getD f 0 = zf := ⟨_, rfl⟩
      obtain ⟨zt, hzt⟩ : ∃ zt, z.getD t 0 = zt := ⟨_, rfl⟩
      rw [hzf] at yf hnx
      rw [hzt] at yt hnx
      clear e3 q2 q3 hH hB hzf hzt
      by_cases k1 : 262144 < zf
      · have e1 : decide (262144 < zf) = true := decide_eq_true k1
        clear hH3 hnx
        go_wp2
        go_ret
        exact ⟨rfl, hBw⟩
      · have e1 : decide (262144 < zf) = false := decide_eq_false k1
        by_cases k2 : zf < -262144
        · have e2 : decide (zf < -262144) = true := decide_eq_true k2
          clear hH3 hnx
          go_wp2
          go_ret
          exact ⟨rfl, hBw⟩
        · have e2 : decide (zf < -262144) = false := decide_eq_false k2
          by_cases k3 : 262144 < zt
          · have e3 : decide (262144 < zt) = true := decide_eq_true k3
            clear hH3 hnx
            go_wp2
            go_ret
            exact ⟨rfl, hBw⟩
          · have e3 : decide (262144 < zt) = false := decide_eq_false k3
            by_cases k4 : zt < -262144
            · have e4 : decide (zt < -262144) = true := decide_eq_true k4
              clear hH3 hnx
              go_wp2
              go_ret
              exact ⟨rfl, hBw⟩
            · have e4 : decide (zt < -262144) = false := decide_eq_false k4
              obtain ⟨h0, h1, h2, _, _, _⟩ := id hH3
              rw [hlj] at h1
              obtain ⟨S1, hS1⟩ : ∃ S1, x + zf = S1 := ⟨_, rfl⟩
              obtain ⟨S2, hS2⟩ : ∃ S2, S1 - zt = S2 := ⟨_, rfl⟩
              have w1 : IntKind.i64.wrap (x + zf) = S1 := by rw [← hS1]; exact wrap_in (by omega)
              have w2 : IntKind.i64.wrap (S1 - zt) = S2 := by rw [← hS2]; exact wrap_in (by omega)
              have w3 : wrap64 (x + zf) = S1 := by rw [← hS1]; exact IntWalk.wrap64_in _ (by omega)
              have w4 : wrap64 (S1 - zt) = S2 := by rw [← hS2]; exact IntWalk.wrap64_in _ (by omega)
              obtain ⟨g, cap2, w2', hrun, r0, ⟨u, r1⟩, r2, hfar, hN⟩ := hH3.drawn hlj (by omega) (f : Int) (t : Int) S2
              replace hN : Hid (Hb v12 (w2'.setCell ⟨v12.heap.size, 1, none⟩ (.slice (some ⟨g, 0, none⟩) (j + 1) cap2)) v12.heap.size n (some ⟨g, 0, none⟩) cap2 (hL es z (j + 1))) := by rw [hnx.out, hS1, hS2]; exact hN
              replace hS1 : Hid _ := hS1
              replace hS2 : Hid _ := hS2
              have hEo : some wr.heap.size ≠ Value.ownBlock (.slice ao j cp) := hEq.out.1
              have hZo : some b1 ≠ Value.ownBlock (.slice ao j cp) := hEq.out.2
              have hEO : ¬ v12.heap.size = wr.heap.size := hEq2.out.1
              have hZO : ¬ v12.heap.size = b1 := hEq2.out.2
              obtain ⟨a0, a1, a2, a3, a4⟩ := lit_keeps x0 x1 x2 yf yt (.cells #[.int .i64 (f : Int), .int .i64 (t : Int), .int .i64 S2] 37)
              have b0 := hfar _ _ x0 hEo
              have b2 := hfar _ _ x1 hEo
              have b3 := hfar _ _ x2 hEo
              have b4 := hfar _ _ yf hZo
              have b5 := hfar _ _ yt hZo
              have d0 := far_set hEO b0 1 (.slice (some ⟨g, 0, none⟩) (j + 1) cap2)
              have d1 := far_set hEO b2 1 (.slice (some ⟨g, 0, none⟩) (j + 1) cap2)
              have d2 := far_set hEO b3 1 (.slice (some ⟨g, 0, none⟩) (j + 1) cap2)
              have d3 := far_set hZO b4 1 (.slice (some ⟨g, 0, none⟩) (j + 1) cap2)
              have d4 := far_set hZO b5 1 (.slice (some ⟨g, 0, none⟩) (j + 1) cap2)
              have h1a : (W1.alloc (.cells #[.int .i64 (f : Int), .int .i64 (t : Int), .int .i64 S2] 37)).cell? ⟨v12.heap.size, 1, none⟩ = some (.slice ao j cp) := ((balloc (Below.refl W1.heap.size W1) (.cells #[.int .i64 (f : Int), .int .i64 (t : Int), .int .i64 S2] 37)).cell (p := ⟨v12.heap.size, 1, none⟩) (block_lt h1)).trans h1
              clear hfar hH3 hnx k1 k2 k3 k4 hlj hEo hZo
              go_wp2
              refine wp_region_noPanic ?_
              refine wp_region_held_drew (S := fun w' => w'.cell? ⟨wr.heap.size, 0, none⟩ = some (.int .i64 (f : Int)) ∧ w'.cell? ⟨wr.heap.size, 1, none⟩ = some (.int .i64 (t : Int)) ∧ w'.cell? ⟨wr.heap.size, 2, none⟩ = some (.int .i64 x) ∧ w'.cell? ⟨b1, o1 + f, none⟩ = some (.int .i64 zf) ∧ w'.cell? ⟨b1, o1 + t, none⟩ = some (.int .i64 zt)) (by kernel_rfl) ⟨x0, x1, x2, yf, yt⟩ (fun hHeld => ?_)
              refine wpAnyH_take (i := 0) (v := .pointer (some ⟨v12.heap.size, 1, none⟩)) rfl (by kernel_rfl) (by kernel_rfl) (by kernel_rfl) (fun _ _ _ h => h) (Or.inl ⟨by rfl, by intro ww hSw; obtain ⟨s0, s1, s2, s3, s4⟩ := hSw; go_simp⟩) hHeld ?_
              try simp only [Act.put]
              refine wpAnyH_take (i := 2) (v := .pointer (some ⟨wr.heap.size, 0, none⟩)) rfl (by kernel_rfl) (by kernel_rfl) (by kernel_rfl) (fun _ _ _ h => h) (Or.inl ⟨by rfl, by intro ww hSw; obtain ⟨s0, s1, s2, s3, s4⟩ := hSw; go_simp⟩) hHeld ?_
              try simp only [Act.put]
              refine wpAnyH_take (i := 3) (v := .int .i64 (f : Int)) rfl (by kernel_rfl) (by kernel_rfl) (by kernel_rfl) (fun _ _ _ h => h) (Or.inl ⟨by rfl, by intro ww hSw; obtain ⟨s0, s1, s2, s3, s4⟩ := hSw; go_simp⟩) hHeld ?_
              try simp only [Act.put]
              refine wpAnyH_take (i := 4) (v := .pointer (some ⟨wr.heap.size, 1, none⟩)) rfl (by kernel_rfl) (by kernel_rfl) (by kernel_rfl) (fun _ _ _ h => h) (Or.inl ⟨by rfl, by intro ww hSw; obtain ⟨s0, s1, s2, s3, s4⟩ := hSw; go_simp⟩) hHeld ?_
              try simp only [Act.put]
              refine wpAnyH_take (i := 5) (v := .int .i64 (t : Int)) rfl (by kernel_rfl) (by kernel_rfl) (by kernel_rfl) (fun _ _ _ h => h) (Or.inl ⟨by rfl, by intro ww hSw; obtain ⟨s0, s1, s2, s3, s4⟩ := hSw; go_simp⟩) hHeld ?_
              try simp only [Act.put]
              refine wpAnyH_take (i := 6) (v := .pointer (some ⟨wr.heap.size, 2, none⟩)) rfl (by kernel_rfl) (by kernel_rfl) (by kernel_rfl) (fun _ _ _ h => h) (Or.inl ⟨by rfl, by intro ww hSw; obtain ⟨s0, s1, s2, s3, s4⟩ := hSw; go_simp⟩) hHeld ?_
              try simp only [Act.put]
              refine wpAnyH_take (i := 7) (v := .int .i64 x) rfl (by kernel_rfl) (by kernel_rfl) (by kernel_rfl) (fun _ _ _ h => h) (Or.inl ⟨by rfl, by intro ww hSw; obtain ⟨s0, s1, s2, s3, s4⟩ := hSw; go_simp⟩) hHeld ?_
              try simp only [Act.put]
              refine wpAnyH_take (i := 8) (v := .slice (some ⟨b1, o1, none⟩) p cap1) rfl (by kernel_rfl) (by kernel_rfl) (by kernel_rfl) (fun _ _ _ h => h) (Or.inl ⟨by rfl, by intro ww hSw; obtain ⟨s0, s1, s2, s3, s4⟩ := hSw; go_simp⟩) hHeld ?_
              try simp only [Act.put]
              refine wpAnyH_take (i := 9) (v := .pointer (some ⟨wr.heap.size, 0, none⟩)) rfl (by kernel_rfl) (by kernel_rfl) (by kernel_rfl) (fun _ _ _ h => h) (Or.inl ⟨by rfl, by intro ww hSw; obtain ⟨s0, s1, s2, s3, s4⟩ := hSw; go_simp⟩) hHeld ?_
              try simp only [Act.put]
              refine wpAnyH_take (i := 10) (v := .int .i64 (f : Int)) rfl (by kernel_rfl) (by kernel_rfl) (by kernel_rfl) (fun _ _ _ h => h) (Or.inl ⟨by rfl, by intro ww hSw; obtain ⟨s0, s1, s2, s3, s4⟩ := hSw; go_simp⟩) hHeld ?_
              try simp only [Act.put]
              refine wpAnyH_take (i := 11) (v := .pointer (some ⟨b1, o1 + f, none⟩)) rfl (by kernel_rfl) (by kernel_rfl) (by kernel_rfl) (fun _ _ _ h => h) (Or.inl ⟨by rfl, by intro ww hSw; obtain ⟨s0, s1, s2, s3, s4⟩ := hSw; go_simp⟩) hHeld ?_
              try simp only [Act.put]
              refine wpAnyH_take (i := 12) (v := .int .i64 zf) rfl (by kernel_rfl) (by kernel_rfl) (by kernel_rfl) (fun _ _ _ h => h) (Or.inl ⟨by rfl, by intro ww hSw; obtain ⟨s0, s1, s2, s3, s4⟩ := hSw; go_simp⟩) hHeld ?_
              try simp only [Act.put]
              refine wpAnyH_take (i := 13) (v := .int .i64 S1) rfl (by kernel_rfl) (by kernel_rfl) (by kernel_rfl) (fun _ _ _ h => h) (Or.inl ⟨by rfl, by intro ww hSw; obtain ⟨s0, s1, s2, s3, s4⟩ := hSw; go_simp⟩) hHeld ?_
              try simp only [Act.put]
              refine wpAnyH_take (i := 14) (v := .slice (some ⟨b1, o1, none⟩) p cap1) rfl (by kernel_rfl) (by kernel_rfl) (by kernel_rfl) (fun _ _ _ h => h) (Or.inl ⟨by rfl, by intro ww hSw; obtain ⟨s0, s1, s2, s3, s4⟩ := hSw; go_simp⟩) hHeld ?_
              try simp only [Act.put]
              refine wpAnyH_take (i := 15) (v := .pointer (some ⟨wr.heap.size, 1, none⟩)) rfl (by kernel_rfl) (by kernel_rfl) (by kernel_rfl) (fun _ _ _ h => h) (Or.inl ⟨by rfl, by intro ww hSw; obtain ⟨s0, s1, s2, s3, s4⟩ := hSw; go_simp⟩) hHeld ?_
              try simp only [Act.put]
              refine wpAnyH_take (i := 16) (v := .int .i64 (t : Int)) rfl (by kernel_rfl) (by kernel_rfl) (by kernel_rfl) (fun _ _ _ h => h) (Or.inl ⟨by rfl, by intro ww hSw; obtain ⟨s0, s1, s2, s3, s4⟩ := hSw; go_simp⟩) hHeld ?_
              try simp only [Act.put]
              refine wpAnyH_take (i := 17) (v := .pointer (some ⟨b1, o1 + t, none⟩)) rfl (by kernel_rfl) (by kernel_rfl) (by kernel_rfl) (fun _ _ _ h => h) (Or.inl ⟨by rfl, by intro ww hSw; obtain ⟨s0, s1, s2, s3, s4⟩ := hSw; go_simp⟩) hHeld ?_
              try simp only [Act.put]
              refine wpAnyH_take (i := 18) (v := .int .i64 zt) rfl (by kernel_rfl) (by kernel_rfl) (by kernel_rfl) (fun _ _ _ h => h) (Or.inl ⟨by rfl, by intro ww hSw; obtain ⟨s0, s1, s2, s3, s4⟩ := hSw; go_simp⟩) hHeld ?_
              try simp only [Act.put]
              refine wpAnyH_take (i := 19) (v := .int .i64 S2) rfl (by kernel_rfl) (by kernel_rfl) (by kernel_rfl) (fun _ _ _ h => h) (Or.inl ⟨by rfl, by intro ww hSw; obtain ⟨s0, s1, s2, s3, s4⟩ := hSw; go_simp⟩) hHeld ?_
              try simp only [Act.put]
              refine wpAnyH_take (i := 20) (v := .agg #[.int .i64 (f : Int), .int .i64 (t : Int), .int .i64 S2]) rfl (by kernel_rfl) (by kernel_rfl) (by kernel_rfl) (fun _ _ _ h => h) (Or.inl ⟨by rfl, by intro ww hSw; obtain ⟨s0, s1, s2, s3, s4⟩ := hSw; go_simp⟩) hHeld ?_
              try simp only [Act.put]
              refine wpAnyH_ready (rs := [1, 21]) (by kernel_rfl) (by simp) ?_
              refine AllReadyH.cons rfl (fun K hK => ?_) ?_
              · go_simp
                refine hK.out _ _ ⟨x0, x1, x2, yf, yt⟩ (fun hHeld => ?_)
                clear hK K
                try simp only [Act.put]
                refine wpAnyH_ready (rs := [21]) (by kernel_rfl) (by simp) ?_
                refine AllReadyH.cons rfl (fun K hK => ?_) AllReadyH.nil
                go_simp
                refine hK.out _ _ ⟨a0, a1, a2, a3, a4⟩ (fun hHeld => ?_)
                clear hK K
                try simp only [Act.put]
                refine wpAnyH_ready (rs := [22]) (by kernel_rfl) (by simp) ?_
                refine AllReadyH.cons rfl (fun K hK => ?_) AllReadyH.nil
                go_simp
                refine hK.out _ _ ⟨b0, b2, b3, b4, b5⟩ (fun hHeld => ?_)
                clear hK K
                try simp only [Act.put]
                refine wpAnyH_take (i := 23) (v := .pointer (some ⟨v12.heap.size, 1, none⟩)) rfl (by kernel_rfl) (by kernel_rfl) (by kernel_rfl) (fun _ _ _ h => h) (Or.inl ⟨by rfl, by intro ww hSw; go_simp⟩) hHeld ?_
                try simp only [Act.put]
                refine wpAnyH_ready (rs := [24]) (by kernel_rfl) (by simp) ?_
                refine AllReadyH.cons rfl (fun K hK => ?_) AllReadyH.nil
                go_simp
                refine hK.out _ _ ⟨d0, d1, d2, d3, d4⟩ (fun hHeld => ?_)
                clear hK K
                try simp only [Act.put]
                refine wpAnyH_done (by kernel_rfl) ?_ _
                refine NoPanic.normal ?_
                go_wp2
                go_roundw
                case rel => exact ⟨j + 1, some ⟨g, 0, none⟩, cap2, by omega, by go_num, hN.out⟩
                case measure => simp [intOf]; omega
              · refine AllReadyH.cons rfl (fun K hK => ?_) AllReadyH.nil
                go_simp
                refine hK.out _ _ ⟨a0, a1, a2, a3, a4⟩ (fun hHeld => ?_)
                clear hK K
                try simp only [Act.put]
                refine wpAnyH_ready (rs := [1]) (by kernel_rfl) (by simp) ?_
                refine AllReadyH.cons rfl (fun K hK => ?_) AllReadyH.nil
                go_simp
                refine hK.out _ _ ⟨a0, a1, a2, a3, a4⟩ (fun hHeld => ?_)
                clear hK K
                try simp only [Act.put]
                refine wpAnyH_ready (rs := [22]) (by kernel_rfl) (by simp) ?_
                refine AllReadyH.cons rfl (fun K hK => ?_) AllReadyH.nil
                go_simp
                refine hK.out _ _ ⟨b0, b2, b3, b4, b5⟩ (fun hHeld => ?_)
                clear hK K
                try simp only [Act.put]
                refine wpAnyH_take (i := 23) (v := .pointer (some ⟨v12.heap.size, 1, none⟩)) rfl (by kernel_rfl) (by kernel_rfl) (by kernel_rfl) (fun _ _ _ h => h) (Or.inl ⟨by rfl, by intro ww hSw; go_simp⟩) hHeld ?_
                try simp only [Act.put]
                refine wpAnyH_ready (rs := [24]) (by kernel_rfl) (by simp) ?_
                refine AllReadyH.cons rfl (fun K hK => ?_) AllReadyH.nil
                go_simp
                refine hK.out _ _ ⟨d0, d1, d2, d3, d4⟩ (fun hHeld => ?_)
                clear hK K
                try simp only [Act.put]
                refine wpAnyH_done (by kernel_rfl) ?_ _
                refine NoPanic.normal ?_
                go_wp2
                go_roundw
                case rel => exact ⟨j + 1, some ⟨g, 0, none⟩, cap2, by omega, by go_num, hN.out⟩
                case measure => simp [intOf]; omega
    · obtain rfl : j = m := by omega
      have hr := hH.row
      have hlj := hL_len (es := es) (z := z) (k := j) (by rw [hlm.out]; exact Nat.le_refl _)
      obtain ⟨h0, h1, _, _, _, _⟩ := id hH
      rw [hlj] at h1
      have hBw := bthen B hB
      have c12 := c12h.out wr ao cp hr
      have K2 := K.kept hB
      have E2 := E.kept hB
      obtain ⟨g0, g1⟩ := id K2
      by_cases hgw : gwr n (hL es z j) = 0
      · rw [hgw] at c12
        obtain ⟨r, cc1, cc2⟩ := ccyc.out hgw
        have d0 : (r == r) = true := beq_self_eq_true _
        replace cc1 : Hid _ := cc1
        replace cc2 : Hid _ := cc2
        have T1 := True.intro
        clear hgw
        go_wp2_with (first
          | (go_at_call 12; refine c12.mono ?_; rintro e v1 ⟨rfl, bb⟩; clear c12; replace hH := hH.kept bb; replace K2 := K2.kept bb; replace E2 := E2.kept bb; replace hBw := bthen hBw bb; clear h0 h1 g0 g1; obtain ⟨h0, h1, _, _, _, _⟩ := id hH; rw [hlj] at h1; obtain ⟨g0, g1⟩ := id K2)
          | (go_at_call 16; clear T1; refine (cc1.out _ E2).mono ?_; rintro e v2 ⟨xx, qq, cc, rfl, bb⟩; clear cc1; replace hH := hH.kept bb; replace hBw := bthen hBw bb; clear h0 h1 g0 g1; obtain ⟨h0, h1, _, _, _, _⟩ := id hH; rw [hlj] at h1; have hr2 := hH.row)
          | (go_at_call 16; refine (cc2.out _ _ _ hr2).mono ?_; rintro e v3 ⟨x3, q3, c3, rfl, bb⟩; clear cc2; replace hBw := bthen hBw bb))
        go_ret
        exact ⟨rfl, hBw⟩
      · have hg2 : gwr n (hL es z j) = 2 := by unfold gwr at hgw ⊢; split at hgw; (omega); (rename_i q; rw [if_neg q])
        rw [hg2] at c12
        clear hgw hg2 ccyc
        go_wp2_with (go_at_call 12; refine c12.mono ?_; rintro e v1 ⟨rfl, bb⟩; clear c12; replace hBw := bthen hBw bb)
        go_ret
        exact ⟨rfl, hBw⟩

theorem potentialHigh_walk (N : Int) (a : Option Addr) (cap : Nat) (L : List Ed) (a1 : Option Addr) (cap1 : Nat) (z : List Int) (w : World) (hE : FarE w a cap L) (hz : FarS w a1 cap1 z) :
    Calls Try.prog 8 #[.agg #[.int .i64 N, .slice a L.length cap], .slice a1 z.length cap1] w fun e w' => e = .returned (.bool true) ∧ Below w.heap.size w w' := by
  by_cases hg : grt N L
  · obtain ⟨n, es, rfl, rfl, hG⟩ := grt_gph hg
    rw [List.length_map]
    by_cases hpn : z.length = n
    · exact high_g n es hG a cap _ rfl a1 cap1 _ z rfl (by have := hz.2; omega) w hE.1 hz.1 hpn
    · exact high_l n es hG a cap _ rfl a1 cap1 _ z rfl (by have := hz.2; omega) w hE.1 hz.1 hpn
  · exact high_w N a cap L a1 cap1 _ w hE.1 (by have := hE.2; omega) hg

end Go.Proofs.Ytikcjlignnfkdaa.Z
namespace Go.Proofs.Ytikcjlignnfkdaa.potentialHigh
open Go.ChangeShapes Go.WideShapes Go.ChangeAt Go.RowKit Z
set_option linter.unusedVariables false

set_option maxRecDepth 100000 in
theorem lifted (os : Os) (started : os.Started) (H : Type) (enc : TypeId × Value → H) :
    ReturnsInHanded {} Try.checked os 8 .any (Rows.potentialHighSpec.pre6 enc Try.prog Try.f8 Rows.potentialHighRow.domain false) (Rows.potentialHighSpec.post enc Try.prog Try.f8 false true false false) := by
  refine returnsInHanded_of_change_sized (C := Try.checked) own started (by kernel_rfl) Try.func8
    (ChangeSpec.witness6 (enc := enc) (C := Try.checked) false ⟨#[], #[.agg #[.int .i64 0, .slice none 0 0], .slice none 0 0], []⟩ 8 (by kernel_rfl) (by kernel_rfl) (by kernel_rfl) (by kernel_rfl)) ?_
  intro W base args ds gs before hval0 hW _ hsz0 _
  have hval : ∀ (j : Nat) t v, Try.f8.params[j]? = some t → args[j]? = some v → Value.okWide Try.prog W .any base t v := hval0
  have hW' := hW
  obtain ⟨p, q, hA0, hV, rfl, hfz, hnd⟩ := hW
  have hA : DataW.TrodAll enc Try.prog W 0 (fun _ => true) true Try.f8.params.toList args.toList ds p := hA0
  rw [Try.params8] at hA hval
  obtain ⟨v0, vs0, d0, ds0, p0, q0, hargs, rfl, rfl, h0, r0⟩ := trodAll_cons hA
  obtain ⟨v1, vs1, d1, ds1, p1, q1, rfl, rfl, rfl, h1, r1⟩ := trodAll_cons r0
  obtain ⟨rfl, rfl, rfl⟩ := trodAll_nil r1
  obtain rfl : args = #[v0, v1] := by cases args; simp_all
  obtain ⟨rfl, rfl⟩ := trodVars_none hV
  have k0 := h0
  have lt0 : ∀ x ∈ p0, x.block < W.heap.size := by obtain ⟨m, hm⟩ := k0; exact DataW.trod_lt m _ _ _ hm
  obtain ⟨x0_0, a0, cap0, z0, rfl, w0⟩ := openG (hval 0 24 v0 rfl rfl) h0
  have k1 := h1
  have lt1 : ∀ x ∈ p1, x.block < W.heap.size := by obtain ⟨m, hm⟩ := k1; exact DataW.trod_lt m _ _ _ hm
  obtain ⟨a1, len1, cap1, rfl⟩ := okWide_slice Try.underlying25 (hval 1 25 v1 rfl rfl)
  obtain ⟨z1, rfl, w1, e1⟩ := farS h1
  clear hA0 hval0 hsz0
  refine (potentialHigh_walk x0_0 a0 cap0 z0 a1 cap1 z1 W w0 w1).mono fun e W' ⟨he, bel⟩ => ?_
  subst he
  exact ⟨_, rfl, _, _, _, [], _, [], hW', trodAll_mk1 (shut_bool Try.underlying4 _), (trodAll_cons_mk (Below.trod laidOut (by kernel_rfl) (of_decide_eq_true (by kernel_rfl)) k0 bel lt0) (trodAll_cons_mk (Below.trod laidOut (by kernel_rfl) (of_decide_eq_true (by kernel_rfl)) k1 bel lt1) trodAll_mk0)), rfl, bel.frame _, fun h => by cases h⟩

theorem proved : Rows.PotentialHighSaid :=
  OpenClaim.holds_of_wide 8 Try.f8 rfl rfl rfl rfl rfl rfl rfl ⟨rfl, rfl, rfl, rfl, rfl⟩ rfl rfl rfl rfl rfl (by kernel_rfl) Try.func8 (by kernel_rfl)
    (of_decide_eq_true (by kernel_rfl)) (by unfold Func.isWrapper; first | (rw [if_pos (by decide +kernel)]; kernel_rfl) | (rw [if_neg (by decide +kernel)]; exact ⟨rfl, rfl⟩))
    (fun os started H enc _ => lifted os started H enc)

end Go.Proofs.Ytikcjlignnfkdaa.potentialHigh
namespace Go.Proofs.Ytikcjlignnfkdaa
theorem potentialHigh_holds : Rows.PotentialHighSaid := potentialHigh.proved
#print axioms potentialHigh_holds
end Go.Proofs.Ytikcjlignnfkdaa
