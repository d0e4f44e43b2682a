/- PROVED: what the document's own SGraph answers. CONDITIONS: none beyond each theorem's own. -/
import Derived.Test.YtbnofjpiioneiaaV49Sga
namespace Go.Proofs.Ytbnofjpiioneiaa.D
open Go.RowKit K
set_option linter.unusedVariables false

set_option maxHeartbeats 6400000 in
set_option maxRecDepth 20000 in
theorem sgraph0 (r : Ru) (T len g0 c0 g1 c1 g2 c2 g3 c3 g4 c4 : Nat) (ratio : Int) (h : wrong r = 0) (hT : Dn r T) (hlen : (xp r T).1.length = len) (hra : 1 ≤ ratio ∧ ratio ≤ 100) (v : World) (hS : Spc r T g0 g1 g2 g3 g4 v) : Calls Try.prog 26 #[.agg #[.slice (some ⟨g0, 0, none⟩) len c0, .slice (some ⟨g1, 0, none⟩) T c1, .slice (some ⟨g2, 0, none⟩) T c2, .slice (some ⟨g3, 0, none⟩) T c3, .slice (some ⟨g4, 0, none⟩) T c4], .int .i64 0, .int .i64 ratio] v fun e w' => ∃ h cp, e = .returned (.agg #[.int .i64 (len : Int), .slice (some ⟨h, 0, none⟩) T cp]) ∧ T ≤ cp ∧ (∀ u, u < T → EAt w' h (u * 3) ((u / ee r : Nat) : Int) (((xp r T).2.getD u 0 : Nat) : Int) (wgt 0 ratio (K.round r ((xp r T).1.getD (u / ee r) (K.start r))))) ∧ Below v.heap.size v w' := by
  have hrg := (wrong_ok.1 h).2
  obtain ⟨_, _, he16⟩ := jj_cast hrg
  obtain ⟨hl1, hT1, hT3⟩ := dn_pos hT
  have hTb : T ≤ 4800 := Nat.le_trans hT3 (Nat.mul_le_mul_left 300 he16)
  have hSs := ga_S hT.1
  have hrt := xp_right (wrong_ok.1 h) T
  have Y := Rg2.new (v.alloc (.cells #[.slice (some ⟨g0, 0, none⟩) len c0, .slice (some ⟨g1, 0, none⟩) T c1, .slice (some ⟨g2, 0, none⟩) T c2, .slice (some ⟨g3, 0, none⟩) T c3, .slice (some ⟨g4, 0, none⟩) T c4] 67)) (v.heap.size + 1) (by simp)
  obtain ⟨W0, hW0⟩ : ∃ W0, (v.alloc (.cells #[.slice (some ⟨g0, 0, none⟩) len c0, .slice (some ⟨g1, 0, none⟩) T c1, .slice (some ⟨g2, 0, none⟩) T c2, .slice (some ⟨g3, 0, none⟩) T c3, .slice (some ⟨g4, 0, none⟩) T c4] 67)).alloc (.cells #[.int .i64 0, .slice none 0 0] 53) = W0 := ⟨_, rfl⟩
  have B : Below v.heap.size v ((v.alloc (.cells #[.slice (some ⟨g0, 0, none⟩) len c0, .slice (some ⟨g1, 0, none⟩) T c1, .slice (some ⟨g2, 0, none⟩) T c2, .slice (some ⟨g3, 0, none⟩) T c3, .slice (some ⟨g4, 0, none⟩) T c4] 67)).alloc (.cells #[.int .i64 0, .slice none 0 0] 53)) := balloc (balloc (Below.refl _ _) _) _
  have hsz : W0.heap.size = v.heap.size + 1 + 1 := by rw [← hW0]; simp
  have bP : Below (v.alloc (.cells #[.slice (some ⟨g0, 0, none⟩) len c0, .slice (some ⟨g1, 0, none⟩) T c1, .slice (some ⟨g2, 0, none⟩) T c2, .slice (some ⟨g3, 0, none⟩) T c3, .slice (some ⟨g4, 0, none⟩) T c4] 67)).heap.size (v.alloc (.cells #[.slice (some ⟨g0, 0, none⟩) len c0, .slice (some ⟨g1, 0, none⟩) T c1, .slice (some ⟨g2, 0, none⟩) T c2, .slice (some ⟨g3, 0, none⟩) T c3, .slice (some ⟨g4, 0, none⟩) T c4] 67)) ((v.alloc (.cells #[.slice (some ⟨g0, 0, none⟩) len c0, .slice (some ⟨g1, 0, none⟩) T c1, .slice (some ⟨g2, 0, none⟩) T c2, .slice (some ⟨g3, 0, none⟩) T c3, .slice (some ⟨g4, 0, none⟩) T c4] 67)).alloc (.cells #[.int .i64 0, .slice none 0 0] 53)) := balloc (Below.refl _ _) _
  have pc : ∀ j, ((v.alloc (.cells #[.slice (some ⟨g0, 0, none⟩) len c0, .slice (some ⟨g1, 0, none⟩) T c1, .slice (some ⟨g2, 0, none⟩) T c2, .slice (some ⟨g3, 0, none⟩) T c3, .slice (some ⟨g4, 0, none⟩) T c4] 67)).alloc (.cells #[.int .i64 0, .slice none 0 0] 53)).cell? ⟨v.heap.size, j, none⟩ = (#[.slice (some ⟨g0, 0, none⟩) len c0, .slice (some ⟨g1, 0, none⟩) T c1, .slice (some ⟨g2, 0, none⟩) T c2, .slice (some ⟨g3, 0, none⟩) T c3, .slice (some ⟨g4, 0, none⟩) T c4] : Array Value)[j]? := fun j => (bP.cell (p := ⟨v.heap.size, j, none⟩) (by simp)).trans (World.cell?_alloc_at _ _ _ _ rfl)
  have p0 := pc 0
  have p1 := pc 1
  have p2 := pc 2
  have p4 := pc 4
  rw [hW0] at p0 p1 p2 p4 B Y
  have hS0 := hS.kept B
  have E0 := Eg.start W0 (len : Int)
  replace p0 : W0.cell? ⟨v.heap.size, 0, none⟩ = some (.slice (some ⟨g0, 0, none⟩) len c0) := p0
  replace p1 : W0.cell? ⟨v.heap.size, 1, none⟩ = some (.slice (some ⟨g1, 0, none⟩) T c1) := p1
  replace p2 : W0.cell? ⟨v.heap.size, 2, none⟩ = some (.slice (some ⟨g2, 0, none⟩) T c2) := p2
  replace p4 : W0.cell? ⟨v.heap.size, 4, none⟩ = some (.slice (some ⟨g4, 0, none⟩) T c4) := p4
  replace hSs : Hid _ := hSs
  replace hrt : Hid _ := hrt
  replace hS0 : Hid _ := hS0
  obtain ⟨C, hC⟩ : ∃ C, W0.heap.size = C := ⟨_, rfl⟩
  rw [hC] at E0 hsz
  clear pc bP hS hlen
  have p4' : (W0.alloc (.cells #[.int .i64 (len : Int), .slice none 0 0] 53)).cell? ⟨v.heap.size, 4, none⟩ = some (.slice (some ⟨g4, 0, none⟩) T c4) := by
    exact ((balloc (Below.refl W0.heap.size W0) _).cell (p := ⟨v.heap.size, 4, none⟩) (block_lt p4)).trans p4
  go_enter Try.func26, Try.ntmps26
  go_wp2
  clear p0 p4'
  go_loopw [17] (fun iv wr => ∃ (i : Nat) (t : Value), iv = .int .i64 (i : Int) ∧ i ≤ T ∧ Eg W0 C (len : Int) t i (flE r T 0 ratio i) wr) (fun iv _ => T - (intOf iv).toNat)
  case atStart => exact ⟨0, _, rfl, Nat.zero_le _, E0⟩
  case round =>
    obtain ⟨i, t, rfl, hi, hE⟩ := hrel
    by_cases hlt : i < T
    · have hiI : (i : Int) < (T : Int) := by omega
      obtain ⟨x, tt, hx, hto, hSu⟩ := hSs.out.2 i hlt
      have hSw := Spc.kept (r := r) (T := T) (g0 := g0) (g1 := g1) (g2 := g2) (g3 := g3) (g4 := g4) (w := W0) hS0.out hE.below
      have hf := hSw.fr i hlt
      have ht := hSw.tw i hlt
      obtain ⟨y0, y1, y2, y3, y4, y5⟩ := hSw.ro i hlt
      have hrx := round_in (hrt.out x (List.mem_of_getElem? hx))
      have hgx : (xp r T).1.getD (i / ee r) (K.start r) = x := by rw [List.getD_eq_getElem?_getD, hx]; rfl
      have hgt : (xp r T).2.getD i 0 = tt := by rw [List.getD_eq_getElem?_getD, hto]; rfl
      rw [hgx] at y0 y1 y2 y3 y4 y5
      rw [hgt] at ht
      have hed : Hid (edC r T 0 ratio i = [.int .i64 ((i / ee r : Nat) : Int), .int .i64 (tt : Int), .int .i64 ((K.round r x).c0 - ratio * (K.round r x).c1)]) := by
        show _ = _
        unfold edC
        rw [hgx, hgt]
        simp [wgt]
      obtain ⟨f, hfe⟩ : ∃ f, i / ee r = f := ⟨_, rfl⟩
      rw [hfe] at hf hed
      generalize (K.round r x).s0 = q0 at *
      generalize (K.round r x).s1 = q1 at *
      generalize (K.round r x).c0 = e0 at *
      generalize (K.round r x).c1 = e1 at *
      generalize (K.round r x).l0 = q4 at *
      generalize (K.round r x).l1 = q5 at *
      have hp : 0 ≤ ratio * e1 ∧ ratio * e1 ≤ 10000 := by
        refine ⟨Int.mul_nonneg (by omega) (by omega), ?_⟩
        exact Int.le_trans (Int.mul_le_mul hra.2 (show e1 ≤ 100 by omega) (by omega) (by omega)) (by omega)
      obtain ⟨pd, hpd⟩ : ∃ pd, ratio * e1 = pd := ⟨_, rfl⟩
      rw [hpd] at hp hed
      have w1 : IntKind.i64.wrap (ratio * e1) = pd := by rw [hpd]; exact wrapIn (by omega)
      have w2 : IntKind.i64.wrap (e0 - pd) = e0 - pd := wrapIn (by omega)
      have w3 : IntKind.i64.wrap ((i : Int) + 1) = (i : Int) + 1 := wrapIn (by omega)
      have bR : Below wr.heap.size wr (wr.alloc (.cells #[.int .i64 q0, .int .i64 q1, .int .i64 e0, .int .i64 e1, .int .i64 q4, .int .i64 q5] 76)) := balloc (Below.refl _ _) _
      have k6 := hE.kept bR
      have q4' := (hE.below.cell (p := ⟨v.heap.size, 4, none⟩) (block_lt p4)).trans p4
      have r1 := (bR.cell (p := ⟨v.heap.size, 1, none⟩) (block_lt ((hE.below.cell (p := ⟨v.heap.size, 1, none⟩) (block_lt p1)).trans p1))).trans ((hE.below.cell (p := ⟨v.heap.size, 1, none⟩) (block_lt p1)).trans p1)
      have r2 := (bR.cell (p := ⟨v.heap.size, 2, none⟩) (block_lt ((hE.below.cell (p := ⟨v.heap.size, 2, none⟩) (block_lt p2)).trans p2))).trans ((hE.below.cell (p := ⟨v.heap.size, 2, none⟩) (block_lt p2)).trans p2)
      have hf6 := (bR.cell (p := ⟨g1, i, none⟩) (block_lt hf)).trans hf
      have ht6 := (bR.cell (p := ⟨g2, i, none⟩) (block_lt ht)).trans ht
      have kk : ∀ j, (wr.alloc (.cells #[.int .i64 q0, .int .i64 q1, .int .i64 e0, .int .i64 e1, .int .i64 q4, .int .i64 q5] 76)).cell? ⟨wr.heap.size, j, none⟩ = (#[.int .i64 q0, .int .i64 q1, .int .i64 e0, .int .i64 e1, .int .i64 q4, .int .i64 q5] : Array Value)[j]? := fun j => World.cell?_alloc_at _ _ _ _ rfl
      have n2 : (wr.alloc (.cells #[.int .i64 q0, .int .i64 q1, .int .i64 e0, .int .i64 e1, .int .i64 q4, .int .i64 q5] 76)).cell? ⟨wr.heap.size, 2, none⟩ = some (.int .i64 e0) := kk 2
      have n3 : (wr.alloc (.cells #[.int .i64 q0, .int .i64 q1, .int .i64 e0, .int .i64 e1, .int .i64 q4, .int .i64 q5] 76)).cell? ⟨wr.heap.size, 3, none⟩ = some (.int .i64 e1) := kk 3
      obtain ⟨W6, hW6⟩ : ∃ W6, wr.alloc (.cells #[.int .i64 q0, .int .i64 q1, .int .i64 e0, .int .i64 e1, .int .i64 q4, .int .i64 q5] 76) = W6 := ⟨_, rfl⟩
      obtain ⟨Rn, hRn⟩ : ∃ Rn, wr.heap.size = Rn := ⟨_, rfl⟩
      rw [hW6] at k6 n2 n3 r1 r2 hf6 ht6
      rw [hRn] at n2 n3
      obtain ⟨g, cap, w2', hr, u1, u2, hE2⟩ := (k6.kept (Below.drew (Below.refl _ _))).app (by omega) (f : Int) (tt : Int) (e0 - pd)
      have u0 : (W6.drew.alloc (.cells #[.int .i64 (f : Int), .int .i64 (tt : Int), .int .i64 (e0 - pd)] 63)).cell? ⟨C, 1, none⟩ = some t := (k6.kept (balloc (Below.drew (Below.refl _ _)) _)).c1
      replace hE2 : Hid (Eg W0 C (len : Int) (.slice (some ⟨g, 0, none⟩) (i + 1) cap) (i + 1) (flE r T 0 ratio (i + 1)) (w2'.setCell ⟨C, 1, none⟩ (.slice (some ⟨g, 0, none⟩) (i + 1) cap))) := by
        show Eg _ _ _ _ _ _ _
        rw [flE, hed.out]; exact hE2
      have rt := k6.c1
      clear kk hSu hx hto hrx hSw hE bR hgx hgt
      replace hr : Hid _ := hr
      replace hfe : Hid _ := hfe
      go_upto_region 5 with (fail)
      refine regionSG0 (by rfl) (by kernel_rfl) (by kernel_rfl) (by kernel_rfl) (by simp) (k := i) (by rfl) (by rw [hsz]; rfl) (by rfl) (by rfl) (by rfl) (by rfl) rt u0 r1 r2 hiI hf6 ht6 n2 n3 w1 w2 (fun ty => hr.out) u1 u2 ?_
      intro ys
      rw [show slotsOf OSG0 = [22, 23, 24, 25, 26, 27, 28, 29, 30, 31, 32, 33, 34, 35, 36, 37, 38, 39, 40, 41, 42, 43, 44, 45, 46, 47, 48, 49] from rfl]
      simp only [tA, sets]
      simp only [List.setIfInBounds_toArray, List.set_cons_succ, List.set_cons_zero]
      generalize ys 22 = z22
      generalize ys 23 = z23
      generalize ys 24 = z24
      generalize ys 25 = z25
      generalize ys 26 = z26
      generalize ys 27 = z27
      generalize ys 28 = z28
      generalize ys 29 = z29
      generalize ys 30 = z30
      generalize ys 31 = z31
      generalize ys 32 = z32
      generalize ys 33 = z33
      generalize ys 34 = z34
      generalize ys 35 = z35
      generalize ys 36 = z36
      generalize ys 37 = z37
      generalize ys 38 = z38
      generalize ys 39 = z39
      generalize ys 40 = z40
      generalize ys 41 = z41
      generalize ys 42 = z42
      generalize ys 43 = z43
      generalize ys 44 = z44
      generalize ys 45 = z45
      generalize ys 46 = z46
      generalize ys 47 = z47
      generalize ys 48 = z48
      generalize ys 49 = z49
      clear hW6 hRn k6 n2 n3 r1 r2 hf6 ht6 u0 u1 u2 rt y0 y1 y2 y3 y4 y5 q4' hr
      go_wp2
      go_roundw
      case rel => exact ⟨i + 1, .slice (some ⟨g, 0, none⟩) (i + 1) cap, by simp, by omega, by rw [← hsz]; exact hE2.out⟩
      case measure => simp [intOf]; omega
    · obtain rfl : i = T := by omega
      have hd : ¬ (i : Int) < (i : Int) := by omega
      obtain ⟨hl2, ⟨_, e2⟩ | ⟨g, cap, cu, rfl, hgb, hh, hcap, hcm, hcs, htk⟩⟩ := id hE.own
      · omega
      have c0' := hE.c0
      have c1' := hE.c1
      rw [hsz] at c0' c1'
      have Y2 := Y.kept hE.below
      have hB2 := bthen B hE.below
      obtain ⟨y0, y1, f0, f1⟩ := id Y2
      obtain ⟨z0, z1⟩ := Y2.put (.int .i64 (len : Int)) (.slice (some ⟨g, 0, none⟩) i cap)
      have hBf : Below v.heap.size v ((wr.setCell ⟨v.heap.size + 1, 0, none⟩ (.int .i64 (len : Int))).setCell ⟨v.heap.size + 1, 1, none⟩ (.slice (some ⟨g, 0, none⟩) i cap)) := Below.setCell (p := ⟨v.heap.size + 1, 1, none⟩) (Below.setCell (p := ⟨v.heap.size + 1, 0, none⟩) hB2 (by show v.heap.size ≤ v.heap.size + 1; omega) _) (by show v.heap.size ≤ v.heap.size + 1; omega) _
      have hEd : Hid (∀ u, u < i → EAt ((wr.setCell ⟨v.heap.size + 1, 0, none⟩ (.int .i64 (len : Int))).setCell ⟨v.heap.size + 1, 1, none⟩ (.slice (some ⟨g, 0, none⟩) i cap)) g (u * 3) ((u / ee r : Nat) : Int) (((xp r i).2.getD u 0 : Nat) : Int) (wgt 0 ratio (K.round r ((xp r i).1.getD (u / ee r) (K.start r))))) := fun u hu => by
        have key : ∀ j, j < 3 → ((wr.setCell ⟨v.heap.size + 1, 0, none⟩ (.int .i64 (len : Int))).setCell ⟨v.heap.size + 1, 1, none⟩ (.slice (some ⟨g, 0, none⟩) i cap)).cell? ⟨g, u * 3 + j, none⟩ = (edC r i 0 ratio u)[j]? := fun j hj => by
          rw [World.cell?_setCell_other _ _ _ _ (fun q => by have := congrArg Addr.block q; simp at this; omega), World.cell?_setCell_other _ _ _ _ (fun q => by have := congrArg Addr.block q; simp at this; omega)]
          have := flE_get r i 0 ratio i u j hu hj
          rw [← htk, List.getElem?_take_of_lt (by omega)] at this
          simp only [World.cell?, hh]
          rw [← this]
          simp
        exact ⟨key 0 (by omega), key 1 (by omega), key 2 (by omega)⟩
      have hcap' : Hid (i ≤ cap) := hcap
      clear hE Y Y2 hh hcs htk hl2 hcap hcm p1 p2 p4
      go_wp2
      refine bodyPost_ret (v := .agg #[.int .i64 (len : Int), .slice (some ⟨g, 0, none⟩) i cap]) (by simp [results, Try.results26, go_sem, z0, z1]) rfl ?_
      exact ⟨g, cap, rfl, hcap'.out, hEd.out, hBf⟩
set_option maxHeartbeats 6400000 in
set_option maxRecDepth 20000 in
theorem sgraph1 (r : Ru) (T len g0 c0 g1 c1 g2 c2 g3 c3 g4 c4 : Nat) (ratio : Int) (h : wrong r = 0) (hT : Dn r T) (hlen : (xp r T).1.length = len) (hra : 1 ≤ ratio ∧ ratio ≤ 100) (v : World) (hS : Spc r T g0 g1 g2 g3 g4 v) : Calls Try.prog 26 #[.agg #[.slice (some ⟨g0, 0, none⟩) len c0, .slice (some ⟨g1, 0, none⟩) T c1, .slice (some ⟨g2, 0, none⟩) T c2, .slice (some ⟨g3, 0, none⟩) T c3, .slice (some ⟨g4, 0, none⟩) T c4], .int .i64 1, .int .i64 ratio] v fun e w' => ∃ h cp, e = .returned (.agg #[.int .i64 (len : Int), .slice (some ⟨h, 0, none⟩) T cp]) ∧ T ≤ cp ∧ (∀ u, u < T → EAt w' h (u * 3) ((u / ee r : Nat) : Int) (((xp r T).2.getD u 0 : Nat) : Int) (wgt 1 ratio (K.round r ((xp r T).1.getD (u / ee r) (K.start r))))) ∧ Below v.heap.size v w' := by
  have hrg := (wrong_ok.1 h).2
  obtain ⟨_, _, he16⟩ := jj_cast hrg
  obtain ⟨hl1, hT1, hT3⟩ := dn_pos hT
  have hTb : T ≤ 4800 := Nat.le_trans hT3 (Nat.mul_le_mul_left 300 he16)
  have hSs := ga_S hT.1
  have hrt := xp_right (wrong_ok.1 h) T
  have Y := Rg2.new (v.alloc (.cells #[.slice (some ⟨g0, 0, none⟩) len c0, .slice (some ⟨g1, 0, none⟩) T c1, .slice (some ⟨g2, 0, none⟩) T c2, .slice (some ⟨g3, 0, none⟩) T c3, .slice (some ⟨g4, 0, none⟩) T c4] 67)) (v.heap.size + 1) (by simp)
  obtain ⟨W0, hW0⟩ : ∃ W0, (v.alloc (.cells #[.slice (some ⟨g0, 0, none⟩) len c0, .slice (some ⟨g1, 0, none⟩) T c1, .slice (some ⟨g2, 0, none⟩) T c2, .slice (some ⟨g3, 0, none⟩) T c3, .slice (some ⟨g4, 0, none⟩) T c4] 67)).alloc (.cells #[.int .i64 0, .slice none 0 0] 53) = W0 := ⟨_, rfl⟩
  have B : Below v.heap.size v ((v.alloc (.cells #[.slice (some ⟨g0, 0, none⟩) len c0, .slice (some ⟨g1, 0, none⟩) T c1, .slice (some ⟨g2, 0, none⟩) T c2, .slice (some ⟨g3, 0, none⟩) T c3, .slice (some ⟨g4, 0, none⟩) T c4] 67)).alloc (.cells #[.int .i64 0, .slice none 0 0] 53)) := balloc (balloc (Below.refl _ _) _) _
  have hsz : W0.heap.size = v.heap.size + 1 + 1 := by rw [← hW0]; simp
  have bP : Below (v.alloc (.cells #[.slice (some ⟨g0, 0, none⟩) len c0, .slice (some ⟨g1, 0, none⟩) T c1, .slice (some ⟨g2, 0, none⟩) T c2, .slice (some ⟨g3, 0, none⟩) T c3, .slice (some ⟨g4, 0, none⟩) T c4] 67)).heap.size (v.alloc (.cells #[.slice (some ⟨g0, 0, none⟩) len c0, .slice (some ⟨g1, 0, none⟩) T c1, .slice (some ⟨g2, 0, none⟩) T c2, .slice (some ⟨g3, 0, none⟩) T c3, .slice (some ⟨g4, 0, none⟩) T c4] 67)) ((v.alloc (.cells #[.slice (some ⟨g0, 0, none⟩) len c0, .slice (some ⟨g1, 0, none⟩) T c1, .slice (some ⟨g2, 0, none⟩) T c2, .slice (some ⟨g3, 0, none⟩) T c3, .slice (some ⟨g4, 0, none⟩) T c4] 67)).alloc (.cells #[.int .i64 0, .slice none 0 0] 53)) := balloc (Below.refl _ _) _
  have pc : ∀ j, ((v.alloc (.cells #[.slice (some ⟨g0, 0, none⟩) len c0, .slice (some ⟨g1, 0, none⟩) T c1, .slice (some ⟨g2, 0, none⟩) T c2, .slice (some ⟨g3, 0, none⟩) T c3, .slice (some ⟨g4, 0, none⟩) T c4] 67)).alloc (.cells #[.int .i64 0, .slice none 0 0] 53)).cell? ⟨v.heap.size, j, none⟩ = (#[.slice (some ⟨g0, 0, none⟩) len c0, .slice (some ⟨g1, 0, none⟩) T c1, .slice (some ⟨g2, 0, none⟩) T c2, .slice (some ⟨g3, 0, none⟩) T c3, .slice (some ⟨g4, 0, none⟩) T c4] : Array Value)[j]? := fun j => (bP.cell (p := ⟨v.heap.size, j, none⟩) (by simp)).trans (World.cell?_alloc_at _ _ _ _ rfl)
  have p0 := pc 0
  have p1 := pc 1
  have p2 := pc 2
  have p4 := pc 4
  rw [hW0] at p0 p1 p2 p4 B Y
  have hS0 := hS.kept B
  have E0 := Eg.start W0 (len : Int)
  replace p0 : W0.cell? ⟨v.heap.size, 0, none⟩ = some (.slice (some ⟨g0, 0, none⟩) len c0) := p0
  replace p1 : W0.cell? ⟨v.heap.size, 1, none⟩ = some (.slice (some ⟨g1, 0, none⟩) T c1) := p1
  replace p2 : W0.cell? ⟨v.heap.size, 2, none⟩ = some (.slice (some ⟨g2, 0, none⟩) T c2) := p2
  replace p4 : W0.cell? ⟨v.heap.size, 4, none⟩ = some (.slice (some ⟨g4, 0, none⟩) T c4) := p4
  replace hSs : Hid _ := hSs
  replace hrt : Hid _ := hrt
  replace hS0 : Hid _ := hS0
  obtain ⟨C, hC⟩ : ∃ C, W0.heap.size = C := ⟨_, rfl⟩
  rw [hC] at E0 hsz
  clear pc bP hS hlen
  have p4' : (W0.alloc (.cells #[.int .i64 (len : Int), .slice none 0 0] 53)).cell? ⟨v.heap.size, 4, none⟩ = some (.slice (some ⟨g4, 0, none⟩) T c4) := by
    exact ((balloc (Below.refl W0.heap.size W0) _).cell (p := ⟨v.heap.size, 4, none⟩) (block_lt p4)).trans p4
  go_enter Try.func26, Try.ntmps26
  go_wp2
  clear p0 p4'
  go_loopw [17] (fun iv wr => ∃ (i : Nat) (t : Value), iv = .int .i64 (i : Int) ∧ i ≤ T ∧ Eg W0 C (len : Int) t i (flE r T 1 ratio i) wr) (fun iv _ => T - (intOf iv).toNat)
  case atStart => exact ⟨0, _, rfl, Nat.zero_le _, E0⟩
  case round =>
    obtain ⟨i, t, rfl, hi, hE⟩ := hrel
    by_cases hlt : i < T
    · have hiI : (i : Int) < (T : Int) := by omega
      obtain ⟨x, tt, hx, hto, hSu⟩ := hSs.out.2 i hlt
      have hSw := Spc.kept (r := r) (T := T) (g0 := g0) (g1 := g1) (g2 := g2) (g3 := g3) (g4 := g4) (w := W0) hS0.out hE.below
      have hf := hSw.fr i hlt
      have ht := hSw.tw i hlt
      obtain ⟨y0, y1, y2, y3, y4, y5⟩ := hSw.ro i hlt
      have hrx := round_in (hrt.out x (List.mem_of_getElem? hx))
      have hgx : (xp r T).1.getD (i / ee r) (K.start r) = x := by rw [List.getD_eq_getElem?_getD, hx]; rfl
      have hgt : (xp r T).2.getD i 0 = tt := by rw [List.getD_eq_getElem?_getD, hto]; rfl
      rw [hgx] at y0 y1 y2 y3 y4 y5
      rw [hgt] at ht
      have hed : Hid (edC r T 1 ratio i = [.int .i64 ((i / ee r : Nat) : Int), .int .i64 (tt : Int), .int .i64 ((K.round r x).c1 - ratio * (K.round r x).c0)]) := by
        show _ = _
        unfold edC
        rw [hgx, hgt]
        simp [wgt]
      obtain ⟨f, hfe⟩ : ∃ f, i / ee r = f := ⟨_, rfl⟩
      rw [hfe] at hf hed
      generalize (K.round r x).s0 = q0 at *
      generalize (K.round r x).s1 = q1 at *
      generalize (K.round r x).c0 = e0 at *
      generalize (K.round r x).c1 = e1 at *
      generalize (K.round r x).l0 = q4 at *
      generalize (K.round r x).l1 = q5 at *
      have hp : 0 ≤ ratio * e0 ∧ ratio * e0 ≤ 10000 := by
        refine ⟨Int.mul_nonneg (by omega) (by omega), ?_⟩
        exact Int.le_trans (Int.mul_le_mul hra.2 (show e0 ≤ 100 by omega) (by omega) (by omega)) (by omega)
      obtain ⟨pd, hpd⟩ : ∃ pd, ratio * e0 = pd := ⟨_, rfl⟩
      rw [hpd] at hp hed
      have w1 : IntKind.i64.wrap (ratio * e0) = pd := by rw [hpd]; exact wrapIn (by omega)
      have w2 : IntKind.i64.wrap (e1 - pd) = e1 - pd := wrapIn (by omega)
      have w3 : IntKind.i64.wrap ((i : Int) + 1) = (i : Int) + 1 := wrapIn (by omega)
      have bR : Below wr.heap.size wr (wr.alloc (.cells #[.int .i64 q0, .int .i64 q1, .int .i64 e0, .int .i64 e1, .int .i64 q4, .int .i64 q5] 76)) := balloc (Below.refl _ _) _
      have k6 := hE.kept bR
      have q4' := (hE.below.cell (p := ⟨v.heap.size, 4, none⟩) (block_lt p4)).trans p4
      have r1 := (bR.cell (p := ⟨v.heap.size, 1, none⟩) (block_lt ((hE.below.cell (p := ⟨v.heap.size, 1, none⟩) (block_lt p1)).trans p1))).trans ((hE.below.cell (p := ⟨v.heap.size, 1, none⟩) (block_lt p1)).trans p1)
      have r2 := (bR.cell (p := ⟨v.heap.size, 2, none⟩) (block_lt ((hE.below.cell (p := ⟨v.heap.size, 2, none⟩) (block_lt p2)).trans p2))).trans ((hE.below.cell (p := ⟨v.heap.size, 2, none⟩) (block_lt p2)).trans p2)
      have hf6 := (bR.cell (p := ⟨g1, i, none⟩) (block_lt hf)).trans hf
      have ht6 := (bR.cell (p := ⟨g2, i, none⟩) (block_lt ht)).trans ht
      have kk : ∀ j, (wr.alloc (.cells #[.int .i64 q0, .int .i64 q1, .int .i64 e0, .int .i64 e1, .int .i64 q4, .int .i64 q5] 76)).cell? ⟨wr.heap.size, j, none⟩ = (#[.int .i64 q0, .int .i64 q1, .int .i64 e0, .int .i64 e1, .int .i64 q4, .int .i64 q5] : Array Value)[j]? := fun j => World.cell?_alloc_at _ _ _ _ rfl
      have n2 : (wr.alloc (.cells #[.int .i64 q0, .int .i64 q1, .int .i64 e0, .int .i64 e1, .int .i64 q4, .int .i64 q5] 76)).cell? ⟨wr.heap.size, 2, none⟩ = some (.int .i64 e0) := kk 2
      have n3 : (wr.alloc (.cells #[.int .i64 q0, .int .i64 q1, .int .i64 e0, .int .i64 e1, .int .i64 q4, .int .i64 q5] 76)).cell? ⟨wr.heap.size, 3, none⟩ = some (.int .i64 e1) := kk 3
      obtain ⟨W6, hW6⟩ : ∃ W6, wr.alloc (.cells #[.int .i64 q0, .int .i64 q1, .int .i64 e0, .int .i64 e1, .int .i64 q4, .int .i64 q5] 76) = W6 := ⟨_, rfl⟩
      obtain ⟨Rn, hRn⟩ : ∃ Rn, wr.heap.size = Rn := ⟨_, rfl⟩
      rw [hW6] at k6 n2 n3 r1 r2 hf6 ht6
      rw [hRn] at n2 n3
      obtain ⟨g, cap, w2', hr, u1, u2, hE2⟩ := (k6.kept (Below.drew (Below.refl _ _))).app (by omega) (f : Int) (tt : Int) (e1 - pd)
      have u0 : (W6.drew.alloc (.cells #[.int .i64 (f : Int), .int .i64 (tt : Int), .int .i64 (e1 - pd)] 63)).cell? ⟨C, 1, none⟩ = some t := (k6.kept (balloc (Below.drew (Below.refl _ _)) _)).c1
      replace hE2 : Hid (Eg W0 C (len : Int) (.slice (some ⟨g, 0, none⟩) (i + 1) cap) (i + 1) (flE r T 1 ratio (i + 1)) (w2'.setCell ⟨C, 1, none⟩ (.slice (some ⟨g, 0, none⟩) (i + 1) cap))) := by
        show Eg _ _ _ _ _ _ _
        rw [flE, hed.out]; exact hE2
      have rt := k6.c1
      clear kk hSu hx hto hrx hSw hE bR hgx hgt
      replace hr : Hid _ := hr
      replace hfe : Hid _ := hfe
      go_upto_region 5 with (fail)
      refine regionSG1 (by rfl) (by kernel_rfl) (by kernel_rfl) (by kernel_rfl) (by simp) (k := i) (by rfl) (by rw [hsz]; rfl) (by rfl) (by rfl) (by rfl) (by rfl) rt u0 r1 r2 hiI hf6 ht6 n2 n3 w1 w2 (fun ty => hr.out) u1 u2 ?_
      intro ys
      rw [show slotsOf OSG1 = [22, 23, 24, 25, 26, 27, 28, 29, 30, 31, 32, 33, 34, 35, 36, 37, 38, 39, 40, 41, 42, 43, 44, 45, 46, 47, 48, 49] from rfl]
      simp only [tA, sets]
      simp only [List.setIfInBounds_toArray, List.set_cons_succ, List.set_cons_zero]
      generalize ys 22 = z22
      generalize ys 23 = z23
      generalize ys 24 = z24
      generalize ys 25 = z25
      generalize ys 26 = z26
      generalize ys 27 = z27
      generalize ys 28 = z28
      generalize ys 29 = z29
      generalize ys 30 = z30
      generalize ys 31 = z31
      generalize ys 32 = z32
      generalize ys 33 = z33
      generalize ys 34 = z34
      generalize ys 35 = z35
      generalize ys 36 = z36
      generalize ys 37 = z37
      generalize ys 38 = z38
      generalize ys 39 = z39
      generalize ys 40 = z40
      generalize ys 41 = z41
      generalize ys 42 = z42
      generalize ys 43 = z43
      generalize ys 44 = z44
      generalize ys 45 = z45
      generalize ys 46 = z46
      generalize ys 47 = z47
      generalize ys 48 = z48
      generalize ys 49 = z49
      clear hW6 hRn k6 n2 n3 r1 r2 hf6 ht6 u0 u1 u2 rt y0 y1 y2 y3 y4 y5 q4' hr
      go_wp2
      go_roundw
      case rel => exact ⟨i + 1, .slice (some ⟨g, 0, none⟩) (i + 1) cap, by simp, by omega, by rw [← hsz]; exact hE2.out⟩
      case measure => simp [intOf]; omega
    · obtain rfl : i = T := by omega
      have hd : ¬ (i : Int) < (i : Int) := by omega
      obtain ⟨hl2, ⟨_, e2⟩ | ⟨g, cap, cu, rfl, hgb, hh, hcap, hcm, hcs, htk⟩⟩ := id hE.own
      · omega
      have c0' := hE.c0
      have c1' := hE.c1
      rw [hsz] at c0' c1'
      have Y2 := Y.kept hE.below
      have hB2 := bthen B hE.below
      obtain ⟨y0, y1, f0, f1⟩ := id Y2
      obtain ⟨z0, z1⟩ := Y2.put (.int .i64 (len : Int)) (.slice (some ⟨g, 0, none⟩) i cap)
      have hBf : Below v.heap.size v ((wr.setCell ⟨v.heap.size + 1, 0, none⟩ (.int .i64 (len : Int))).setCell ⟨v.heap.size + 1, 1, none⟩ (.slice (some ⟨g, 0, none⟩) i cap)) := Below.setCell (p := ⟨v.heap.size + 1, 1, none⟩) (Below.setCell (p := ⟨v.heap.size + 1, 0, none⟩) hB2 (by show v.heap.size ≤ v.heap.size + 1; omega) _) (by show v.heap.size ≤ v.heap.size + 1; omega) _
      have hEd : Hid (∀ u, u < i → EAt ((wr.setCell ⟨v.heap.size + 1, 0, none⟩ (.int .i64 (len : Int))).setCell ⟨v.heap.size + 1, 1, none⟩ (.slice (some ⟨g, 0, none⟩) i cap)) g (u * 3) ((u / ee r : Nat) : Int) (((xp r i).2.getD u 0 : Nat) : Int) (wgt 1 ratio (K.round r ((xp r i).1.getD (u / ee r) (K.start r))))) := fun u hu => by
        have key : ∀ j, j < 3 → ((wr.setCell ⟨v.heap.size + 1, 0, none⟩ (.int .i64 (len : Int))).setCell ⟨v.heap.size + 1, 1, none⟩ (.slice (some ⟨g, 0, none⟩) i cap)).cell? ⟨g, u * 3 + j, none⟩ = (edC r i 1 ratio u)[j]? := fun j hj => by
          rw [World.cell?_setCell_other _ _ _ _ (fun q => by have := congrArg Addr.block q; simp at this; omega), World.cell?_setCell_other _ _ _ _ (fun q => by have := congrArg Addr.block q; simp at this; omega)]
          have := flE_get r i 1 ratio i u j hu hj
          rw [← htk, List.getElem?_take_of_lt (by omega)] at this
          simp only [World.cell?, hh]
          rw [← this]
          simp
        exact ⟨key 0 (by omega), key 1 (by omega), key 2 (by omega)⟩
      have hcap' : Hid (i ≤ cap) := hcap
      clear hE Y Y2 hh hcs htk hl2 hcap hcm p1 p2 p4
      go_wp2
      refine bodyPost_ret (v := .agg #[.int .i64 (len : Int), .slice (some ⟨g, 0, none⟩) i cap]) (by simp [results, Try.results26, go_sem, z0, z1]) rfl ?_
      exact ⟨g, cap, rfl, hcap'.out, hEd.out, hBf⟩

end Go.Proofs.Ytbnofjpiioneiaa.D
