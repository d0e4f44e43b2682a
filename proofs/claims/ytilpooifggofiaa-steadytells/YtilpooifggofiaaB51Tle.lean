/- PROVED: what the document's own SLead answers. what the document's own SGraph answers. SteadyTells, whole. CONDITIONS: none beyond each theorem's own. -/
import Derived.Test.YtilpooifggofiaaB50Sle
import Derived.Test.YtilpooifggofiaaB44Tlb
import Derived.Test.YtilpooifggofiaaB45Tld
import Derived.Test.YtilpooifggofiaaB43DBulk
namespace Go.Proofs.Ytilpooifggofiaa.D
open Go.RowKit K
set_option linter.unusedVariables false

set_option maxHeartbeats 6400000 in
set_option maxRecDepth 20000 in
theorem slead (r : Ru) (T len g0 c0 g1 c1 g2 c2 g3 c3 g4 c4 : Nat) (h : wrong r = 0) (hT : Dn r T) : ∀ (n : Nat) (l : List Nat), Ld (sp r) (ee r) (K.start r) n l → n < (xp r T).1.length → ∀ v, Spc r T g0 g1 g2 g3 g4 v → Calls Try.prog 13 #[.agg #[.slice (some ⟨g0, 0, none⟩) len c0, .slice (some ⟨g1, 0, none⟩) T c1, .slice (some ⟨g2, 0, none⟩) T c2, .slice (some ⟨g3, 0, none⟩) T c3, .slice (some ⟨g4, 0, none⟩) T c4], .int .i64 (n : Int)] v fun e w' => ∃ u, e = .returned u ∧ w'.ownsRow v.heap.size 22 2 u l.length (flatV (l.map (pr r))) ∧ Below v.heap.size v w' := by
  intro n l hL
  have hrg := (wrong_ok.1 h).2
  obtain ⟨_, _, he16⟩ := jj_cast hrg
  obtain ⟨hl1, hT1, hT3⟩ := dn_pos hT
  have hTb : T ≤ 4800 := Nat.le_trans hT3 (Nat.mul_le_mul_left 300 he16)
  have hx2 : (xp r T).2.length = T := ex_len hT.1
  have hut : ∀ m u, Fst (sp r) (ee r) (K.start r) m u → 1 ≤ m → m < (xp r T).1.length → u < T := fun m u hf h1 h2 => by
    have hu : u < T := by
      rcases Nat.lt_or_ge u T with q | q
      · exact q
      · exfalso
        obtain ⟨d, rfl⟩ : ∃ d, u = T + d := ⟨u - T, by omega⟩
        have a1 := hf.1
        have a2 := hf.2.1
        rw [a2] at a1
        have e := hT.2.1
        have h3 : ee r * (m + 1) ≤ ee r * (xp r T).1.length := Nat.mul_le_mul_left _ h2
        rw [Nat.mul_add] at h3
        omega
    exact hu
  induction hL with
  | zero =>
    intro _ v hS
    have B : Below v.heap.size v (v.alloc (.cells #[.slice (some ⟨g0, 0, none⟩) len c0, .slice (some ⟨g1, 0, none⟩) T c1, .slice (some ⟨g2, 0, none⟩) T c2, .slice (some ⟨g3, 0, none⟩) T c3, .slice (some ⟨g4, 0, none⟩) T c4] 30)) := balloc (Below.refl _ _) _
    clear hut hT h hS
    go_enter Try.func13, Try.ntmps13
    go_wp2
    refine bodyPost_ret (by simp [results, Try.results13, go_sem]; rfl) rfl ?_
    exact ⟨_, rfl, ⟨rfl, .inl ⟨rfl, rfl⟩⟩, B⟩
  | @more j u l hj hf hl ih =>
    intro hjl v hS
    have huT := hut j u hf hj hjl
    obtain ⟨a1, a2, a3⟩ := fst_to hT.1 huT hf
    replace a1 : (xp r T).2[u]? = some j := a1
    have hll := (ld_small hl).1
    have hc := ih (by omega)
    obtain ⟨W0, hW0⟩ : ∃ W0, v.alloc (.cells #[.slice (some ⟨g0, 0, none⟩) len c0, .slice (some ⟨g1, 0, none⟩) T c1, .slice (some ⟨g2, 0, none⟩) T c2, .slice (some ⟨g3, 0, none⟩) T c3, .slice (some ⟨g4, 0, none⟩) T c4] 30) = W0 := ⟨_, rfl⟩
    have B : Below v.heap.size v (v.alloc (.cells #[.slice (some ⟨g0, 0, none⟩) len c0, .slice (some ⟨g1, 0, none⟩) T c1, .slice (some ⟨g2, 0, none⟩) T c2, .slice (some ⟨g3, 0, none⟩) T c3, .slice (some ⟨g4, 0, none⟩) T c4] 30)) := balloc (Below.refl _ _) _
    have pc : ∀ i, (v.alloc (.cells #[.slice (some ⟨g0, 0, none⟩) len c0, .slice (some ⟨g1, 0, none⟩) T c1, .slice (some ⟨g2, 0, none⟩) T c2, .slice (some ⟨g3, 0, none⟩) T c3, .slice (some ⟨g4, 0, none⟩) T c4] 30)).cell? ⟨v.heap.size, i, none⟩ = (#[.slice (some ⟨g0, 0, none⟩) len c0, .slice (some ⟨g1, 0, none⟩) T c1, .slice (some ⟨g2, 0, none⟩) T c2, .slice (some ⟨g3, 0, none⟩) T c3, .slice (some ⟨g4, 0, none⟩) T c4] : Array Value)[i]? := fun i => World.cell?_alloc_at _ _ _ _ rfl
    have p0 := pc 0
    have p1 := pc 1
    have p2 := pc 2
    have p3 := pc 3
    have p4 := pc 4
    rw [hW0] at p0 p1 p2 p3 p4 B
    replace p0 : W0.cell? ⟨v.heap.size, 0, none⟩ = some (.slice (some ⟨g0, 0, none⟩) len c0) := p0
    replace p1 : W0.cell? ⟨v.heap.size, 1, none⟩ = some (.slice (some ⟨g1, 0, none⟩) T c1) := p1
    replace p2 : W0.cell? ⟨v.heap.size, 2, none⟩ = some (.slice (some ⟨g2, 0, none⟩) T c2) := p2
    replace p3 : W0.cell? ⟨v.heap.size, 3, none⟩ = some (.slice (some ⟨g3, 0, none⟩) T c3) := p3
    replace p4 : W0.cell? ⟨v.heap.size, 4, none⟩ = some (.slice (some ⟨g4, 0, none⟩) T c4) := p4
    have hS0 := hS.kept B
    have hto : ∀ i, i < T → W0.cell? ⟨g2, i, none⟩ = some (.int .i64 (((xp r T).2.getD i 0 : Nat) : Int)) := hS0.tw
    have hfr := hS0.fr u huT
    obtain ⟨hla, hlb⟩ := hS0.la u huT
    have hju : (xp r T).2.getD u 0 = j := by rw [List.getD_eq_getElem?_getD, a1]; rfl
    have hno : ∀ i, i < u → (xp r T).2.getD i 0 ≠ j := fun i hi q => a3 i hi (by
      have e : (xp r T).2[i]? = some (xp r T).2[i] := List.getElem?_eq_getElem (by omega)
      rw [List.getD_eq_getElem?_getD, e] at q
      show (xp r T).2[i]? = some j
      rw [e]; exact congrArg some q)
    have z1 : ¬ (j : Int) = 0 := by omega
    obtain ⟨f, hfe⟩ : ∃ f, u / ee r = f := ⟨_, rfl⟩
    rw [hfe] at hfr hc hll
    obtain ⟨x, hx⟩ : ∃ x, pr r (u % ee r) = x := ⟨_, rfl⟩
    rw [hx] at hla hlb
    generalize hgt : (fun i => (xp r T).2.getD i 0) = gt at *
    have hto' : ∀ i, i < T → W0.cell? ⟨g2, i, none⟩ = some (.int .i64 ((gt i : Nat) : Int)) := fun i hi => by rw [← hgt]; exact hto i hi
    have hju' : gt u = j := by rw [← hgt]; exact hju
    have hno' : ∀ i, i < u → gt i ≠ j := fun i hi => by rw [← hgt]; exact hno i hi
    have hc' : Hid (∀ v', Below W0.heap.size W0 v' → Calls Try.prog 13 #[.agg #[.slice (some ⟨g0, 0, none⟩) len c0, .slice (some ⟨g1, 0, none⟩) T c1, .slice (some ⟨g2, 0, none⟩) T c2, .slice (some ⟨g3, 0, none⟩) T c3, .slice (some ⟨g4, 0, none⟩) T c4], .int .i64 (f : Int)] v' fun e w' => ∃ u, e = .returned u ∧ w'.ownsRow v'.heap.size 22 2 u l.length (flatV (l.map (pr r))) ∧ Below v'.heap.size v' w') := fun v' b' => hc v' (hS0.kept b')
    have hn5 : l.length ≤ 100000 := by
      have : (xp r T).1.length ≤ 300 := hT.2.2
      omega
    have hsz : W0.heap.size = v.heap.size + 1 := by rw [← hW0]; simp
    replace hx : Hid _ := hx
    replace hS0 : Hid _ := hS0
    clear hut hf hl ih hc hS hto hju hno hgt a1 a2 a3 hjl hll pc hfe hT h hx2
    go_enter Try.func13, Try.ntmps13
    go_wp2
    go_loopw [12] (fun iv wr => ∃ (i : Nat), iv = .int .i64 (i : Int) ∧ i ≤ u ∧ wr = W0) (fun iv _ => T - (intOf iv).toNat)
    case atStart => exact ⟨0, rfl, Nat.zero_le _, rfl⟩
    case round =>
      obtain ⟨i, rfl, hi, rfl⟩ := hrel
      have hiT : (i : Int) < (T : Int) := by omega
      have hci := hto' i (by omega)
      have w3 : IntKind.i64.wrap ((i : Int) + 1) = (i : Int) + 1 := wrapIn (by omega)
      by_cases he : i = u
      · subst he
        rw [hju'] at hci
        clear hto' hno' w3
        go_upto_region 7 with (fail)
        refine regionSL (by rfl) (by kernel_rfl) (by kernel_rfl) (by kernel_rfl) (by simp) (k := i) hn5 (by rfl) (by rfl) p0 p1 p2 p3 p4 hiT hfr hla hlb hc'.out ?_
        intro ys t' w' ht hown hb
        rw [show lSL = [20, 21, 22, 23, 24, 25, 26, 27, 28, 29, 30, 31, 32, 33, 4] from rfl]
        simp only [tA, sets]
        simp only [List.setIfInBounds_toArray, List.set_cons_succ, List.set_cons_zero]
        rw [ht]
        generalize ys 20 = z20
        generalize ys 21 = z21
        generalize ys 22 = z22
        generalize ys 23 = z23
        generalize ys 24 = z24
        generalize ys 25 = z25
        generalize ys 26 = z26
        generalize ys 27 = z27
        generalize ys 28 = z28
        generalize ys 29 = z29
        generalize ys 30 = z30
        generalize ys 31 = z31
        generalize ys 32 = z32
        generalize ys 33 = z33
        clear hci p0 p1 p2 p3 p4 hfr hla hlb
        go_wp2
        refine bodyPost_ret (by simp [results, Try.results13, go_sem]; rfl) rfl ?_
        refine ⟨_, rfl, ?_, bthen B hb⟩
        rw [List.map_append, flatV_append, List.length_append, show flatV ([i % ee r].map (pr r)) = [.int .i64 x.1, .int .i64 x.2] by rw [List.map_singleton, hx.out]; rfl]
        obtain ⟨hl', e | ⟨gg, cap, cur, e, hg, hh, hcc, rr⟩⟩ := hown
        · exact ⟨hl', .inl e⟩
        · exact ⟨hl', .inr ⟨gg, cap, cur, e, by omega, hh, hcc, rr⟩⟩
      · have hne : gt i ≠ j := hno' i (by omega)
        have z2 : ¬ ((gt i : Nat) : Int) = (j : Int) := by omega
        generalize gt i = gi at *
        clear hto' hno'
        go_wp2
        go_roundw
        case rel => exact ⟨i + 1, by simp, by omega, trivial⟩
        case measure => simp [intOf]; omega

end Go.Proofs.Ytilpooifggofiaa.D

namespace Go.Proofs.Ytilpooifggofiaa.D
open Go.RowKit K
set_option linter.unusedVariables false

set_option maxHeartbeats 6400000 in
set_option maxRecDepth 20000 in
theorem sgraph0 (r : Ru) (T len g0 c0 g1 c1 g2 c2 g3 c3 g4 c4 : Nat) (ratio : Int) (h : wrong r = 0) (hT : Dn r T) (hlen : (xp r T).1.length = len) (hra : 1 ≤ ratio ∧ ratio ≤ 100) (v : World) (hS : Spc r T g0 g1 g2 g3 g4 v) : Calls Try.prog 14 #[.agg #[.slice (some ⟨g0, 0, none⟩) len c0, .slice (some ⟨g1, 0, none⟩) T c1, .slice (some ⟨g2, 0, none⟩) T c2, .slice (some ⟨g3, 0, none⟩) T c3, .slice (some ⟨g4, 0, none⟩) T c4], .int .i64 0, .int .i64 ratio] v fun e w' => ∃ h cp, e = .returned (.agg #[.int .i64 (len : Int), .slice (some ⟨h, 0, none⟩) T cp]) ∧ T ≤ cp ∧ (∀ u, u < T → EAt w' h (u * 3) ((u / ee r : Nat) : Int) (((xp r T).2.getD u 0 : Nat) : Int) (wgt 0 ratio (K.round r ((xp r T).1.getD (u / ee r) (K.start r))))) ∧ Below v.heap.size v w' := by
  have hrg := (wrong_ok.1 h).2
  obtain ⟨_, _, he16⟩ := jj_cast hrg
  obtain ⟨hl1, hT1, hT3⟩ := dn_pos hT
  have hTb : T ≤ 4800 := Nat.le_trans hT3 (Nat.mul_le_mul_left 300 he16)
  have hSs := ga_S hT.1
  have hrt := xp_right (wrong_ok.1 h) T
  have Y := Rg2.new (v.alloc (.cells #[.slice (some ⟨g0, 0, none⟩) len c0, .slice (some ⟨g1, 0, none⟩) T c1, .slice (some ⟨g2, 0, none⟩) T c2, .slice (some ⟨g3, 0, none⟩) T c3, .slice (some ⟨g4, 0, none⟩) T c4] 30)) (v.heap.size + 1) (by simp)
  obtain ⟨W0, hW0⟩ : ∃ W0, (v.alloc (.cells #[.slice (some ⟨g0, 0, none⟩) len c0, .slice (some ⟨g1, 0, none⟩) T c1, .slice (some ⟨g2, 0, none⟩) T c2, .slice (some ⟨g3, 0, none⟩) T c3, .slice (some ⟨g4, 0, none⟩) T c4] 30)).alloc (.cells #[.int .i64 0, .slice none 0 0] 40) = W0 := ⟨_, rfl⟩
  have B : Below v.heap.size v ((v.alloc (.cells #[.slice (some ⟨g0, 0, none⟩) len c0, .slice (some ⟨g1, 0, none⟩) T c1, .slice (some ⟨g2, 0, none⟩) T c2, .slice (some ⟨g3, 0, none⟩) T c3, .slice (some ⟨g4, 0, none⟩) T c4] 30)).alloc (.cells #[.int .i64 0, .slice none 0 0] 40)) := balloc (balloc (Below.refl _ _) _) _
  have hsz : W0.heap.size = v.heap.size + 1 + 1 := by rw [← hW0]; simp
  have bP : Below (v.alloc (.cells #[.slice (some ⟨g0, 0, none⟩) len c0, .slice (some ⟨g1, 0, none⟩) T c1, .slice (some ⟨g2, 0, none⟩) T c2, .slice (some ⟨g3, 0, none⟩) T c3, .slice (some ⟨g4, 0, none⟩) T c4] 30)).heap.size (v.alloc (.cells #[.slice (some ⟨g0, 0, none⟩) len c0, .slice (some ⟨g1, 0, none⟩) T c1, .slice (some ⟨g2, 0, none⟩) T c2, .slice (some ⟨g3, 0, none⟩) T c3, .slice (some ⟨g4, 0, none⟩) T c4] 30)) ((v.alloc (.cells #[.slice (some ⟨g0, 0, none⟩) len c0, .slice (some ⟨g1, 0, none⟩) T c1, .slice (some ⟨g2, 0, none⟩) T c2, .slice (some ⟨g3, 0, none⟩) T c3, .slice (some ⟨g4, 0, none⟩) T c4] 30)).alloc (.cells #[.int .i64 0, .slice none 0 0] 40)) := balloc (Below.refl _ _) _
  have pc : ∀ j, ((v.alloc (.cells #[.slice (some ⟨g0, 0, none⟩) len c0, .slice (some ⟨g1, 0, none⟩) T c1, .slice (some ⟨g2, 0, none⟩) T c2, .slice (some ⟨g3, 0, none⟩) T c3, .slice (some ⟨g4, 0, none⟩) T c4] 30)).alloc (.cells #[.int .i64 0, .slice none 0 0] 40)).cell? ⟨v.heap.size, j, none⟩ = (#[.slice (some ⟨g0, 0, none⟩) len c0, .slice (some ⟨g1, 0, none⟩) T c1, .slice (some ⟨g2, 0, none⟩) T c2, .slice (some ⟨g3, 0, none⟩) T c3, .slice (some ⟨g4, 0, none⟩) T c4] : Array Value)[j]? := fun j => (bP.cell (p := ⟨v.heap.size, j, none⟩) (by simp)).trans (World.cell?_alloc_at _ _ _ _ rfl)
  have p0 := pc 0
  have p1 := pc 1
  have p2 := pc 2
  have p4 := pc 4
  rw [hW0] at p0 p1 p2 p4 B Y
  have hS0 := hS.kept B
  have E0 := Eg.start W0 (len : Int)
  replace p0 : W0.cell? ⟨v.heap.size, 0, none⟩ = some (.slice (some ⟨g0, 0, none⟩) len c0) := p0
  replace p1 : W0.cell? ⟨v.heap.size, 1, none⟩ = some (.slice (some ⟨g1, 0, none⟩) T c1) := p1
  replace p2 : W0.cell? ⟨v.heap.size, 2, none⟩ = some (.slice (some ⟨g2, 0, none⟩) T c2) := p2
  replace p4 : W0.cell? ⟨v.heap.size, 4, none⟩ = some (.slice (some ⟨g4, 0, none⟩) T c4) := p4
  replace hSs : Hid _ := hSs
  replace hrt : Hid _ := hrt
  replace hS0 : Hid _ := hS0
  obtain ⟨C, hC⟩ : ∃ C, W0.heap.size = C := ⟨_, rfl⟩
  rw [hC] at E0 hsz
  clear pc bP hS hlen
  have p4' : (W0.alloc (.cells #[.int .i64 (len : Int), .slice none 0 0] 40)).cell? ⟨v.heap.size, 4, none⟩ = some (.slice (some ⟨g4, 0, none⟩) T c4) := by
    exact ((balloc (Below.refl W0.heap.size W0) _).cell (p := ⟨v.heap.size, 4, none⟩) (block_lt p4)).trans p4
  go_enter Try.func14, Try.ntmps14
  go_wp2
  clear p0 p4'
  go_loopw [17] (fun iv wr => ∃ (i : Nat) (t : Value), iv = .int .i64 (i : Int) ∧ i ≤ T ∧ Eg W0 C (len : Int) t i (flE r T 0 ratio i) wr) (fun iv _ => T - (intOf iv).toNat)
  case atStart => exact ⟨0, _, rfl, Nat.zero_le _, E0⟩
  case round =>
    obtain ⟨i, t, rfl, hi, hE⟩ := hrel
    by_cases hlt : i < T
    · have hiI : (i : Int) < (T : Int) := by omega
      obtain ⟨x, tt, hx, hto, hSu⟩ := hSs.out.2 i hlt
      have hSw := Spc.kept (r := r) (T := T) (g0 := g0) (g1 := g1) (g2 := g2) (g3 := g3) (g4 := g4) (w := W0) hS0.out hE.below
      have hf := hSw.fr i hlt
      have ht := hSw.tw i hlt
      obtain ⟨y0, y1, y2, y3, y4, y5⟩ := hSw.ro i hlt
      have hrx := round_in (hrt.out x (List.mem_of_getElem? hx))
      have hgx : (xp r T).1.getD (i / ee r) (K.start r) = x := by rw [List.getD_eq_getElem?_getD, hx]; rfl
      have hgt : (xp r T).2.getD i 0 = tt := by rw [List.getD_eq_getElem?_getD, hto]; rfl
      rw [hgx] at y0 y1 y2 y3 y4 y5
      rw [hgt] at ht
      have hed : Hid (edC r T 0 ratio i = [.int .i64 ((i / ee r : Nat) : Int), .int .i64 (tt : Int), .int .i64 ((K.round r x).c0 - ratio * (K.round r x).c1)]) := by
        show _ = _
        unfold edC
        rw [hgx, hgt]
        simp [wgt]
      obtain ⟨f, hfe⟩ : ∃ f, i / ee r = f := ⟨_, rfl⟩
      rw [hfe] at hf hed
      generalize (K.round r x).s0 = q0 at *
      generalize (K.round r x).s1 = q1 at *
      generalize (K.round r x).c0 = e0 at *
      generalize (K.round r x).c1 = e1 at *
      generalize (K.round r x).l0 = q4 at *
      generalize (K.round r x).l1 = q5 at *
      have hp : 0 ≤ ratio * e1 ∧ ratio * e1 ≤ 10000 := by
        refine ⟨Int.mul_nonneg (by omega) (by omega), ?_⟩
        exact Int.le_trans (Int.mul_le_mul hra.2 (show e1 ≤ 100 by omega) (by omega) (by omega)) (by omega)
      obtain ⟨pd, hpd⟩ : ∃ pd, ratio * e1 = pd := ⟨_, rfl⟩
      rw [hpd] at hp hed
      have w1 : IntKind.i64.wrap (ratio * e1) = pd := by rw [hpd]; exact wrapIn (by omega)
      have w2 : IntKind.i64.wrap (e0 - pd) = e0 - pd := wrapIn (by omega)
      have w3 : IntKind.i64.wrap ((i : Int) + 1) = (i : Int) + 1 := wrapIn (by omega)
      have bR : Below wr.heap.size wr (wr.alloc (.cells #[.int .i64 q0, .int .i64 q1, .int .i64 e0, .int .i64 e1, .int .i64 q4, .int .i64 q5] 62)) := balloc (Below.refl _ _) _
      have k6 := hE.kept bR
      have q4' := (hE.below.cell (p := ⟨v.heap.size, 4, none⟩) (block_lt p4)).trans p4
      have r1 := (bR.cell (p := ⟨v.heap.size, 1, none⟩) (block_lt ((hE.below.cell (p := ⟨v.heap.size, 1, none⟩) (block_lt p1)).trans p1))).trans ((hE.below.cell (p := ⟨v.heap.size, 1, none⟩) (block_lt p1)).trans p1)
      have r2 := (bR.cell (p := ⟨v.heap.size, 2, none⟩) (block_lt ((hE.below.cell (p := ⟨v.heap.size, 2, none⟩) (block_lt p2)).trans p2))).trans ((hE.below.cell (p := ⟨v.heap.size, 2, none⟩) (block_lt p2)).trans p2)
      have hf6 := (bR.cell (p := ⟨g1, i, none⟩) (block_lt hf)).trans hf
      have ht6 := (bR.cell (p := ⟨g2, i, none⟩) (block_lt ht)).trans ht
      have kk : ∀ j, (wr.alloc (.cells #[.int .i64 q0, .int .i64 q1, .int .i64 e0, .int .i64 e1, .int .i64 q4, .int .i64 q5] 62)).cell? ⟨wr.heap.size, j, none⟩ = (#[.int .i64 q0, .int .i64 q1, .int .i64 e0, .int .i64 e1, .int .i64 q4, .int .i64 q5] : Array Value)[j]? := fun j => World.cell?_alloc_at _ _ _ _ rfl
      have n2 : (wr.alloc (.cells #[.int .i64 q0, .int .i64 q1, .int .i64 e0, .int .i64 e1, .int .i64 q4, .int .i64 q5] 62)).cell? ⟨wr.heap.size, 2, none⟩ = some (.int .i64 e0) := kk 2
      have n3 : (wr.alloc (.cells #[.int .i64 q0, .int .i64 q1, .int .i64 e0, .int .i64 e1, .int .i64 q4, .int .i64 q5] 62)).cell? ⟨wr.heap.size, 3, none⟩ = some (.int .i64 e1) := kk 3
      obtain ⟨W6, hW6⟩ : ∃ W6, wr.alloc (.cells #[.int .i64 q0, .int .i64 q1, .int .i64 e0, .int .i64 e1, .int .i64 q4, .int .i64 q5] 62) = W6 := ⟨_, rfl⟩
      obtain ⟨Rn, hRn⟩ : ∃ Rn, wr.heap.size = Rn := ⟨_, rfl⟩
      rw [hW6] at k6 n2 n3 r1 r2 hf6 ht6
      rw [hRn] at n2 n3
      obtain ⟨g, cap, w2', hr, u1, u2, hE2⟩ := (k6.kept (Below.drew (Below.refl _ _))).app (by omega) (f : Int) (tt : Int) (e0 - pd)
      have u0 : (W6.drew.alloc (.cells #[.int .i64 (f : Int), .int .i64 (tt : Int), .int .i64 (e0 - pd)] 54)).cell? ⟨C, 1, none⟩ = some t := (k6.kept (balloc (Below.drew (Below.refl _ _)) _)).c1
      replace hE2 : Hid (Eg W0 C (len : Int) (.slice (some ⟨g, 0, none⟩) (i + 1) cap) (i + 1) (flE r T 0 ratio (i + 1)) (w2'.setCell ⟨C, 1, none⟩ (.slice (some ⟨g, 0, none⟩) (i + 1) cap))) := by
        show Eg _ _ _ _ _ _ _
        rw [flE, hed.out]; exact hE2
      have rt := k6.c1
      clear kk hSu hx hto hrx hSw hE bR hgx hgt
      replace hr : Hid _ := hr
      replace hfe : Hid _ := hfe
      go_upto_region 5 with (fail)
      refine regionSG0 (by rfl) (by kernel_rfl) (by kernel_rfl) (by kernel_rfl) (by simp) (k := i) (by rfl) (by rw [hsz]; rfl) (by rfl) (by rfl) (by rfl) (by rfl) rt u0 r1 r2 hiI hf6 ht6 n2 n3 w1 w2 (fun ty => hr.out) u1 u2 ?_
      intro ys
      rw [show slotsOf OSG0 = [22, 23, 24, 25, 26, 27, 28, 29, 30, 31, 32, 33, 34, 35, 36, 37, 38, 39, 40, 41, 42, 43, 44, 45, 46, 47, 48, 49] from rfl]
      simp only [tA, sets]
      simp only [List.setIfInBounds_toArray, List.set_cons_succ, List.set_cons_zero]
      generalize ys 22 = z22
      generalize ys 23 = z23
      generalize ys 24 = z24
      generalize ys 25 = z25
      generalize ys 26 = z26
      generalize ys 27 = z27
      generalize ys 28 = z28
      generalize ys 29 = z29
      generalize ys 30 = z30
      generalize ys 31 = z31
      generalize ys 32 = z32
      generalize ys 33 = z33
      generalize ys 34 = z34
      generalize ys 35 = z35
      generalize ys 36 = z36
      generalize ys 37 = z37
      generalize ys 38 = z38
      generalize ys 39 = z39
      generalize ys 40 = z40
      generalize ys 41 = z41
      generalize ys 42 = z42
      generalize ys 43 = z43
      generalize ys 44 = z44
      generalize ys 45 = z45
      generalize ys 46 = z46
      generalize ys 47 = z47
      generalize ys 48 = z48
      generalize ys 49 = z49
      clear hW6 hRn k6 n2 n3 r1 r2 hf6 ht6 u0 u1 u2 rt y0 y1 y2 y3 y4 y5 q4' hr
      go_wp2
      go_roundw
      case rel => exact ⟨i + 1, .slice (some ⟨g, 0, none⟩) (i + 1) cap, by simp, by omega, by rw [← hsz]; exact hE2.out⟩
      case measure => simp [intOf]; omega
    · obtain rfl : i = T := by omega
      have hd : ¬ (i : Int) < (i : Int) := by omega
      obtain ⟨hl2, ⟨_, e2⟩ | ⟨g, cap, cu, rfl, hgb, hh, hcap, hcm, hcs, htk⟩⟩ := id hE.own
      · omega
      have c0' := hE.c0
      have c1' := hE.c1
      rw [hsz] at c0' c1'
      have Y2 := Y.kept hE.below
      have hB2 := bthen B hE.below
      obtain ⟨y0, y1, f0, f1⟩ := id Y2
      obtain ⟨z0, z1⟩ := Y2.put (.int .i64 (len : Int)) (.slice (some ⟨g, 0, none⟩) i cap)
      have hBf : Below v.heap.size v ((wr.setCell ⟨v.heap.size + 1, 0, none⟩ (.int .i64 (len : Int))).setCell ⟨v.heap.size + 1, 1, none⟩ (.slice (some ⟨g, 0, none⟩) i cap)) := Below.setCell (p := ⟨v.heap.size + 1, 1, none⟩) (Below.setCell (p := ⟨v.heap.size + 1, 0, none⟩) hB2 (by show v.heap.size ≤ v.heap.size + 1; omega) _) (by show v.heap.size ≤ v.heap.size + 1; omega) _
      have hEd : Hid (∀ u, u < i → EAt ((wr.setCell ⟨v.heap.size + 1, 0, none⟩ (.int .i64 (len : Int))).setCell ⟨v.heap.size + 1, 1, none⟩ (.slice (some ⟨g, 0, none⟩) i cap)) g (u * 3) ((u / ee r : Nat) : Int) (((xp r i).2.getD u 0 : Nat) : Int) (wgt 0 ratio (K.round r ((xp r i).1.getD (u / ee r) (K.start r))))) := fun u hu => by
        have key : ∀ j, j < 3 → ((wr.setCell ⟨v.heap.size + 1, 0, none⟩ (.int .i64 (len : Int))).setCell ⟨v.heap.size + 1, 1, none⟩ (.slice (some ⟨g, 0, none⟩) i cap)).cell? ⟨g, u * 3 + j, none⟩ = (edC r i 0 ratio u)[j]? := fun j hj => by
          rw [World.cell?_setCell_other _ _ _ _ (fun q => by have := congrArg Addr.block q; simp at this; omega), World.cell?_setCell_other _ _ _ _ (fun q => by have := congrArg Addr.block q; simp at this; omega)]
          have := flE_get r i 0 ratio i u j hu hj
          rw [← htk, List.getElem?_take_of_lt (by omega)] at this
          simp only [World.cell?, hh]
          rw [← this]
          simp
        exact ⟨key 0 (by omega), key 1 (by omega), key 2 (by omega)⟩
      have hcap' : Hid (i ≤ cap) := hcap
      clear hE Y Y2 hh hcs htk hl2 hcap hcm p1 p2 p4
      go_wp2
      refine bodyPost_ret (v := .agg #[.int .i64 (len : Int), .slice (some ⟨g, 0, none⟩) i cap]) (by simp [results, Try.results14, go_sem, z0, z1]) rfl ?_
      exact ⟨g, cap, rfl, hcap'.out, hEd.out, hBf⟩
set_option maxHeartbeats 6400000 in
set_option maxRecDepth 20000 in
theorem sgraph1 (r : Ru) (T len g0 c0 g1 c1 g2 c2 g3 c3 g4 c4 : Nat) (ratio : Int) (h : wrong r = 0) (hT : Dn r T) (hlen : (xp r T).1.length = len) (hra : 1 ≤ ratio ∧ ratio ≤ 100) (v : World) (hS : Spc r T g0 g1 g2 g3 g4 v) : Calls Try.prog 14 #[.agg #[.slice (some ⟨g0, 0, none⟩) len c0, .slice (some ⟨g1, 0, none⟩) T c1, .slice (some ⟨g2, 0, none⟩) T c2, .slice (some ⟨g3, 0, none⟩) T c3, .slice (some ⟨g4, 0, none⟩) T c4], .int .i64 1, .int .i64 ratio] v fun e w' => ∃ h cp, e = .returned (.agg #[.int .i64 (len : Int), .slice (some ⟨h, 0, none⟩) T cp]) ∧ T ≤ cp ∧ (∀ u, u < T → EAt w' h (u * 3) ((u / ee r : Nat) : Int) (((xp r T).2.getD u 0 : Nat) : Int) (wgt 1 ratio (K.round r ((xp r T).1.getD (u / ee r) (K.start r))))) ∧ Below v.heap.size v w' := by
  have hrg := (wrong_ok.1 h).2
  obtain ⟨_, _, he16⟩ := jj_cast hrg
  obtain ⟨hl1, hT1, hT3⟩ := dn_pos hT
  have hTb : T ≤ 4800 := Nat.le_trans hT3 (Nat.mul_le_mul_left 300 he16)
  have hSs := ga_S hT.1
  have hrt := xp_right (wrong_ok.1 h) T
  have Y := Rg2.new (v.alloc (.cells #[.slice (some ⟨g0, 0, none⟩) len c0, .slice (some ⟨g1, 0, none⟩) T c1, .slice (some ⟨g2, 0, none⟩) T c2, .slice (some ⟨g3, 0, none⟩) T c3, .slice (some ⟨g4, 0, none⟩) T c4] 30)) (v.heap.size + 1) (by simp)
  obtain ⟨W0, hW0⟩ : ∃ W0, (v.alloc (.cells #[.slice (some ⟨g0, 0, none⟩) len c0, .slice (some ⟨g1, 0, none⟩) T c1, .slice (some ⟨g2, 0, none⟩) T c2, .slice (some ⟨g3, 0, none⟩) T c3, .slice (some ⟨g4, 0, none⟩) T c4] 30)).alloc (.cells #[.int .i64 0, .slice none 0 0] 40) = W0 := ⟨_, rfl⟩
  have B : Below v.heap.size v ((v.alloc (.cells #[.slice (some ⟨g0, 0, none⟩) len c0, .slice (some ⟨g1, 0, none⟩) T c1, .slice (some ⟨g2, 0, none⟩) T c2, .slice (some ⟨g3, 0, none⟩) T c3, .slice (some ⟨g4, 0, none⟩) T c4] 30)).alloc (.cells #[.int .i64 0, .slice none 0 0] 40)) := balloc (balloc (Below.refl _ _) _) _
  have hsz : W0.heap.size = v.heap.size + 1 + 1 := by rw [← hW0]; simp
  have bP : Below (v.alloc (.cells #[.slice (some ⟨g0, 0, none⟩) len c0, .slice (some ⟨g1, 0, none⟩) T c1, .slice (some ⟨g2, 0, none⟩) T c2, .slice (some ⟨g3, 0, none⟩) T c3, .slice (some ⟨g4, 0, none⟩) T c4] 30)).heap.size (v.alloc (.cells #[.slice (some ⟨g0, 0, none⟩) len c0, .slice (some ⟨g1, 0, none⟩) T c1, .slice (some ⟨g2, 0, none⟩) T c2, .slice (some ⟨g3, 0, none⟩) T c3, .slice (some ⟨g4, 0, none⟩) T c4] 30)) ((v.alloc (.cells #[.slice (some ⟨g0, 0, none⟩) len c0, .slice (some ⟨g1, 0, none⟩) T c1, .slice (some ⟨g2, 0, none⟩) T c2, .slice (some ⟨g3, 0, none⟩) T c3, .slice (some ⟨g4, 0, none⟩) T c4] 30)).alloc (.cells #[.int .i64 0, .slice none 0 0] 40)) := balloc (Below.refl _ _) _
  have pc : ∀ j, ((v.alloc (.cells #[.slice (some ⟨g0, 0, none⟩) len c0, .slice (some ⟨g1, 0, none⟩) T c1, .slice (some ⟨g2, 0, none⟩) T c2, .slice (some ⟨g3, 0, none⟩) T c3, .slice (some ⟨g4, 0, none⟩) T c4] 30)).alloc (.cells #[.int .i64 0, .slice none 0 0] 40)).cell? ⟨v.heap.size, j, none⟩ = (#[.slice (some ⟨g0, 0, none⟩) len c0, .slice (some ⟨g1, 0, none⟩) T c1, .slice (some ⟨g2, 0, none⟩) T c2, .slice (some ⟨g3, 0, none⟩) T c3, .slice (some ⟨g4, 0, none⟩) T c4] : Array Value)[j]? := fun j => (bP.cell (p := ⟨v.heap.size, j, none⟩) (by simp)).trans (World.cell?_alloc_at _ _ _ _ rfl)
  have p0 := pc 0
  have p1 := pc 1
  have p2 := pc 2
  have p4 := pc 4
  rw [hW0] at p0 p1 p2 p4 B Y
  have hS0 := hS.kept B
  have E0 := Eg.start W0 (len : Int)
  replace p0 : W0.cell? ⟨v.heap.size, 0, none⟩ = some (.slice (some ⟨g0, 0, none⟩) len c0) := p0
  replace p1 : W0.cell? ⟨v.heap.size, 1, none⟩ = some (.slice (some ⟨g1, 0, none⟩) T c1) := p1
  replace p2 : W0.cell? ⟨v.heap.size, 2, none⟩ = some (.slice (some ⟨g2, 0, none⟩) T c2) := p2
  replace p4 : W0.cell? ⟨v.heap.size, 4, none⟩ = some (.slice (some ⟨g4, 0, none⟩) T c4) := p4
  replace hSs : Hid _ := hSs
  replace hrt : Hid _ := hrt
  replace hS0 : Hid _ := hS0
  obtain ⟨C, hC⟩ : ∃ C, W0.heap.size = C := ⟨_, rfl⟩
  rw [hC] at E0 hsz
  clear pc bP hS hlen
  have p4' : (W0.alloc (.cells #[.int .i64 (len : Int), .slice none 0 0] 40)).cell? ⟨v.heap.size, 4, none⟩ = some (.slice (some ⟨g4, 0, none⟩) T c4) := by
    exact ((balloc (Below.refl W0.heap.size W0) _).cell (p := ⟨v.heap.size, 4, none⟩) (block_lt p4)).trans p4
  go_enter Try.func14, Try.ntmps14
  go_wp2
  clear p0 p4'
  go_loopw [17] (fun iv wr => ∃ (i : Nat) (t : Value), iv = .int .i64 (i : Int) ∧ i ≤ T ∧ Eg W0 C (len : Int) t i (flE r T 1 ratio i) wr) (fun iv _ => T - (intOf iv).toNat)
  case atStart => exact ⟨0, _, rfl, Nat.zero_le _, E0⟩
  case round =>
    obtain ⟨i, t, rfl, hi, hE⟩ := hrel
    by_cases hlt : i < T
    · have hiI : (i : Int) < (T : Int) := by omega
      obtain ⟨x, tt, hx, hto, hSu⟩ := hSs.out.2 i hlt
      have hSw := Spc.kept (r := r) (T := T) (g0 := g0) (g1 := g1) (g2 := g2) (g3 := g3) (g4 := g4) (w := W0) hS0.out hE.below
      have hf := hSw.fr i hlt
      have ht := hSw.tw i hlt
      obtain ⟨y0, y1, y2, y3, y4, y5⟩ := hSw.ro i hlt
      have hrx := round_in (hrt.out x (List.mem_of_getElem? hx))
      have hgx : (xp r T).1.getD (i / ee r) (K.start r) = x := by rw [List.getD_eq_getElem?_getD, hx]; rfl
      have hgt : (xp r T).2.getD i 0 = tt := by rw [List.getD_eq_getElem?_getD, hto]; rfl
      rw [hgx] at y0 y1 y2 y3 y4 y5
      rw [hgt] at ht
      have hed : Hid (edC r T 1 ratio i = [.int .i64 ((i / ee r : Nat) : Int), .int .i64 (tt : Int), .int .i64 ((K.round r x).c1 - ratio * (K.round r x).c0)]) := by
        show _ = _
        unfold edC
        rw [hgx, hgt]
        simp [wgt]
      obtain ⟨f, hfe⟩ : ∃ f, i / ee r = f := ⟨_, rfl⟩
      rw [hfe] at hf hed
      generalize (K.round r x).s0 = q0 at *
      generalize (K.round r x).s1 = q1 at *
      generalize (K.round r x).c0 = e0 at *
      generalize (K.round r x).c1 = e1 at *
      generalize (K.round r x).l0 = q4 at *
      generalize (K.round r x).l1 = q5 at *
      have hp : 0 ≤ ratio * e0 ∧ ratio * e0 ≤ 10000 := by
        refine ⟨Int.mul_nonneg (by omega) (by omega), ?_⟩
        exact Int.le_trans (Int.mul_le_mul hra.2 (show e0 ≤ 100 by omega) (by omega) (by omega)) (by omega)
      obtain ⟨pd, hpd⟩ : ∃ pd, ratio * e0 = pd := ⟨_, rfl⟩
      rw [hpd] at hp hed
      have w1 : IntKind.i64.wrap (ratio * e0) = pd := by rw [hpd]; exact wrapIn (by omega)
      have w2 : IntKind.i64.wrap (e1 - pd) = e1 - pd := wrapIn (by omega)
      have w3 : IntKind.i64.wrap ((i : Int) + 1) = (i : Int) + 1 := wrapIn (by omega)
      have bR : Below wr.heap.size wr (wr.alloc (.cells #[.int .i64 q0, .int .i64 q1, .int .i64 e0, .int .i64 e1, .int .i64 q4, .int .i64 q5] 62)) := balloc (Below.refl _ _) _
      have k6 := hE.kept bR
      have q4' := (hE.below.cell (p := ⟨v.heap.size, 4, none⟩) (block_lt p4)).trans p4
      have r1 := (bR.cell (p := ⟨v.heap.size, 1, none⟩) (block_lt ((hE.below.cell (p := ⟨v.heap.size, 1, none⟩) (block_lt p1)).trans p1))).trans ((hE.below.cell (p := ⟨v.heap.size, 1, none⟩) (block_lt p1)).trans p1)
      have r2 := (bR.cell (p := ⟨v.heap.size, 2, none⟩) (block_lt ((hE.below.cell (p := ⟨v.heap.size, 2, none⟩) (block_lt p2)).trans p2))).trans ((hE.below.cell (p := ⟨v.heap.size, 2, none⟩) (block_lt p2)).trans p2)
      have hf6 := (bR.cell (p := ⟨g1, i, none⟩) (block_lt hf)).trans hf
      have ht6 := (bR.cell (p := ⟨g2, i, none⟩) (block_lt ht)).trans ht
      have kk : ∀ j, (wr.alloc (.cells #[.int .i64 q0, .int .i64 q1, .int .i64 e0, .int .i64 e1, .int .i64 q4, .int .i64 q5] 62)).cell? ⟨wr.heap.size, j, none⟩ = (#[.int .i64 q0, .int .i64 q1, .int .i64 e0, .int .i64 e1, .int .i64 q4, .int .i64 q5] : Array Value)[j]? := fun j => World.cell?_alloc_at _ _ _ _ rfl
      have n2 : (wr.alloc (.cells #[.int .i64 q0, .int .i64 q1, .int .i64 e0, .int .i64 e1, .int .i64 q4, .int .i64 q5] 62)).cell? ⟨wr.heap.size, 2, none⟩ = some (.int .i64 e0) := kk 2
      have n3 : (wr.alloc (.cells #[.int .i64 q0, .int .i64 q1, .int .i64 e0, .int .i64 e1, .int .i64 q4, .int .i64 q5] 62)).cell? ⟨wr.heap.size, 3, none⟩ = some (.int .i64 e1) := kk 3
      obtain ⟨W6, hW6⟩ : ∃ W6, wr.alloc (.cells #[.int .i64 q0, .int .i64 q1, .int .i64 e0, .int .i64 e1, .int .i64 q4, .int .i64 q5] 62) = W6 := ⟨_, rfl⟩
      obtain ⟨Rn, hRn⟩ : ∃ Rn, wr.heap.size = Rn := ⟨_, rfl⟩
      rw [hW6] at k6 n2 n3 r1 r2 hf6 ht6
      rw [hRn] at n2 n3
      obtain ⟨g, cap, w2', hr, u1, u2, hE2⟩ := (k6.kept (Below.drew (Below.refl _ _))).app (by omega) (f : Int) (tt : Int) (e1 - pd)
      have u0 : (W6.drew.alloc (.cells #[.int .i64 (f : Int), .int .i64 (tt : Int), .int .i64 (e1 - pd)] 54)).cell? ⟨C, 1, none⟩ = some t := (k6.kept (balloc (Below.drew (Below.refl _ _)) _)).c1
      replace hE2 : Hid (Eg W0 C (len : Int) (.slice (some ⟨g, 0, none⟩) (i + 1) cap) (i + 1) (flE r T 1 ratio (i + 1)) (w2'.setCell ⟨C, 1, none⟩ (.slice (some ⟨g, 0, none⟩) (i + 1) cap))) := by
        show Eg _ _ _ _ _ _ _
        rw [flE, hed.out]; exact hE2
      have rt := k6.c1
      clear kk hSu hx hto hrx hSw hE bR hgx hgt
      replace hr : Hid _ := hr
      replace hfe : Hid _ := hfe
      go_upto_region 5 with (fail)
      refine regionSG1 (by rfl) (by kernel_rfl) (by kernel_rfl) (by kernel_rfl) (by simp) (k := i) (by rfl) (by rw [hsz]; rfl) (by rfl) (by rfl) (by rfl) (by rfl) rt u0 r1 r2 hiI hf6 ht6 n2 n3 w1 w2 (fun ty => hr.out) u1 u2 ?_
      intro ys
      rw [show slotsOf OSG1 = [22, 23, 24, 25, 26, 27, 28, 29, 30, 31, 32, 33, 34, 35, 36, 37, 38, 39, 40, 41, 42, 43, 44, 45, 46, 47, 48, 49] from rfl]
      simp only [tA, sets]
      simp only [List.setIfInBounds_toArray, List.set_cons_succ, List.set_cons_zero]
      generalize ys 22 = z22
      generalize ys 23 = z23
      generalize ys 24 = z24
      generalize ys 25 = z25
      generalize ys 26 = z26
      generalize ys 27 = z27
      generalize ys 28 = z28
      generalize ys 29 = z29
      generalize ys 30 = z30
      generalize ys 31 = z31
      generalize ys 32 = z32
      generalize ys 33 = z33
      generalize ys 34 = z34
      generalize ys 35 = z35
      generalize ys 36 = z36
      generalize ys 37 = z37
      generalize ys 38 = z38
      generalize ys 39 = z39
      generalize ys 40 = z40
      generalize ys 41 = z41
      generalize ys 42 = z42
      generalize ys 43 = z43
      generalize ys 44 = z44
      generalize ys 45 = z45
      generalize ys 46 = z46
      generalize ys 47 = z47
      generalize ys 48 = z48
      generalize ys 49 = z49
      clear hW6 hRn k6 n2 n3 r1 r2 hf6 ht6 u0 u1 u2 rt y0 y1 y2 y3 y4 y5 q4' hr
      go_wp2
      go_roundw
      case rel => exact ⟨i + 1, .slice (some ⟨g, 0, none⟩) (i + 1) cap, by simp, by omega, by rw [← hsz]; exact hE2.out⟩
      case measure => simp [intOf]; omega
    · obtain rfl : i = T := by omega
      have hd : ¬ (i : Int) < (i : Int) := by omega
      obtain ⟨hl2, ⟨_, e2⟩ | ⟨g, cap, cu, rfl, hgb, hh, hcap, hcm, hcs, htk⟩⟩ := id hE.own
      · omega
      have c0' := hE.c0
      have c1' := hE.c1
      rw [hsz] at c0' c1'
      have Y2 := Y.kept hE.below
      have hB2 := bthen B hE.below
      obtain ⟨y0, y1, f0, f1⟩ := id Y2
      obtain ⟨z0, z1⟩ := Y2.put (.int .i64 (len : Int)) (.slice (some ⟨g, 0, none⟩) i cap)
      have hBf : Below v.heap.size v ((wr.setCell ⟨v.heap.size + 1, 0, none⟩ (.int .i64 (len : Int))).setCell ⟨v.heap.size + 1, 1, none⟩ (.slice (some ⟨g, 0, none⟩) i cap)) := Below.setCell (p := ⟨v.heap.size + 1, 1, none⟩) (Below.setCell (p := ⟨v.heap.size + 1, 0, none⟩) hB2 (by show v.heap.size ≤ v.heap.size + 1; omega) _) (by show v.heap.size ≤ v.heap.size + 1; omega) _
      have hEd : Hid (∀ u, u < i → EAt ((wr.setCell ⟨v.heap.size + 1, 0, none⟩ (.int .i64 (len : Int))).setCell ⟨v.heap.size + 1, 1, none⟩ (.slice (some ⟨g, 0, none⟩) i cap)) g (u * 3) ((u / ee r : Nat) : Int) (((xp r i).2.getD u 0 : Nat) : Int) (wgt 1 ratio (K.round r ((xp r i).1.getD (u / ee r) (K.start r))))) := fun u hu => by
        have key : ∀ j, j < 3 → ((wr.setCell ⟨v.heap.size + 1, 0, none⟩ (.int .i64 (len : Int))).setCell ⟨v.heap.size + 1, 1, none⟩ (.slice (some ⟨g, 0, none⟩) i cap)).cell? ⟨g, u * 3 + j, none⟩ = (edC r i 1 ratio u)[j]? := fun j hj => by
          rw [World.cell?_setCell_other _ _ _ _ (fun q => by have := congrArg Addr.block q; simp at this; omega), World.cell?_setCell_other _ _ _ _ (fun q => by have := congrArg Addr.block q; simp at this; omega)]
          have := flE_get r i 1 ratio i u j hu hj
          rw [← htk, List.getElem?_take_of_lt (by omega)] at this
          simp only [World.cell?, hh]
          rw [← this]
          simp
        exact ⟨key 0 (by omega), key 1 (by omega), key 2 (by omega)⟩
      have hcap' : Hid (i ≤ cap) := hcap
      clear hE Y Y2 hh hcs htk hl2 hcap hcm p1 p2 p4
      go_wp2
      refine bodyPost_ret (v := .agg #[.int .i64 (len : Int), .slice (some ⟨g, 0, none⟩) i cap]) (by simp [results, Try.results14, go_sem, z0, z1]) rfl ?_
      exact ⟨g, cap, rfl, hcap'.out, hEd.out, hBf⟩

end Go.Proofs.Ytilpooifggofiaa.D

namespace Go.Proofs.Ytilpooifggofiaa.D
open Go.RowKit K
set_option linter.unusedVariables false

theorem so_full (r : Ru) (h : wrong r = 0) (hF : Fl r) (w : World) : Calls Try.prog 7 #[.agg #[.int .i64 r.k0, .int .i64 r.k1, .int .i64 r.r, .int .i64 r.m, .int .i64 r.j]] w fun e w' => e = .returned (.tuple #[.agg #[.slice none 0 0, .slice none 0 0, .slice none 0 0, .slice none 0 0, .slice none 0 0], .int .i64 4]) ∧ Below w.heap.size w w' := (sof_any r h w).mono fun e w' hh => by
  obtain ⟨⟨T, v, hT, _⟩ | ⟨_, rfl⟩, b⟩ := hh
  · exact (dn_fl hT hF).elim
  · exact ⟨rfl, b⟩
theorem bad_or (who ratio : Int) : who < 0 ∨ 1 < who ∨ ((0 ≤ who ∧ who ≤ 1) ∧ ratio < 1) ∨ ((0 ≤ who ∧ who ≤ 1) ∧ 100 < ratio) ∨ ((0 ≤ who ∧ who ≤ 1) ∧ 1 ≤ ratio ∧ ratio ≤ 100) := by omega
theorem tells_err (r : Ru) (n who ratio E : Int) (hE : (E != 0) = true) (w : World)
    (so : ∀ v, Calls Try.prog 7 #[.agg #[.int .i64 r.k0, .int .i64 r.k1, .int .i64 r.r, .int .i64 r.m, .int .i64 r.j]] v fun e w' => e = .returned (.tuple #[.agg #[.slice none 0 0, .slice none 0 0, .slice none 0 0, .slice none 0 0, .slice none 0 0], .int .i64 E]) ∧ Below v.heap.size v w')
    (st : ∀ v, Calls Try.prog 8 #[.agg #[.int .i64 r.k0, .int .i64 r.k1, .int .i64 r.r, .int .i64 r.m, .int .i64 r.j]] v fun e w' => e = .returned (.tuple #[.slice none 0 0, .int .i64 E]) ∧ Below v.heap.size v w')
    (ld : ∀ v, Calls Try.prog 9 #[.agg #[.int .i64 r.k0, .int .i64 r.k1, .int .i64 r.r, .int .i64 r.m, .int .i64 r.j], .int .i64 n] v fun e w' => e = .returned (.tuple #[.slice none 0 0, .int .i64 E]) ∧ Below v.heap.size v w')
    (gr : 0 ≤ who ∧ who ≤ 1 → 1 ≤ ratio ∧ ratio ≤ 100 → ∀ v, Calls Try.prog 10 #[.agg #[.int .i64 r.k0, .int .i64 r.k1, .int .i64 r.r, .int .i64 r.m, .int .i64 r.j], .int .i64 who, .int .i64 ratio] v fun e w' => e = .returned (.tuple #[.agg #[.int .i64 0, .slice none 0 0], .int .i64 E]) ∧ Below v.heap.size v w') :
    Calls Try.prog 3 #[.agg #[.int .i64 r.k0, .int .i64 r.k1, .int .i64 r.r, .int .i64 r.m, .int .i64 r.j], .int .i64 n, .int .i64 who, .int .i64 ratio] w fun e w' => e = .returned (.bool true) ∧ Below w.heap.size w w' := by
  rcases bad_or who ratio with b | b | ⟨b, c⟩ | ⟨b, c⟩ | ⟨b, c⟩
  · exact tells_err1 r n who ratio E hE b w so st ld (gr_range r who ratio (by omega))
  · exact tells_err2 r n who ratio E hE b w so st ld (gr_range r who ratio (by omega))
  · exact tells_err3 r n who ratio E hE b c w so st ld (gr_range r who ratio (by omega))
  · exact tells_err4 r n who ratio E hE b c w so st ld (gr_range r who ratio (by omega))
  · exact tells_err5 r n who ratio E hE b c w so st ld (gr b c)
theorem steadyTells_go (r : Ru) (n who ratio : Int) (w : World) : Calls Try.prog 3 #[.agg #[.int .i64 r.k0, .int .i64 r.k1, .int .i64 r.r, .int .i64 r.m, .int .i64 r.j], .int .i64 n, .int .i64 who, .int .i64 ratio] w fun e w' => e = .returned (.bool true) ∧ Below w.heap.size w w' := by
  by_cases h : wrong r = 0
  · rcases dn_or r with ⟨T, hT⟩ | hF
    · obtain ⟨hl1, hT1, hT3⟩ := dn_pos hT
      obtain ⟨_, _, he16⟩ := jj_cast (wrong_ok.1 h).2
      have hTb : T ≤ 4800 := Nat.le_trans hT3 (Nat.mul_le_mul_left 300 he16)
      have hk : ∀ g0 g1 g2 g3 g4 v v', Spc r T g0 g1 g2 g3 g4 v → Below v.heap.size v v' → Spc r T g0 g1 g2 g3 g4 v' := fun _ _ _ _ _ _ _ q b => q.kept b
      have hs : ∀ g0 g1 g2 g3 g4 v, Spc r T g0 g1 g2 g3 g4 v → ∀ i s, (xp r T).1[i]? = some s → Sat v g0 (i * 14) s := fun _ _ _ _ _ _ q => q.st
      have so := so_some r T h hT
      have st := stS r T h hT
      have gr := fun b c => grS r T who ratio h hT b c
      have sg : 0 ≤ who ∧ who ≤ 1 → 1 ≤ ratio ∧ ratio ≤ 100 → ∀ g0 c0 g1 c1 g2 c2 g3 c3 g4 c4 v, Spc r T g0 g1 g2 g3 g4 v → Calls Try.prog 14 #[.agg #[.slice (some ⟨g0, 0, none⟩) (xp r T).1.length c0, .slice (some ⟨g1, 0, none⟩) T c1, .slice (some ⟨g2, 0, none⟩) T c2, .slice (some ⟨g3, 0, none⟩) T c3, .slice (some ⟨g4, 0, none⟩) T c4], .int .i64 who, .int .i64 ratio] v fun e w' => ∃ h cp, e = .returned (.agg #[.int .i64 ((xp r T).1.length : Int), .slice (some ⟨h, 0, none⟩) T cp]) ∧ T ≤ cp ∧ (∀ u, u < T → EAt w' h (u * 3) ((u / ee r : Nat) : Int) (((xp r T).2.getD u 0 : Nat) : Int) (wgt who ratio (K.round r ((xp r T).1.getD (u / ee r) (K.start r))))) ∧ Below v.heap.size v w' := by
        intro b c g0 c0 g1 c1 g2 c2 g3 c3 g4 c4 v q
        rcases (by omega : who = 0 ∨ who = 1) with rfl | rfl
        · exact sgraph0 r T _ g0 c0 g1 c1 g2 c2 g3 c3 g4 c4 ratio h hT rfl c v q
        · exact sgraph1 r T _ g0 c0 g1 c1 g2 c2 g3 c3 g4 c4 ratio h hT rfl c v q
      by_cases hn : n < 0 ∨ ((xp r T).1.length : Int) ≤ n
      · have ld := ldN r T n h hT hn
        rcases hn with d | d
        · rcases bad_or who ratio with b | b | ⟨b, c⟩ | ⟨b, c⟩ | ⟨b, c⟩
          · exact tells_lo1 r n who ratio T _ (xp r T).1 rfl hT.2.2 hTb b w (Spc r T) hk hs so st d ld (gr_range r who ratio (by omega))
          · exact tells_lo2 r n who ratio T _ (xp r T).1 rfl hT.2.2 hTb b w (Spc r T) hk hs so st d ld (gr_range r who ratio (by omega))
          · exact tells_lo3 r n who ratio T _ (xp r T).1 rfl hT.2.2 hTb b c w (Spc r T) hk hs so st d ld (gr_range r who ratio (by omega))
          · exact tells_lo4 r n who ratio T _ (xp r T).1 rfl hT.2.2 hTb b c w (Spc r T) hk hs so st d ld (gr_range r who ratio (by omega))
          · exact tells_lo5 r n who ratio T _ (xp r T).1 rfl hT.2.2 hTb b c w (Spc r T) hk hs so st d ld _ _ _ (gr b c) (sg b c)
        · rcases bad_or who ratio with b | b | ⟨b, c⟩ | ⟨b, c⟩ | ⟨b, c⟩
          · exact tells_hi1 r n who ratio T _ (xp r T).1 rfl hT.2.2 hTb b w (Spc r T) hk hs so st d ld (gr_range r who ratio (by omega))
          · exact tells_hi2 r n who ratio T _ (xp r T).1 rfl hT.2.2 hTb b w (Spc r T) hk hs so st d ld (gr_range r who ratio (by omega))
          · exact tells_hi3 r n who ratio T _ (xp r T).1 rfl hT.2.2 hTb b c w (Spc r T) hk hs so st d ld (gr_range r who ratio (by omega))
          · exact tells_hi4 r n who ratio T _ (xp r T).1 rfl hT.2.2 hTb b c w (Spc r T) hk hs so st d ld (gr_range r who ratio (by omega))
          · exact tells_hi5 r n who ratio T _ (xp r T).1 rfl hT.2.2 hTb b c w (Spc r T) hk hs so st d ld _ _ _ (gr b c) (sg b c)
      · obtain ⟨N, rfl⟩ : ∃ N : Nat, n = (N : Int) := ⟨n.toNat, by omega⟩
        have hN : N < (xp r T).1.length := by omega
        obtain ⟨l, hL⟩ := ld_some hT.1 N hN
        obtain ⟨hl3, hmem⟩ := ld_ok r T N l hT hN hL
        have ld := ldS r T N l h hT hN hL
        have sl : ∀ g0 c0 g1 c1 g2 c2 g3 c3 g4 c4 v, Spc r T g0 g1 g2 g3 g4 v → Calls Try.prog 13 #[.agg #[.slice (some ⟨g0, 0, none⟩) (xp r T).1.length c0, .slice (some ⟨g1, 0, none⟩) T c1, .slice (some ⟨g2, 0, none⟩) T c2, .slice (some ⟨g3, 0, none⟩) T c3, .slice (some ⟨g4, 0, none⟩) T c4], .int .i64 (N : Int)] v fun e w' => ∃ ao cp, e = .returned (.slice ao l.length cp) ∧ VRow w' ao (l.map (pr r)) ∧ Below v.heap.size v w' := fun g0 c0 g1 c1 g2 c2 g3 c3 g4 c4 v q => (slead r T _ g0 c0 g1 c1 g2 c2 g3 c3 g4 c4 h hT N l hL hN v q).mono fun e w' hh => by
          obtain ⟨u, rfl, ho, b⟩ := hh
          obtain ⟨ao, cp, rfl, _, hv⟩ := owned2 (by simp) ho
          exact ⟨ao, cp, rfl, hv, b⟩
        rcases bad_or who ratio with b | b | ⟨b, c⟩ | ⟨b, c⟩ | ⟨b, c⟩
        · exact tells_in1 r N who ratio T _ (xp r T).1 rfl hT.2.2 hTb b w (Spc r T) hk hs so st l.length (l.map (pr r)) (by simp) hl3 (by omega) (by omega) ld sl (gr_range r who ratio (by omega))
        · exact tells_in2 r N who ratio T _ (xp r T).1 rfl hT.2.2 hTb b w (Spc r T) hk hs so st l.length (l.map (pr r)) (by simp) hl3 (by omega) (by omega) ld sl (gr_range r who ratio (by omega))
        · exact tells_in3 r N who ratio T _ (xp r T).1 rfl hT.2.2 hTb b c w (Spc r T) hk hs so st l.length (l.map (pr r)) (by simp) hl3 (by omega) (by omega) ld sl (gr_range r who ratio (by omega))
        · exact tells_in4 r N who ratio T _ (xp r T).1 rfl hT.2.2 hTb b c w (Spc r T) hk hs so st l.length (l.map (pr r)) (by simp) hl3 (by omega) (by omega) ld sl (gr_range r who ratio (by omega))
        · exact tells_in5 r N who ratio T _ (xp r T).1 rfl hT.2.2 hTb b c w (Spc r T) hk hs so st l.length (l.map (pr r)) (by simp) hl3 (by omega) (by omega) ld sl _ _ _ (gr b c) (sg b c)
    · exact tells_err r n who ratio 4 rfl w (so_full r h hF) (stF' r h hF) (ldF r n h hF) (fun b c => grF r who ratio h hF b c)
  · have he : (wrong r != 0) = true := by simpa using h
    exact tells_err r n who ratio (wrong r) he w (sof_wrong r _ rfl he) (st_wrong r _ rfl he) (ld_wrong r _ n rfl he) (fun b c => gr_wrong r _ who ratio rfl he b c)

end Go.Proofs.Ytilpooifggofiaa.D
