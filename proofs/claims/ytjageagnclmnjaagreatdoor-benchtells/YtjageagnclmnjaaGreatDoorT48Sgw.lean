/- PROVED: what the document's own SOf answers, in words for its callers; what its SGraph answers. what the document's own SGraph answers. CONDITIONS: none beyond each theorem's own. -/
import Derived.Test.YtjageagnclmnjaaGreatDoorT43Sgr
import Derived.Test.YtjageagnclmnjaaGreatDoorB30Gra
import Derived.Test.YtjageagnclmnjaaGreatDoorT47So
namespace Go.Proofs.YtjageagnclmnjaaGreatDoor.D
set_option maxRecDepth 100000
open Go.RowKit K
set_option linter.unusedVariables false

/-- what lies in memory of the document's own space -/
structure Spc (r : Ru) (T g0 g1 g2 g3 g4 : Nat) (w : World) : Prop where
  st : ∀ i s, (xp r T).1[i]? = some s → Sat w g0 (i * 14) s
  fr : ∀ u, u < T → w.cell? ⟨g1, u, none⟩ = some (.int .i64 ((u / ee r : Nat) : Int))
  tw : ∀ u, u < T → w.cell? ⟨g2, u, none⟩ = some (.int .i64 (((xp r T).2.getD u 0 : Nat) : Int))
  la : ∀ u, u < T → w.cell? ⟨g3, u * 2, none⟩ = some (.int .i64 (pr r (u % ee r)).1) ∧ w.cell? ⟨g3, u * 2 + 1, none⟩ = some (.int .i64 (pr r (u % ee r)).2)
  ro : ∀ u, u < T → RAt w g4 (u * 6) (K.round r ((xp r T).1.getD (u / ee r) (K.start r)))
theorem Spc.kept {r : Ru} {T g0 g1 g2 g3 g4 : Nat} {w w' : World} (h : Spc r T g0 g1 g2 g3 g4 w) (b : Below w.heap.size w w') : Spc r T g0 g1 g2 g3 g4 w' :=
  ⟨fun i s hi => (h.st i s hi).kept b, fun u hu => (b.cell (p := ⟨g1, u, none⟩) (block_lt (h.fr u hu))).trans (h.fr u hu), fun u hu => (b.cell (p := ⟨g2, u, none⟩) (block_lt (h.tw u hu))).trans (h.tw u hu), fun u hu => ⟨(b.cell (p := ⟨g3, u * 2, none⟩) (block_lt (h.la u hu).1)).trans (h.la u hu).1, (b.cell (p := ⟨g3, u * 2 + 1, none⟩) (block_lt (h.la u hu).2)).trans (h.la u hu).2⟩, fun u hu => (h.ro u hu).kept b⟩
def SoSome : Prop := ∀ (r : Ru) (T : Nat), wrong r = 0 → Dn r T → ∀ w, Calls Tryz.prog 43 #[.agg #[.int .i64 r.k0, .int .i64 r.k1, .int .i64 r.r, .int .i64 r.m, .int .i64 r.j]] w fun e w' => ∃ g0 c0 g1 c1 g2 c2 g3 c3 g4 c4, e = .returned (.tuple #[.agg #[.slice (some ⟨g0, 0, none⟩) (xp r T).1.length c0, .slice (some ⟨g1, 0, none⟩) T c1, .slice (some ⟨g2, 0, none⟩) T c2, .slice (some ⟨g3, 0, none⟩) T c3, .slice (some ⟨g4, 0, none⟩) T c4], .int .i64 0]) ∧ Spc r T g0 g1 g2 g3 g4 w' ∧ Below w.heap.size w w'
/-- a row of n elements of s cells -/
theorem row_at {w : World} {base e s : Nat} {t : Value} {n : Nat} {xs : List Value} (h : w.ownsRow base e s t n xs) (hn : 1 ≤ n) : ∃ g cap, t = .slice (some ⟨g, 0, none⟩) n cap ∧ ∀ j x, j < n * s → xs[j]? = some x → w.cell? ⟨g, j, none⟩ = some x := by
  obtain ⟨hl, ⟨e, e2⟩ | ⟨g, cap, cur, e, hg, hh, hc, _, hcs, htk⟩⟩ := h
  · omega
  · refine ⟨g, cap, e, fun j x hj hx => ?_⟩
    rw [← htk, List.getElem?_take_of_lt (by omega)] at hx
    simp only [World.cell?, hh]
    rw [← hx]
    simp
theorem flat2_get (f : Nat → Value) (g : Nat → Value) (T : Nat) : ∀ u, u < T → ((List.range T).flatMap fun i => [f i, g i])[u * 2]? = some (f u) ∧ ((List.range T).flatMap fun i => [f i, g i])[u * 2 + 1]? = some (g u) := by
  induction T with
  | zero => intro u h; omega
  | succ T ih =>
    intro u h
    have hl : ((List.range T).flatMap fun i => [f i, g i]).length = T * 2 := by
      clear ih h
      induction T with
      | zero => rfl
      | succ T ih => rw [List.range_succ, List.flatMap_append, List.length_append, ih]; simp; omega
    rw [List.range_succ, List.flatMap_append]
    rcases Nat.lt_succ_iff_lt_or_eq.1 h with q | rfl
    · rw [List.getElem?_append_left (by omega), List.getElem?_append_left (by omega)]; exact ih u q
    · rw [List.getElem?_append_right (by omega), List.getElem?_append_right (by omega), hl]
      simp
theorem rdL_get {r : Ru} {T : Nat} (hL : Live (sp r) (ee r) (K.start r) T) : (rdL r T).length = T ∧ ∀ u, u < T → (rdL r T).getD u R0 = K.round r ((xp r T).1.getD (u / ee r) (K.start r)) := by
  induction T with
  | zero => exact ⟨rfl, fun u h => by omega⟩
  | succ T ih =>
    obtain ⟨h1, h2⟩ := ih (hL.less (by omega))
    refine ⟨by simp [rdL, h1], fun u hu => ?_⟩
    obtain ⟨x, hx, _⟩ := ex_succ (hL T (by omega))
    have old : ∀ v, v ≤ T → v / ee r < (xp r T).1.length → (xp r (T + 1)).1.getD (v / ee r) (K.start r) = (xp r T).1.getD (v / ee r) (K.start r) := fun v _ hv => by
      have e : (xp r T).1[v / ee r]? = some (xp r T).1[v / ee r] := List.getElem?_eq_getElem hv
      have := ex_old (t := T) (d := 1) hL e
      have this' : (xp r (T + 1)).1[v / ee r]? = some (xp r T).1[v / ee r] := this
      rw [List.getD_eq_getElem?_getD, List.getD_eq_getElem?_getD, this', e]
    have hTl : T / ee r < (xp r T).1.length := (List.getElem?_eq_some_iff.1 hx).1
    rcases Nat.lt_succ_iff_lt_or_eq.1 hu with q | rfl
    · have e1 : (rdL r (T + 1)).getD u R0 = (rdL r T).getD u R0 := by
        rw [rdL, List.getD_eq_getElem?_getD, List.getElem?_append_left (by omega), ← List.getD_eq_getElem?_getD]
      rw [e1, h2 u q, old u (by omega) (Nat.lt_of_le_of_lt (Nat.div_le_div_right (by omega)) hTl)]
    · have e1 : (rdL r (u + 1)).getD u R0 = K.round r ((xp r u).1.getD (u / ee r) (K.start r)) := by
        rw [rdL, List.getD_eq_getElem?_getD, List.getElem?_append_right (by omega), h1]; simp
      rw [e1, old u (Nat.le_refl _) hTl]
theorem so_some : SoSome := fun r T hw hT w => (sof_any r hw w).mono fun e w' hh => by
  obtain ⟨⟨T', v, hT', rfl, hF⟩ | ⟨hf, _⟩, b⟩ := hh
  · obtain rfl := dn_same hT hT'
    obtain ⟨hl1, hT1, _⟩ := dn_pos hT
    have o0 : w'.ownsRow w.heap.size 45 14 (v 0) (xp r T).1.length (flS (xp r T).1) := hF.own 0 (by omega)
    have hx2 : (xp r T).2.length = T := ex_len hT.1
    obtain ⟨x, hx⟩ : ∃ x, (xp r T).1[0]? = some x := ⟨_, List.getElem?_eq_getElem hl1⟩
    obtain ⟨g0, c0, e0, hc0, _, _⟩ := own_state o0 hx
    obtain ⟨g1, c1, e1, k1⟩ := row_at (hF.own 1 (by omega)) hT1
    obtain ⟨g2, c2, e2, k2⟩ := row_at (hF.own 2 (by omega)) hT1
    obtain ⟨g3, c3, e3, k3⟩ := row_at (hF.own 3 (by omega)) hT1
    obtain ⟨g4, c4, e4, k4⟩ := row_at (hF.own 4 (by omega)) hT1
    obtain ⟨r1, r2⟩ := rdL_get hT.1
    refine ⟨g0, c0, g1, c1, g2, c2, g3, c3, g4, c4, by rw [e0, e1, e2, e3, e4]; rfl, ⟨fun i s hi => ?_, fun u hu => ?_, fun u hu => ?_, fun u hu => ?_, fun u hu => ?_⟩, b⟩
    · obtain ⟨g, cp, e, _, _, q⟩ := own_state o0 hi
      rw [e0] at e
      injection e with e _ _
      injection e with e
      injection e with e _ _
      subst e
      exact q
    · refine k1 u _ (by show u < T * 1; omega) ?_
      show ((List.range T).map _)[u]? = _
      rw [List.getElem?_map, List.getElem?_range hu]; rfl
    · refine k2 u _ (by show u < T * 1; omega) ?_
      show ((xp r T).2.map _)[u]? = _
      rw [List.getElem?_map, List.getD_eq_getElem?_getD, List.getElem?_eq_getElem (by omega)]; rfl
    · obtain ⟨q1, q2⟩ := flat2_get (fun i => .int .i64 ((i % ee r / jj r : Nat) : Int)) (fun i => .int .i64 ((i % ee r % jj r : Nat) : Int)) T u hu
      exact ⟨k3 _ _ (by show u * 2 < T * 2; omega) q1, k3 _ _ (by show u * 2 + 1 < T * 2; omega) q2⟩
    · have key : ∀ i, i < 6 → ∀ y, (cellsR (K.round r ((xp r T).1.getD (u / ee r) (K.start r))))[i]? = some y → w'.cell? ⟨g4, u * 6 + i, none⟩ = some y := fun i hi y hy => by
        refine k4 _ _ (by show u * 6 + i < T * 6; omega) ?_
        show (flatR (rdL r T))[u * 6 + i]? = _
        rw [flatR_get _ u i (by omega) hi, r2 u hu]; exact hy
      exact ⟨key 0 (by omega) _ rfl, key 1 (by omega) _ rfl, key 2 (by omega) _ rfl, key 3 (by omega) _ rfl, key 4 (by omega) _ rfl, key 5 (by omega) _ rfl⟩
  · exact (dn_fl hT hf).elim

end Go.Proofs.YtjageagnclmnjaaGreatDoor.D

namespace Go.Proofs.YtjageagnclmnjaaGreatDoor.D
set_option maxRecDepth 100000
open Go.RowKit K
set_option linter.unusedVariables false

set_option maxHeartbeats 6400000 in
set_option maxRecDepth 20000 in
theorem sgraph0 (r : Ru) (T len g0 c0 g1 c1 g2 c2 g3 c3 g4 c4 : Nat) (ratio : Int) (h : wrong r = 0) (hT : Dn r T) (hlen : (xp r T).1.length = len) (hra : 1 ≤ ratio ∧ ratio ≤ 100) (v : World) (hS : Spc r T g0 g1 g2 g3 g4 v) : Calls Tryz.prog 45 #[.agg #[.slice (some ⟨g0, 0, none⟩) len c0, .slice (some ⟨g1, 0, none⟩) T c1, .slice (some ⟨g2, 0, none⟩) T c2, .slice (some ⟨g3, 0, none⟩) T c3, .slice (some ⟨g4, 0, none⟩) T c4], .int .i64 0, .int .i64 ratio] v fun e w' => ∃ h cp, e = .returned (.agg #[.int .i64 (len : Int), .slice (some ⟨h, 0, none⟩) T cp]) ∧ T ≤ cp ∧ (∀ u, u < T → EAt w' h (u * 3) ((u / ee r : Nat) : Int) (((xp r T).2.getD u 0 : Nat) : Int) (wgt 0 ratio (K.round r ((xp r T).1.getD (u / ee r) (K.start r))))) ∧ Below v.heap.size v w' := by
  have hrg := (wrong_ok.1 h).2
  obtain ⟨_, _, he16⟩ := jj_cast hrg
  obtain ⟨hl1, hT1, hT3⟩ := dn_pos hT
  have hTb : T ≤ 4800 := Nat.le_trans hT3 (Nat.mul_le_mul_left 300 he16)
  have hSs := ga_S hT.1
  have hrt := xp_right (wrong_ok.1 h) T
  have Y := Rg2.new (v.alloc (.cells #[.slice (some ⟨g0, 0, none⟩) len c0, .slice (some ⟨g1, 0, none⟩) T c1, .slice (some ⟨g2, 0, none⟩) T c2, .slice (some ⟨g3, 0, none⟩) T c3, .slice (some ⟨g4, 0, none⟩) T c4] 102)) (v.heap.size + 1) (by simp)
  obtain ⟨W0, hW0⟩ : ∃ W0, (v.alloc (.cells #[.slice (some ⟨g0, 0, none⟩) len c0, .slice (some ⟨g1, 0, none⟩) T c1, .slice (some ⟨g2, 0, none⟩) T c2, .slice (some ⟨g3, 0, none⟩) T c3, .slice (some ⟨g4, 0, none⟩) T c4] 102)).alloc (.cells #[.int .i64 0, .slice none 0 0] 52) = W0 := ⟨_, rfl⟩
  have B : Below v.heap.size v ((v.alloc (.cells #[.slice (some ⟨g0, 0, none⟩) len c0, .slice (some ⟨g1, 0, none⟩) T c1, .slice (some ⟨g2, 0, none⟩) T c2, .slice (some ⟨g3, 0, none⟩) T c3, .slice (some ⟨g4, 0, none⟩) T c4] 102)).alloc (.cells #[.int .i64 0, .slice none 0 0] 52)) := balloc (balloc (Below.refl _ _) _) _
  have hsz : W0.heap.size = v.heap.size + 1 + 1 := by rw [← hW0]; simp
  have bP : Below (v.alloc (.cells #[.slice (some ⟨g0, 0, none⟩) len c0, .slice (some ⟨g1, 0, none⟩) T c1, .slice (some ⟨g2, 0, none⟩) T c2, .slice (some ⟨g3, 0, none⟩) T c3, .slice (some ⟨g4, 0, none⟩) T c4] 102)).heap.size (v.alloc (.cells #[.slice (some ⟨g0, 0, none⟩) len c0, .slice (some ⟨g1, 0, none⟩) T c1, .slice (some ⟨g2, 0, none⟩) T c2, .slice (some ⟨g3, 0, none⟩) T c3, .slice (some ⟨g4, 0, none⟩) T c4] 102)) ((v.alloc (.cells #[.slice (some ⟨g0, 0, none⟩) len c0, .slice (some ⟨g1, 0, none⟩) T c1, .slice (some ⟨g2, 0, none⟩) T c2, .slice (some ⟨g3, 0, none⟩) T c3, .slice (some ⟨g4, 0, none⟩) T c4] 102)).alloc (.cells #[.int .i64 0, .slice none 0 0] 52)) := balloc (Below.refl _ _) _
  have pc : ∀ j, ((v.alloc (.cells #[.slice (some ⟨g0, 0, none⟩) len c0, .slice (some ⟨g1, 0, none⟩) T c1, .slice (some ⟨g2, 0, none⟩) T c2, .slice (some ⟨g3, 0, none⟩) T c3, .slice (some ⟨g4, 0, none⟩) T c4] 102)).alloc (.cells #[.int .i64 0, .slice none 0 0] 52)).cell? ⟨v.heap.size, j, none⟩ = (#[.slice (some ⟨g0, 0, none⟩) len c0, .slice (some ⟨g1, 0, none⟩) T c1, .slice (some ⟨g2, 0, none⟩) T c2, .slice (some ⟨g3, 0, none⟩) T c3, .slice (some ⟨g4, 0, none⟩) T c4] : Array Value)[j]? := fun j => (bP.cell (p := ⟨v.heap.size, j, none⟩) (by simp)).trans (World.cell?_alloc_at _ _ _ _ rfl)
  have p0 := pc 0
  have p1 := pc 1
  have p2 := pc 2
  have p4 := pc 4
  rw [hW0] at p0 p1 p2 p4 B Y
  have hS0 := hS.kept B
  have E0 := Eg.start W0 (len : Int)
  replace p0 : W0.cell? ⟨v.heap.size, 0, none⟩ = some (.slice (some ⟨g0, 0, none⟩) len c0) := p0
  replace p1 : W0.cell? ⟨v.heap.size, 1, none⟩ = some (.slice (some ⟨g1, 0, none⟩) T c1) := p1
  replace p2 : W0.cell? ⟨v.heap.size, 2, none⟩ = some (.slice (some ⟨g2, 0, none⟩) T c2) := p2
  replace p4 : W0.cell? ⟨v.heap.size, 4, none⟩ = some (.slice (some ⟨g4, 0, none⟩) T c4) := p4
  replace hSs : Hid _ := hSs
  replace hrt : Hid _ := hrt
  replace hS0 : Hid _ := hS0
  obtain ⟨C, hC⟩ : ∃ C, W0.heap.size = C := ⟨_, rfl⟩
  rw [hC] at E0 hsz
  clear pc bP hS hlen
  have p4' : (W0.alloc (.cells #[.int .i64 (len : Int), .slice none 0 0] 52)).cell? ⟨v.heap.size, 4, none⟩ = some (.slice (some ⟨g4, 0, none⟩) T c4) := by
    exact ((balloc (Below.refl W0.heap.size W0) _).cell (p := ⟨v.heap.size, 4, none⟩) (block_lt p4)).trans p4
  go_enter Tryz.func45, Tryz.ntmps45
  go_wp2
  clear p0 p4'
  go_loopw [17] (fun iv wr => ∃ (i : Nat) (t : Value), iv = .int .i64 (i : Int) ∧ i ≤ T ∧ Eg W0 C (len : Int) t i (flE r T 0 ratio i) wr) (fun iv _ => T - (intOf iv).toNat)
  case atStart => exact ⟨0, _, rfl, Nat.zero_le _, E0⟩
  case round =>
    obtain ⟨i, t, rfl, hi, hE⟩ := hrel
    by_cases hlt : i < T
    · have hiI : (i : Int) < (T : Int) := by omega
      obtain ⟨x, tt, hx, hto, hSu⟩ := hSs.out.2 i hlt
      have hSw := Spc.kept (r := r) (T := T) (g0 := g0) (g1 := g1) (g2 := g2) (g3 := g3) (g4 := g4) (w := W0) hS0.out hE.below
      have hf := hSw.fr i hlt
      have ht := hSw.tw i hlt
      obtain ⟨y0, y1, y2, y3, y4, y5⟩ := hSw.ro i hlt
      have hrx := round_in (hrt.out x (List.mem_of_getElem? hx))
      have hgx : (xp r T).1.getD (i / ee r) (K.start r) = x := by rw [List.getD_eq_getElem?_getD, hx]; rfl
      have hgt : (xp r T).2.getD i 0 = tt := by rw [List.getD_eq_getElem?_getD, hto]; rfl
      rw [hgx] at y0 y1 y2 y3 y4 y5
      rw [hgt] at ht
      have hed : Hid (edC r T 0 ratio i = [.int .i64 ((i / ee r : Nat) : Int), .int .i64 (tt : Int), .int .i64 ((K.round r x).c0 - ratio * (K.round r x).c1)]) := by
        show _ = _
        unfold edC
        rw [hgx, hgt]
        simp [wgt]
      obtain ⟨f, hfe⟩ : ∃ f, i / ee r = f := ⟨_, rfl⟩
      rw [hfe] at hf hed
      generalize (K.round r x).s0 = q0 at *
      generalize (K.round r x).s1 = q1 at *
      generalize (K.round r x).c0 = e0 at *
      generalize (K.round r x).c1 = e1 at *
      generalize (K.round r x).l0 = q4 at *
      generalize (K.round r x).l1 = q5 at *
      have hp : 0 ≤ ratio * e1 ∧ ratio * e1 ≤ 10000 := by
        refine ⟨Int.mul_nonneg (by omega) (by omega), ?_⟩
        exact Int.le_trans (Int.mul_le_mul hra.2 (show e1 ≤ 100 by omega) (by omega) (by omega)) (by omega)
      obtain ⟨pd, hpd⟩ : ∃ pd, ratio * e1 = pd := ⟨_, rfl⟩
      rw [hpd] at hp hed
      have w1 : IntKind.i64.wrap (ratio * e1) = pd := by rw [hpd]; exact wrapIn (by omega)
      have w2 : IntKind.i64.wrap (e0 - pd) = e0 - pd := wrapIn (by omega)
      have w3 : IntKind.i64.wrap ((i : Int) + 1) = (i : Int) + 1 := wrapIn (by omega)
      have bR : Below wr.heap.size wr (wr.alloc (.cells #[.int .i64 q0, .int .i64 q1, .int .i64 e0, .int .i64 e1, .int .i64 q4, .int .i64 q5] 86)) := balloc (Below.refl _ _) _
      have k6 := hE.kept bR
      have q4' := (hE.below.cell (p := ⟨v.heap.size, 4, none⟩) (block_lt p4)).trans p4
      have r1 := (bR.cell (p := ⟨v.heap.size, 1, none⟩) (block_lt ((hE.below.cell (p := ⟨v.heap.size, 1, none⟩) (block_lt p1)).trans p1))).trans ((hE.below.cell (p := ⟨v.heap.size, 1, none⟩) (block_lt p1)).trans p1)
      have r2 := (bR.cell (p := ⟨v.heap.size, 2, none⟩) (block_lt ((hE.below.cell (p := ⟨v.heap.size, 2, none⟩) (block_lt p2)).trans p2))).trans ((hE.below.cell (p := ⟨v.heap.size, 2, none⟩) (block_lt p2)).trans p2)
      have hf6 := (bR.cell (p := ⟨g1, i, none⟩) (block_lt hf)).trans hf
      have ht6 := (bR.cell (p := ⟨g2, i, none⟩) (block_lt ht)).trans ht
      have kk : ∀ j, (wr.alloc (.cells #[.int .i64 q0, .int .i64 q1, .int .i64 e0, .int .i64 e1, .int .i64 q4, .int .i64 q5] 86)).cell? ⟨wr.heap.size, j, none⟩ = (#[.int .i64 q0, .int .i64 q1, .int .i64 e0, .int .i64 e1, .int .i64 q4, .int .i64 q5] : Array Value)[j]? := fun j => World.cell?_alloc_at _ _ _ _ rfl
      have n2 : (wr.alloc (.cells #[.int .i64 q0, .int .i64 q1, .int .i64 e0, .int .i64 e1, .int .i64 q4, .int .i64 q5] 86)).cell? ⟨wr.heap.size, 2, none⟩ = some (.int .i64 e0) := kk 2
      have n3 : (wr.alloc (.cells #[.int .i64 q0, .int .i64 q1, .int .i64 e0, .int .i64 e1, .int .i64 q4, .int .i64 q5] 86)).cell? ⟨wr.heap.size, 3, none⟩ = some (.int .i64 e1) := kk 3
      obtain ⟨W6, hW6⟩ : ∃ W6, wr.alloc (.cells #[.int .i64 q0, .int .i64 q1, .int .i64 e0, .int .i64 e1, .int .i64 q4, .int .i64 q5] 86) = W6 := ⟨_, rfl⟩
      obtain ⟨Rn, hRn⟩ : ∃ Rn, wr.heap.size = Rn := ⟨_, rfl⟩
      rw [hW6] at k6 n2 n3 r1 r2 hf6 ht6
      rw [hRn] at n2 n3
      obtain ⟨g, cap, w2', hr, u1, u2, hE2⟩ := (k6.kept (Below.drew (Below.refl _ _))).app (by omega) (f : Int) (tt : Int) (e0 - pd)
      have u0 : (W6.drew.alloc (.cells #[.int .i64 (f : Int), .int .i64 (tt : Int), .int .i64 (e0 - pd)] 81)).cell? ⟨C, 1, none⟩ = some t := (k6.kept (balloc (Below.drew (Below.refl _ _)) _)).c1
      replace hE2 : Hid (Eg W0 C (len : Int) (.slice (some ⟨g, 0, none⟩) (i + 1) cap) (i + 1) (flE r T 0 ratio (i + 1)) (w2'.setCell ⟨C, 1, none⟩ (.slice (some ⟨g, 0, none⟩) (i + 1) cap))) := by
        show Eg _ _ _ _ _ _ _
        rw [flE, hed.out]; exact hE2
      have rt := k6.c1
      clear kk hSu hx hto hrx hSw hE bR hgx hgt
      replace hr : Hid _ := hr
      replace hfe : Hid _ := hfe
      go_upto_region 5 with (fail)
      refine regionSG0 (by rfl) (by kernel_rfl) (by kernel_rfl) (by kernel_rfl) (by simp) (k := i) (by rfl) (by rw [hsz]; rfl) (by rfl) (by rfl) (by rfl) (by rfl) rt u0 r1 r2 hiI hf6 ht6 n2 n3 w1 w2 (fun ty => hr.out) u1 u2 ?_
      intro ys
      rw [show slotsOf OSG0 = [22, 23, 24, 25, 26, 27, 28, 29, 30, 31, 32, 33, 34, 35, 36, 37, 38, 39, 40, 41, 42, 43, 44, 45, 46, 47, 48, 49] from rfl]
      simp only [tA, sets]
      simp only [List.setIfInBounds_toArray, List.set_cons_succ, List.set_cons_zero]
      generalize ys 22 = z22
      generalize ys 23 = z23
      generalize ys 24 = z24
      generalize ys 25 = z25
      generalize ys 26 = z26
      generalize ys 27 = z27
      generalize ys 28 = z28
      generalize ys 29 = z29
      generalize ys 30 = z30
      generalize ys 31 = z31
      generalize ys 32 = z32
      generalize ys 33 = z33
      generalize ys 34 = z34
      generalize ys 35 = z35
      generalize ys 36 = z36
      generalize ys 37 = z37
      generalize ys 38 = z38
      generalize ys 39 = z39
      generalize ys 40 = z40
      generalize ys 41 = z41
      generalize ys 42 = z42
      generalize ys 43 = z43
      generalize ys 44 = z44
      generalize ys 45 = z45
      generalize ys 46 = z46
      generalize ys 47 = z47
      generalize ys 48 = z48
      generalize ys 49 = z49
      clear hW6 hRn k6 n2 n3 r1 r2 hf6 ht6 u0 u1 u2 rt y0 y1 y2 y3 y4 y5 q4' hr
      go_wp2
      go_roundw
      case rel => exact ⟨i + 1, .slice (some ⟨g, 0, none⟩) (i + 1) cap, by simp, by omega, by rw [← hsz]; exact hE2.out⟩
      case measure => simp [intOf]; omega
    · obtain rfl : i = T := by omega
      have hd : ¬ (i : Int) < (i : Int) := by omega
      obtain ⟨hl2, ⟨_, e2⟩ | ⟨g, cap, cu, rfl, hgb, hh, hcap, hcm, hcs, htk⟩⟩ := id hE.own
      · omega
      have c0' := hE.c0
      have c1' := hE.c1
      rw [hsz] at c0' c1'
      have Y2 := Y.kept hE.below
      have hB2 := bthen B hE.below
      obtain ⟨y0, y1, f0, f1⟩ := id Y2
      obtain ⟨z0, z1⟩ := Y2.put (.int .i64 (len : Int)) (.slice (some ⟨g, 0, none⟩) i cap)
      have hBf : Below v.heap.size v ((wr.setCell ⟨v.heap.size + 1, 0, none⟩ (.int .i64 (len : Int))).setCell ⟨v.heap.size + 1, 1, none⟩ (.slice (some ⟨g, 0, none⟩) i cap)) := Below.setCell (p := ⟨v.heap.size + 1, 1, none⟩) (Below.setCell (p := ⟨v.heap.size + 1, 0, none⟩) hB2 (by show v.heap.size ≤ v.heap.size + 1; omega) _) (by show v.heap.size ≤ v.heap.size + 1; omega) _
      have hEd : Hid (∀ u, u < i → EAt ((wr.setCell ⟨v.heap.size + 1, 0, none⟩ (.int .i64 (len : Int))).setCell ⟨v.heap.size + 1, 1, none⟩ (.slice (some ⟨g, 0, none⟩) i cap)) g (u * 3) ((u / ee r : Nat) : Int) (((xp r i).2.getD u 0 : Nat) : Int) (wgt 0 ratio (K.round r ((xp r i).1.getD (u / ee r) (K.start r))))) := fun u hu => by
        have key : ∀ j, j < 3 → ((wr.setCell ⟨v.heap.size + 1, 0, none⟩ (.int .i64 (len : Int))).setCell ⟨v.heap.size + 1, 1, none⟩ (.slice (some ⟨g, 0, none⟩) i cap)).cell? ⟨g, u * 3 + j, none⟩ = (edC r i 0 ratio u)[j]? := fun j hj => by
          rw [World.cell?_setCell_other _ _ _ _ (fun q => by have := congrArg Addr.block q; simp at this; omega), World.cell?_setCell_other _ _ _ _ (fun q => by have := congrArg Addr.block q; simp at this; omega)]
          have := flE_get r i 0 ratio i u j hu hj
          rw [← htk, List.getElem?_take_of_lt (by omega)] at this
          simp only [World.cell?, hh]
          rw [← this]
          simp
        exact ⟨key 0 (by omega), key 1 (by omega), key 2 (by omega)⟩
      have hcap' : Hid (i ≤ cap) := hcap
      clear hE Y Y2 hh hcs htk hl2 hcap hcm p1 p2 p4
      go_wp2
      refine bodyPost_ret (v := .agg #[.int .i64 (len : Int), .slice (some ⟨g, 0, none⟩) i cap]) (by simp [results, Tryz.results45, go_sem, z0, z1]) rfl ?_
      exact ⟨g, cap, rfl, hcap'.out, hEd.out, hBf⟩
set_option maxHeartbeats 6400000 in
set_option maxRecDepth 20000 in
theorem sgraph1 (r : Ru) (T len g0 c0 g1 c1 g2 c2 g3 c3 g4 c4 : Nat) (ratio : Int) (h : wrong r = 0) (hT : Dn r T) (hlen : (xp r T).1.length = len) (hra : 1 ≤ ratio ∧ ratio ≤ 100) (v : World) (hS : Spc r T g0 g1 g2 g3 g4 v) : Calls Tryz.prog 45 #[.agg #[.slice (some ⟨g0, 0, none⟩) len c0, .slice (some ⟨g1, 0, none⟩) T c1, .slice (some ⟨g2, 0, none⟩) T c2, .slice (some ⟨g3, 0, none⟩) T c3, .slice (some ⟨g4, 0, none⟩) T c4], .int .i64 1, .int .i64 ratio] v fun e w' => ∃ h cp, e = .returned (.agg #[.int .i64 (len : Int), .slice (some ⟨h, 0, none⟩) T cp]) ∧ T ≤ cp ∧ (∀ u, u < T → EAt w' h (u * 3) ((u / ee r : Nat) : Int) (((xp r T).2.getD u 0 : Nat) : Int) (wgt 1 ratio (K.round r ((xp r T).1.getD (u / ee r) (K.start r))))) ∧ Below v.heap.size v w' := by
  have hrg := (wrong_ok.1 h).2
  obtain ⟨_, _, he16⟩ := jj_cast hrg
  obtain ⟨hl1, hT1, hT3⟩ := dn_pos hT
  have hTb : T ≤ 4800 := Nat.le_trans hT3 (Nat.mul_le_mul_left 300 he16)
  have hSs := ga_S hT.1
  have hrt := xp_right (wrong_ok.1 h) T
  have Y := Rg2.new (v.alloc (.cells #[.slice (some ⟨g0, 0, none⟩) len c0, .slice (some ⟨g1, 0, none⟩) T c1, .slice (some ⟨g2, 0, none⟩) T c2, .slice (some ⟨g3, 0, none⟩) T c3, .slice (some ⟨g4, 0, none⟩) T c4] 102)) (v.heap.size + 1) (by simp)
  obtain ⟨W0, hW0⟩ : ∃ W0, (v.alloc (.cells #[.slice (some ⟨g0, 0, none⟩) len c0, .slice (some ⟨g1, 0, none⟩) T c1, .slice (some ⟨g2, 0, none⟩) T c2, .slice (some ⟨g3, 0, none⟩) T c3, .slice (some ⟨g4, 0, none⟩) T c4] 102)).alloc (.cells #[.int .i64 0, .slice none 0 0] 52) = W0 := ⟨_, rfl⟩
  have B : Below v.heap.size v ((v.alloc (.cells #[.slice (some ⟨g0, 0, none⟩) len c0, .slice (some ⟨g1, 0, none⟩) T c1, .slice (some ⟨g2, 0, none⟩) T c2, .slice (some ⟨g3, 0, none⟩) T c3, .slice (some ⟨g4, 0, none⟩) T c4] 102)).alloc (.cells #[.int .i64 0, .slice none 0 0] 52)) := balloc (balloc (Below.refl _ _) _) _
  have hsz : W0.heap.size = v.heap.size + 1 + 1 := by rw [← hW0]; simp
  have bP : Below (v.alloc (.cells #[.slice (some ⟨g0, 0, none⟩) len c0, .slice (some ⟨g1, 0, none⟩) T c1, .slice (some ⟨g2, 0, none⟩) T c2, .slice (some ⟨g3, 0, none⟩) T c3, .slice (some ⟨g4, 0, none⟩) T c4] 102)).heap.size (v.alloc (.cells #[.slice (some ⟨g0, 0, none⟩) len c0, .slice (some ⟨g1, 0, none⟩) T c1, .slice (some ⟨g2, 0, none⟩) T c2, .slice (some ⟨g3, 0, none⟩) T c3, .slice (some ⟨g4, 0, none⟩) T c4] 102)) ((v.alloc (.cells #[.slice (some ⟨g0, 0, none⟩) len c0, .slice (some ⟨g1, 0, none⟩) T c1, .slice (some ⟨g2, 0, none⟩) T c2, .slice (some ⟨g3, 0, none⟩) T c3, .slice (some ⟨g4, 0, none⟩) T c4] 102)).alloc (.cells #[.int .i64 0, .slice none 0 0] 52)) := balloc (Below.refl _ _) _
  have pc : ∀ j, ((v.alloc (.cells #[.slice (some ⟨g0, 0, none⟩) len c0, .slice (some ⟨g1, 0, none⟩) T c1, .slice (some ⟨g2, 0, none⟩) T c2, .slice (some ⟨g3, 0, none⟩) T c3, .slice (some ⟨g4, 0, none⟩) T c4] 102)).alloc (.cells #[.int .i64 0, .slice none 0 0] 52)).cell? ⟨v.heap.size, j, none⟩ = (#[.slice (some ⟨g0, 0, none⟩) len c0, .slice (some ⟨g1, 0, none⟩) T c1, .slice (some ⟨g2, 0, none⟩) T c2, .slice (some ⟨g3, 0, none⟩) T c3, .slice (some ⟨g4, 0, none⟩) T c4] : Array Value)[j]? := fun j => (bP.cell (p := ⟨v.heap.size, j, none⟩) (by simp)).trans (World.cell?_alloc_at _ _ _ _ rfl)
  have p0 := pc 0
  have p1 := pc 1
  have p2 := pc 2
  have p4 := pc 4
  rw [hW0] at p0 p1 p2 p4 B Y
  have hS0 := hS.kept B
  have E0 := Eg.start W0 (len : Int)
  replace p0 : W0.cell? ⟨v.heap.size, 0, none⟩ = some (.slice (some ⟨g0, 0, none⟩) len c0) := p0
  replace p1 : W0.cell? ⟨v.heap.size, 1, none⟩ = some (.slice (some ⟨g1, 0, none⟩) T c1) := p1
  replace p2 : W0.cell? ⟨v.heap.size, 2, none⟩ = some (.slice (some ⟨g2, 0, none⟩) T c2) := p2
  replace p4 : W0.cell? ⟨v.heap.size, 4, none⟩ = some (.slice (some ⟨g4, 0, none⟩) T c4) := p4
  replace hSs : Hid _ := hSs
  replace hrt : Hid _ := hrt
  replace hS0 : Hid _ := hS0
  obtain ⟨C, hC⟩ : ∃ C, W0.heap.size = C := ⟨_, rfl⟩
  rw [hC] at E0 hsz
  clear pc bP hS hlen
  have p4' : (W0.alloc (.cells #[.int .i64 (len : Int), .slice none 0 0] 52)).cell? ⟨v.heap.size, 4, none⟩ = some (.slice (some ⟨g4, 0, none⟩) T c4) := by
    exact ((balloc (Below.refl W0.heap.size W0) _).cell (p := ⟨v.heap.size, 4, none⟩) (block_lt p4)).trans p4
  go_enter Tryz.func45, Tryz.ntmps45
  go_wp2
  clear p0 p4'
  go_loopw [17] (fun iv wr => ∃ (i : Nat) (t : Value), iv = .int .i64 (i : Int) ∧ i ≤ T ∧ Eg W0 C (len : Int) t i (flE r T 1 ratio i) wr) (fun iv _ => T - (intOf iv).toNat)
  case atStart => exact ⟨0, _, rfl, Nat.zero_le _, E0⟩
  case round =>
    obtain ⟨i, t, rfl, hi, hE⟩ := hrel
    by_cases hlt : i < T
    · have hiI : (i : Int) < (T : Int) := by omega
      obtain ⟨x, tt, hx, hto, hSu⟩ := hSs.out.2 i hlt
      have hSw := Spc.kept (r := r) (T := T) (g0 := g0) (g1 := g1) (g2 := g2) (g3 := g3) (g4 := g4) (w := W0) hS0.out hE.below
      have hf := hSw.fr i hlt
      have ht := hSw.tw i hlt
      obtain ⟨y0, y1, y2, y3, y4, y5⟩ := hSw.ro i hlt
      have hrx := round_in (hrt.out x (List.mem_of_getElem? hx))
      have hgx : (xp r T).1.getD (i / ee r) (K.start r) = x := by rw [List.getD_eq_getElem?_getD, hx]; rfl
      have hgt : (xp r T).2.getD i 0 = tt := by rw [List.getD_eq_getElem?_getD, hto]; rfl
      rw [hgx] at y0 y1 y2 y3 y4 y5
      rw [hgt] at ht
      have hed : Hid (edC r T 1 ratio i = [.int .i64 ((i / ee r : Nat) : Int), .int .i64 (tt : Int), .int .i64 ((K.round r x).c1 - ratio * (K.round r x).c0)]) := by
        show _ = _
        unfold edC
        rw [hgx, hgt]
        simp [wgt]
      obtain ⟨f, hfe⟩ : ∃ f, i / ee r = f := ⟨_, rfl⟩
      rw [hfe] at hf hed
      generalize (K.round r x).s0 = q0 at *
      generalize (K.round r x).s1 = q1 at *
      generalize (K.round r x).c0 = e0 at *
      generalize (K.round r x).c1 = e1 at *
      generalize (K.round r x).l0 = q4 at *
      generalize (K.round r x).l1 = q5 at *
      have hp : 0 ≤ ratio * e0 ∧ ratio * e0 ≤ 10000 := by
        refine ⟨Int.mul_nonneg (by omega) (by omega), ?_⟩
        exact Int.le_trans (Int.mul_le_mul hra.2 (show e0 ≤ 100 by omega) (by omega) (by omega)) (by omega)
      obtain ⟨pd, hpd⟩ : ∃ pd, ratio * e0 = pd := ⟨_, rfl⟩
      rw [hpd] at hp hed
      have w1 : IntKind.i64.wrap (ratio * e0) = pd := by rw [hpd]; exact wrapIn (by omega)
      have w2 : IntKind.i64.wrap (e1 - pd) = e1 - pd := wrapIn (by omega)
      have w3 : IntKind.i64.wrap ((i : Int) + 1) = (i : Int) + 1 := wrapIn (by omega)
      have bR : Below wr.heap.size wr (wr.alloc (.cells #[.int .i64 q0, .int .i64 q1, .int .i64 e0, .int .i64 e1, .int .i64 q4, .int .i64 q5] 86)) := balloc (Below.refl _ _) _
      have k6 := hE.kept bR
      have q4' := (hE.below.cell (p := ⟨v.heap.size, 4, none⟩) (block_lt p4)).trans p4
      have r1 := (bR.cell (p := ⟨v.heap.size, 1, none⟩) (block_lt ((hE.below.cell (p := ⟨v.heap.size, 1, none⟩) (block_lt p1)).trans p1))).trans ((hE.below.cell (p := ⟨v.heap.size, 1, none⟩) (block_lt p1)).trans p1)
      have r2 := (bR.cell (p := ⟨v.heap.size, 2, none⟩) (block_lt ((hE.below.cell (p := ⟨v.heap.size, 2, none⟩) (block_lt p2)).trans p2))).trans ((hE.below.cell (p := ⟨v.heap.size, 2, none⟩) (block_lt p2)).trans p2)
      have hf6 := (bR.cell (p := ⟨g1, i, none⟩) (block_lt hf)).trans hf
      have ht6 := (bR.cell (p := ⟨g2, i, none⟩) (block_lt ht)).trans ht
      have kk : ∀ j, (wr.alloc (.cells #[.int .i64 q0, .int .i64 q1, .int .i64 e0, .int .i64 e1, .int .i64 q4, .int .i64 q5] 86)).cell? ⟨wr.heap.size, j, none⟩ = (#[.int .i64 q0, .int .i64 q1, .int .i64 e0, .int .i64 e1, .int .i64 q4, .int .i64 q5] : Array Value)[j]? := fun j => World.cell?_alloc_at _ _ _ _ rfl
      have n2 : (wr.alloc (.cells #[.int .i64 q0, .int .i64 q1, .int .i64 e0, .int .i64 e1, .int .i64 q4, .int .i64 q5] 86)).cell? ⟨wr.heap.size, 2, none⟩ = some (.int .i64 e0) := kk 2
      have n3 : (wr.alloc (.cells #[.int .i64 q0, .int .i64 q1, .int .i64 e0, .int .i64 e1, .int .i64 q4, .int .i64 q5] 86)).cell? ⟨wr.heap.size, 3, none⟩ = some (.int .i64 e1) := kk 3
      obtain ⟨W6, hW6⟩ : ∃ W6, wr.alloc (.cells #[.int .i64 q0, .int .i64 q1, .int .i64 e0, .int .i64 e1, .int .i64 q4, .int .i64 q5] 86) = W6 := ⟨_, rfl⟩
      obtain ⟨Rn, hRn⟩ : ∃ Rn, wr.heap.size = Rn := ⟨_, rfl⟩
      rw [hW6] at k6 n2 n3 r1 r2 hf6 ht6
      rw [hRn] at n2 n3
      obtain ⟨g, cap, w2', hr, u1, u2, hE2⟩ := (k6.kept (Below.drew (Below.refl _ _))).app (by omega) (f : Int) (tt : Int) (e1 - pd)
      have u0 : (W6.drew.alloc (.cells #[.int .i64 (f : Int), .int .i64 (tt : Int), .int .i64 (e1 - pd)] 81)).cell? ⟨C, 1, none⟩ = some t := (k6.kept (balloc (Below.drew (Below.refl _ _)) _)).c1
      replace hE2 : Hid (Eg W0 C (len : Int) (.slice (some ⟨g, 0, none⟩) (i + 1) cap) (i + 1) (flE r T 1 ratio (i + 1)) (w2'.setCell ⟨C, 1, none⟩ (.slice (some ⟨g, 0, none⟩) (i + 1) cap))) := by
        show Eg _ _ _ _ _ _ _
        rw [flE, hed.out]; exact hE2
      have rt := k6.c1
      clear kk hSu hx hto hrx hSw hE bR hgx hgt
      replace hr : Hid _ := hr
      replace hfe : Hid _ := hfe
      go_upto_region 5 with (fail)
      refine regionSG1 (by rfl) (by kernel_rfl) (by kernel_rfl) (by kernel_rfl) (by simp) (k := i) (by rfl) (by rw [hsz]; rfl) (by rfl) (by rfl) (by rfl) (by rfl) rt u0 r1 r2 hiI hf6 ht6 n2 n3 w1 w2 (fun ty => hr.out) u1 u2 ?_
      intro ys
      rw [show slotsOf OSG1 = [22, 23, 24, 25, 26, 27, 28, 29, 30, 31, 32, 33, 34, 35, 36, 37, 38, 39, 40, 41, 42, 43, 44, 45, 46, 47, 48, 49] from rfl]
      simp only [tA, sets]
      simp only [List.setIfInBounds_toArray, List.set_cons_succ, List.set_cons_zero]
      generalize ys 22 = z22
      generalize ys 23 = z23
      generalize ys 24 = z24
      generalize ys 25 = z25
      generalize ys 26 = z26
      generalize ys 27 = z27
      generalize ys 28 = z28
      generalize ys 29 = z29
      generalize ys 30 = z30
      generalize ys 31 = z31
      generalize ys 32 = z32
      generalize ys 33 = z33
      generalize ys 34 = z34
      generalize ys 35 = z35
      generalize ys 36 = z36
      generalize ys 37 = z37
      generalize ys 38 = z38
      generalize ys 39 = z39
      generalize ys 40 = z40
      generalize ys 41 = z41
      generalize ys 42 = z42
      generalize ys 43 = z43
      generalize ys 44 = z44
      generalize ys 45 = z45
      generalize ys 46 = z46
      generalize ys 47 = z47
      generalize ys 48 = z48
      generalize ys 49 = z49
      clear hW6 hRn k6 n2 n3 r1 r2 hf6 ht6 u0 u1 u2 rt y0 y1 y2 y3 y4 y5 q4' hr
      go_wp2
      go_roundw
      case rel => exact ⟨i + 1, .slice (some ⟨g, 0, none⟩) (i + 1) cap, by simp, by omega, by rw [← hsz]; exact hE2.out⟩
      case measure => simp [intOf]; omega
    · obtain rfl : i = T := by omega
      have hd : ¬ (i : Int) < (i : Int) := by omega
      obtain ⟨hl2, ⟨_, e2⟩ | ⟨g, cap, cu, rfl, hgb, hh, hcap, hcm, hcs, htk⟩⟩ := id hE.own
      · omega
      have c0' := hE.c0
      have c1' := hE.c1
      rw [hsz] at c0' c1'
      have Y2 := Y.kept hE.below
      have hB2 := bthen B hE.below
      obtain ⟨y0, y1, f0, f1⟩ := id Y2
      obtain ⟨z0, z1⟩ := Y2.put (.int .i64 (len : Int)) (.slice (some ⟨g, 0, none⟩) i cap)
      have hBf : Below v.heap.size v ((wr.setCell ⟨v.heap.size + 1, 0, none⟩ (.int .i64 (len : Int))).setCell ⟨v.heap.size + 1, 1, none⟩ (.slice (some ⟨g, 0, none⟩) i cap)) := Below.setCell (p := ⟨v.heap.size + 1, 1, none⟩) (Below.setCell (p := ⟨v.heap.size + 1, 0, none⟩) hB2 (by show v.heap.size ≤ v.heap.size + 1; omega) _) (by show v.heap.size ≤ v.heap.size + 1; omega) _
      have hEd : Hid (∀ u, u < i → EAt ((wr.setCell ⟨v.heap.size + 1, 0, none⟩ (.int .i64 (len : Int))).setCell ⟨v.heap.size + 1, 1, none⟩ (.slice (some ⟨g, 0, none⟩) i cap)) g (u * 3) ((u / ee r : Nat) : Int) (((xp r i).2.getD u 0 : Nat) : Int) (wgt 1 ratio (K.round r ((xp r i).1.getD (u / ee r) (K.start r))))) := fun u hu => by
        have key : ∀ j, j < 3 → ((wr.setCell ⟨v.heap.size + 1, 0, none⟩ (.int .i64 (len : Int))).setCell ⟨v.heap.size + 1, 1, none⟩ (.slice (some ⟨g, 0, none⟩) i cap)).cell? ⟨g, u * 3 + j, none⟩ = (edC r i 1 ratio u)[j]? := fun j hj => by
          rw [World.cell?_setCell_other _ _ _ _ (fun q => by have := congrArg Addr.block q; simp at this; omega), World.cell?_setCell_other _ _ _ _ (fun q => by have := congrArg Addr.block q; simp at this; omega)]
          have := flE_get r i 1 ratio i u j hu hj
          rw [← htk, List.getElem?_take_of_lt (by omega)] at this
          simp only [World.cell?, hh]
          rw [← this]
          simp
        exact ⟨key 0 (by omega), key 1 (by omega), key 2 (by omega)⟩
      have hcap' : Hid (i ≤ cap) := hcap
      clear hE Y Y2 hh hcs htk hl2 hcap hcm p1 p2 p4
      go_wp2
      refine bodyPost_ret (v := .agg #[.int .i64 (len : Int), .slice (some ⟨g, 0, none⟩) i cap]) (by simp [results, Tryz.results45, go_sem, z0, z1]) rfl ?_
      exact ⟨g, cap, rfl, hcap'.out, hEd.out, hBf⟩

end Go.Proofs.YtjageagnclmnjaaGreatDoor.D
