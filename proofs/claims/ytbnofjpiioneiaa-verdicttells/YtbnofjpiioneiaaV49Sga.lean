/- PROVED: what the document's own SOf answers, in words for its callers; what its SGraph answers. CONDITIONS: none beyond each theorem's own. -/
import Derived.Test.YtbnofjpiioneiaaV41Sgr
import Derived.Test.YtbnofjpiioneiaaB29Gra
import Derived.Test.YtbnofjpiioneiaaV48So
namespace Go.Proofs.Ytbnofjpiioneiaa.D
open Go.RowKit K
set_option linter.unusedVariables false

/-- what lies in memory of the document's own space -/
structure Spc (r : Ru) (T g0 g1 g2 g3 g4 : Nat) (w : World) : Prop where
  st : ∀ i s, (xp r T).1[i]? = some s → Sat w g0 (i * 14) s
  fr : ∀ u, u < T → w.cell? ⟨g1, u, none⟩ = some (.int .i64 ((u / ee r : Nat) : Int))
  tw : ∀ u, u < T → w.cell? ⟨g2, u, none⟩ = some (.int .i64 (((xp r T).2.getD u 0 : Nat) : Int))
  la : ∀ u, u < T → w.cell? ⟨g3, u * 2, none⟩ = some (.int .i64 (pr r (u % ee r)).1) ∧ w.cell? ⟨g3, u * 2 + 1, none⟩ = some (.int .i64 (pr r (u % ee r)).2)
  ro : ∀ u, u < T → RAt w g4 (u * 6) (K.round r ((xp r T).1.getD (u / ee r) (K.start r)))
theorem Spc.kept {r : Ru} {T g0 g1 g2 g3 g4 : Nat} {w w' : World} (h : Spc r T g0 g1 g2 g3 g4 w) (b : Below w.heap.size w w') : Spc r T g0 g1 g2 g3 g4 w' :=
  ⟨fun i s hi => (h.st i s hi).kept b, fun u hu => (b.cell (p := ⟨g1, u, none⟩) (block_lt (h.fr u hu))).trans (h.fr u hu), fun u hu => (b.cell (p := ⟨g2, u, none⟩) (block_lt (h.tw u hu))).trans (h.tw u hu), fun u hu => ⟨(b.cell (p := ⟨g3, u * 2, none⟩) (block_lt (h.la u hu).1)).trans (h.la u hu).1, (b.cell (p := ⟨g3, u * 2 + 1, none⟩) (block_lt (h.la u hu).2)).trans (h.la u hu).2⟩, fun u hu => (h.ro u hu).kept b⟩
def SoSome : Prop := ∀ (r : Ru) (T : Nat), wrong r = 0 → Dn r T → ∀ w, Calls Try.prog 24 #[.agg #[.int .i64 r.k0, .int .i64 r.k1, .int .i64 r.r, .int .i64 r.m, .int .i64 r.j]] w fun e w' => ∃ g0 c0 g1 c1 g2 c2 g3 c3 g4 c4, e = .returned (.tuple #[.agg #[.slice (some ⟨g0, 0, none⟩) (xp r T).1.length c0, .slice (some ⟨g1, 0, none⟩) T c1, .slice (some ⟨g2, 0, none⟩) T c2, .slice (some ⟨g3, 0, none⟩) T c3, .slice (some ⟨g4, 0, none⟩) T c4], .int .i64 0]) ∧ Spc r T g0 g1 g2 g3 g4 w' ∧ Below w.heap.size w w'
/-- a row of n elements of s cells -/
theorem row_at {w : World} {base e s : Nat} {t : Value} {n : Nat} {xs : List Value} (h : w.ownsRow base e s t n xs) (hn : 1 ≤ n) : ∃ g cap, t = .slice (some ⟨g, 0, none⟩) n cap ∧ ∀ j x, j < n * s → xs[j]? = some x → w.cell? ⟨g, j, none⟩ = some x := by
  obtain ⟨hl, ⟨e, e2⟩ | ⟨g, cap, cur, e, hg, hh, hc, _, hcs, htk⟩⟩ := h
  · omega
  · refine ⟨g, cap, e, fun j x hj hx => ?_⟩
    rw [← htk, List.getElem?_take_of_lt (by omega)] at hx
    simp only [World.cell?, hh]
    rw [← hx]
    simp
theorem flat2_get (f : Nat → Value) (g : Nat → Value) (T : Nat) : ∀ u, u < T → ((List.range T).flatMap fun i => [f i, g i])[u * 2]? = some (f u) ∧ ((List.range T).flatMap fun i => [f i, g i])[u * 2 + 1]? = some (g u) := by
  induction T with
  | zero => intro u h; omega
  | succ T ih =>
    intro u h
    have hl : ((List.range T).flatMap fun i => [f i, g i]).length = T * 2 := by
      clear ih h
      induction T with
      | zero => rfl
      | succ T ih => rw [List.range_succ, List.flatMap_append, List.length_append, ih]; simp; omega
    rw [List.range_succ, List.flatMap_append]
    rcases Nat.lt_succ_iff_lt_or_eq.1 h with q | rfl
    · rw [List.getElem?_append_left (by omega), List.getElem?_append_left (by omega)]; exact ih u q
    · rw [List.getElem?_append_right (by omega), List.getElem?_append_right (by omega), hl]
      simp
theorem rdL_get {r : Ru} {T : Nat} (hL : Live (sp r) (ee r) (K.start r) T) : (rdL r T).length = T ∧ ∀ u, u < T → (rdL r T).getD u R0 = K.round r ((xp r T).1.getD (u / ee r) (K.start r)) := by
  induction T with
  | zero => exact ⟨rfl, fun u h => by omega⟩
  | succ T ih =>
    obtain ⟨h1, h2⟩ := ih (hL.less (by omega))
    refine ⟨by simp [rdL, h1], fun u hu => ?_⟩
    obtain ⟨x, hx, _⟩ := ex_succ (hL T (by omega))
    have old : ∀ v, v ≤ T → v / ee r < (xp r T).1.length → (xp r (T + 1)).1.getD (v / ee r) (K.start r) = (xp r T).1.getD (v / ee r) (K.start r) := fun v _ hv => by
      have e : (xp r T).1[v / ee r]? = some (xp r T).1[v / ee r] := List.getElem?_eq_getElem hv
      have := ex_old (t := T) (d := 1) hL e
      have this' : (xp r (T + 1)).1[v / ee r]? = some (xp r T).1[v / ee r] := this
      rw [List.getD_eq_getElem?_getD, List.getD_eq_getElem?_getD, this', e]
    have hTl : T / ee r < (xp r T).1.length := (List.getElem?_eq_some_iff.1 hx).1
    rcases Nat.lt_succ_iff_lt_or_eq.1 hu with q | rfl
    · have e1 : (rdL r (T + 1)).getD u R0 = (rdL r T).getD u R0 := by
        rw [rdL, List.getD_eq_getElem?_getD, List.getElem?_append_left (by omega), ← List.getD_eq_getElem?_getD]
      rw [e1, h2 u q, old u (by omega) (Nat.lt_of_le_of_lt (Nat.div_le_div_right (by omega)) hTl)]
    · have e1 : (rdL r (u + 1)).getD u R0 = K.round r ((xp r u).1.getD (u / ee r) (K.start r)) := by
        rw [rdL, List.getD_eq_getElem?_getD, List.getElem?_append_right (by omega), h1]; simp
      rw [e1, old u (Nat.le_refl _) hTl]
theorem so_some : SoSome := fun r T hw hT w => (sof_any r hw w).mono fun e w' hh => by
  obtain ⟨⟨T', v, hT', rfl, hF⟩ | ⟨hf, _⟩, b⟩ := hh
  · obtain rfl := dn_same hT hT'
    obtain ⟨hl1, hT1, _⟩ := dn_pos hT
    have o0 : w'.ownsRow w.heap.size 38 14 (v 0) (xp r T).1.length (flS (xp r T).1) := hF.own 0 (by omega)
    have hx2 : (xp r T).2.length = T := ex_len hT.1
    obtain ⟨x, hx⟩ : ∃ x, (xp r T).1[0]? = some x := ⟨_, List.getElem?_eq_getElem hl1⟩
    obtain ⟨g0, c0, e0, hc0, _, _⟩ := own_state o0 hx
    obtain ⟨g1, c1, e1, k1⟩ := row_at (hF.own 1 (by omega)) hT1
    obtain ⟨g2, c2, e2, k2⟩ := row_at (hF.own 2 (by omega)) hT1
    obtain ⟨g3, c3, e3, k3⟩ := row_at (hF.own 3 (by omega)) hT1
    obtain ⟨g4, c4, e4, k4⟩ := row_at (hF.own 4 (by omega)) hT1
    obtain ⟨r1, r2⟩ := rdL_get hT.1
    refine ⟨g0, c0, g1, c1, g2, c2, g3, c3, g4, c4, by rw [e0, e1, e2, e3, e4]; rfl, ⟨fun i s hi => ?_, fun u hu => ?_, fun u hu => ?_, fun u hu => ?_, fun u hu => ?_⟩, b⟩
    · obtain ⟨g, cp, e, _, _, q⟩ := own_state o0 hi
      rw [e0] at e
      injection e with e _ _
      injection e with e
      injection e with e _ _
      subst e
      exact q
    · refine k1 u _ (by show u < T * 1; omega) ?_
      show ((List.range T).map _)[u]? = _
      rw [List.getElem?_map, List.getElem?_range hu]; rfl
    · refine k2 u _ (by show u < T * 1; omega) ?_
      show ((xp r T).2.map _)[u]? = _
      rw [List.getElem?_map, List.getD_eq_getElem?_getD, List.getElem?_eq_getElem (by omega)]; rfl
    · obtain ⟨q1, q2⟩ := flat2_get (fun i => .int .i64 ((i % ee r / jj r : Nat) : Int)) (fun i => .int .i64 ((i % ee r % jj r : Nat) : Int)) T u hu
      exact ⟨k3 _ _ (by show u * 2 < T * 2; omega) q1, k3 _ _ (by show u * 2 + 1 < T * 2; omega) q2⟩
    · have key : ∀ i, i < 6 → ∀ y, (cellsR (K.round r ((xp r T).1.getD (u / ee r) (K.start r))))[i]? = some y → w'.cell? ⟨g4, u * 6 + i, none⟩ = some y := fun i hi y hy => by
        refine k4 _ _ (by show u * 6 + i < T * 6; omega) ?_
        show (flatR (rdL r T))[u * 6 + i]? = _
        rw [flatR_get _ u i (by omega) hi, r2 u hu]; exact hy
      exact ⟨key 0 (by omega) _ rfl, key 1 (by omega) _ rfl, key 2 (by omega) _ rfl, key 3 (by omega) _ rfl, key 4 (by omega) _ rfl, key 5 (by omega) _ rfl⟩
  · exact (dn_fl hT hf).elim

end Go.Proofs.Ytbnofjpiioneiaa.D
