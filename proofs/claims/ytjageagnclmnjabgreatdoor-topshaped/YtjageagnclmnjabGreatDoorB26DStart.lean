/- PROVED: what Lead answers, named. CONDITIONS: what they answer. what Graph answers, named; a lead is short. CONDITIONS: what they answer. what steady's search answers, in words for its callers. on plain lists: where a round of steady's search tells that there are too many, there are. what duel.Start answers. CONDITIONS: none beyond each theorem's own. -/
import Derived.Test.YtjageagnclmnjabGreatDoorB13Sr
import Derived.Test.YtjageagnclmnjabGreatDoorB11Fnd
import Derived.Test.YtjageagnclmnjabGreatDoorB14Lif
import Derived.Test.YtjageagnclmnjabGreatDoorB03DOwn
import Derived.Test.YtjageagnclmnjabGreatDoorB16CSame
import Derived.Test.YtjageagnclmnjabGreatDoorB17LCtl
import Derived.Test.YtjageagnclmnjabGreatDoorB18DYes
import Derived.Shelf.Abstract
namespace Go.Proofs.YtjageagnclmnjabGreatDoor.D
open Go.RowKit K
set_option linter.unusedVariables false

/-- what is late, by its number -/
def pr (r : Ru) (n : Nat) : Int × Int := (((n / jj r : Nat) : Int), ((n % jj r : Nat) : Int))
theorem steps_pr (r : Ru) : ∀ (l : List Nat) (s : Sx), steps r s (l.map (pr r)) = l.foldl (sp r) s := by
  intro l
  induction l with
  | nil => intro s; rfl
  | cons n l ih => intro s; exact ih (sp r s n)
end Go.Proofs.YtjageagnclmnjabGreatDoor.D

namespace Go.Proofs.YtjageagnclmnjabGreatDoor.D
open Go.RowKit K
set_option linter.unusedVariables false

theorem ld_small {r : Ru} {j : Nat} {l : List Nat} (h : Ld (sp r) (ee r) (K.start r) j l) : l.length ≤ j ∧ ∀ i ∈ l, i < ee r := by
  induction h with
  | zero => exact ⟨Nat.le_refl _, fun i hi => by simp at hi⟩
  | @more j u l hj hf h ih =>
    have hu : u / ee r < j := Nat.div_lt_of_lt_mul (by have := hf.1; rw [hf.2.1] at this; exact this)
    refine ⟨by rw [List.length_append]; have := ih.1; simp only [List.length_cons, List.length_nil]; omega, fun i hi => ?_⟩
    rcases List.mem_append.1 hi with q | q
    · exact ih.2 i q
    · obtain rfl : i = u % ee r := by simpa using q
      exact Nat.mod_lt _ (ee_pos r)
/-- what a round weighs -/
def wgt (who ratio : Int) (x : Rx) : Int := if who = 0 then x.c0 - ratio * x.c1 else x.c1 - ratio * x.c0
/-- an edge in memory -/
structure EAt (w : World) (h o : Nat) (f t x : Int) : Prop where
  c0 : w.cell? ⟨h, o, none⟩ = some (.int .i64 f)
  c1 : w.cell? ⟨h, o + 1, none⟩ = some (.int .i64 t)
  c2 : w.cell? ⟨h, o + 2, none⟩ = some (.int .i64 x)
/-- Graph -/
def GrSome : Prop := ∀ (r : Ru) (T : Nat) (who ratio : Int), wrong r = 0 → Dn r T → 0 ≤ who ∧ who ≤ 1 → 1 ≤ ratio ∧ ratio ≤ 100 → ∀ v, Calls Tryz.prog 59 #[.agg #[.int .i64 r.k0, .int .i64 r.k1, .int .i64 r.r, .int .i64 r.m, .int .i64 r.j], .int .i64 who, .int .i64 ratio] v fun e w' => ∃ h cp, e = .returned (.tuple #[.agg #[.int .i64 ((xp r T).1.length : Int), .slice (some ⟨h, 0, none⟩) T cp], .int .i64 0]) ∧ T ≤ cp ∧ (∀ u, u < T → EAt w' h (u * 3) ((u / ee r : Nat) : Int) (((xp r T).2.getD u 0 : Nat) : Int) (wgt who ratio (K.round r ((xp r T).1.getD (u / ee r) (K.start r))))) ∧ Below v.heap.size v w'
def GrFull : Prop := ∀ (r : Ru) (who ratio : Int), wrong r = 0 → Fl r → 0 ≤ who ∧ who ≤ 1 → 1 ≤ ratio ∧ ratio ≤ 100 → ∀ v, Calls Tryz.prog 59 #[.agg #[.int .i64 r.k0, .int .i64 r.k1, .int .i64 r.r, .int .i64 r.m, .int .i64 r.j], .int .i64 who, .int .i64 ratio] v fun e w' => e = .returned (.tuple #[.agg #[.int .i64 0, .slice none 0 0], .int .i64 4]) ∧ Below v.heap.size v w'
def GrWrong : Prop := ∀ (r : Ru) (E who ratio : Int), wrong r = E → (E != 0) = true → 0 ≤ who ∧ who ≤ 1 → 1 ≤ ratio ∧ ratio ≤ 100 → ∀ v, Calls Tryz.prog 59 #[.agg #[.int .i64 r.k0, .int .i64 r.k1, .int .i64 r.r, .int .i64 r.m, .int .i64 r.j], .int .i64 who, .int .i64 ratio] v fun e w' => e = .returned (.tuple #[.agg #[.int .i64 0, .slice none 0 0], .int .i64 E]) ∧ Below v.heap.size v w'
def GrRange : Prop := ∀ (r : Ru) (who ratio : Int), ¬ ((0 ≤ who ∧ who ≤ 1) ∧ 1 ≤ ratio ∧ ratio ≤ 100) → ∀ v, Calls Tryz.prog 59 #[.agg #[.int .i64 r.k0, .int .i64 r.k1, .int .i64 r.r, .int .i64 r.m, .int .i64 r.j], .int .i64 who, .int .i64 ratio] v fun e w' => e = .returned (.tuple #[.agg #[.int .i64 0, .slice none 0 0], .int .i64 2]) ∧ Below v.heap.size v w'

end Go.Proofs.YtjageagnclmnjabGreatDoor.D

namespace Go.Proofs.YtjageagnclmnjabGreatDoor.D
open Go.RowKit K
set_option linter.unusedVariables false

theorem dn_same {r : Ru} {T T' : Nat} (h : Dn r T) (h' : Dn r T') : T = T' := by
  have key : ∀ {A B : Nat}, Dn r A → Dn r B → ¬ A < B := fun {A B} a b q => by
    have := b.1 A q
    have e := a.2.1
    unfold xp at e
    omega
  have a := key h h'
  have b := key h' h
  omega
theorem dn_fl {r : Ru} {T : Nat} (h : Dn r T) (hf : Fl r) : False := by
  obtain ⟨t, x, hL, hx, h3, hn⟩ := hf
  have hlt : t < ee r * (xp r t).1.length := by
    have h1 : t / ee r < (xp r t).1.length := (List.getElem?_eq_some_iff.1 hx).1
    have h2 := Nat.div_add_mod t (ee r)
    have h4 := Nat.mod_lt t (ee_pos r)
    have h5 : ee r * (t / ee r + 1) ≤ ee r * (xp r t).1.length := Nat.mul_le_mul_left _ h1
    rw [Nat.mul_add, Nat.mul_one] at h5
    omega
  have hL1 : Live (sp r) (ee r) (K.start r) (t + 1) := fun t' ht' => by
    rcases Nat.lt_succ_iff_lt_or_eq.1 ht' with q | rfl
    · exact hL t' q
    · exact hlt
  have e : xp r (t + 1) = _ := ex_go (step := sp r) (E := ee r) (s0 := K.start r) hx
  have hl : (xp r (t + 1)).1.length = 301 := by
    rw [e]
    show (YtjageagnclmnjabGreatDoor.nx (xp r t).1 (sp r x (t % ee r))).length = 301
    unfold YtjageagnclmnjabGreatDoor.nx
    rw [if_neg hn]
    simp [h3]
  rcases Nat.lt_or_ge T (t + 1) with q | q
  · have a := hL1 T q
    have b := h.2.1
    unfold xp at b
    omega
  · obtain ⟨d, rfl⟩ : ∃ d, T = t + 1 + d := ⟨T - (t + 1), by omega⟩
    have g := ex_grows (t := t + 1) (d := d) h.1
    have := h.2.2
    have hl' : (ex (sp r) (ee r) (K.start r) (t + 1)).1.length = 301 := hl
    have h6 : (ex (sp r) (ee r) (K.start r) (t + 1 + d)).1.length ≤ 300 := this
    omega
theorem dn_pos {r : Ru} {T : Nat} (h : Dn r T) : 1 ≤ (xp r T).1.length ∧ 1 ≤ T ∧ T ≤ 300 * ee r := by
  have h0 := ex_first h.1
  have h1 : 1 ≤ (xp r T).1.length := (List.getElem?_eq_some_iff.1 h0).1
  refine ⟨h1, ?_, ?_⟩
  · rw [h.2.1]; exact Nat.mul_pos (ee_pos r) h1
  · have := Nat.mul_le_mul_left (ee r) h.2.2
    have e := h.2.1
    rw [Nat.mul_comm 300]; omega

/-- a step in memory -/
structure Stq (w : World) (g o : Nat) (r : Ru) (s : Stp) : Prop where
  c0 : w.cell? ⟨g, o, none⟩ = some (.int .i64 (s.f : Int))
  c1 : w.cell? ⟨g, o + 1, none⟩ = some (.int .i64 (s.t : Int))
  c2 : w.cell? ⟨g, o + 2, none⟩ = some (.int .i64 (pr r s.n).1)
  c3 : w.cell? ⟨g, o + 3, none⟩ = some (.int .i64 (pr r s.n).2)
  c4 : w.cell? ⟨g, o + 4, none⟩ = some (.int .i64 s.c0)
  c5 : w.cell? ⟨g, o + 5, none⟩ = some (.int .i64 s.c1)
theorem Stq.kept {w w' : World} {g o : Nat} {r : Ru} {s : Stp} (h : Stq w g o r s) (b : Below w.heap.size w w') : Stq w' g o r s := by
  have hl : g < w.heap.size := block_lt h.c0
  have e : ∀ p, w'.cell? ⟨g, p, none⟩ = w.cell? ⟨g, p, none⟩ := fun p => b.cell (p := ⟨g, p, none⟩) hl
  exact ⟨(e _).trans h.c0, (e _).trans h.c1, (e _).trans h.c2, (e _).trans h.c3, (e _).trans h.c4, (e _).trans h.c5⟩
theorem own_step {w : World} {base : Nat} {t : Value} {m : Nat} {r : Ru} {S : List Stp} (h : w.ownsRow base 123 6 t m (flP r S)) (hm : 1 ≤ m) : ∃ g cap, t = .slice (some ⟨g, 0, none⟩) m cap ∧ m ≤ cap ∧ ∀ k s, S[k]? = some s → Stq w g (k * 6) r s := by
  obtain ⟨hl, ⟨e, e2⟩ | ⟨g, cap, cur, e, hg, hh, hc, _, hcs, htk⟩⟩ := h
  · omega
  · rw [flP_len] at hl
    refine ⟨g, cap, e, hc, fun k s hk => ?_⟩
    have hkl := (List.getElem?_eq_some_iff.1 hk).1
    have key : ∀ i, i < 6 → w.cell? ⟨g, k * 6 + i, none⟩ = (cP r s)[i]? := fun i hi => by
      have := flP_get r S k i s hk hi
      rw [← htk, List.getElem?_take_of_lt (by omega)] at this
      simp only [World.cell?, hh]
      rw [← this]
      simp
    exact ⟨key 0 (by omega), key 1 (by omega), key 2 (by omega), key 3 (by omega), key 4 (by omega), key 5 (by omega)⟩
theorem own_nat {w : World} {base : Nat} {t : Value} {m : Nat} {F : List Nat} (h : w.ownsRow base 3 1 t m (F.map fun i => .int .i64 ((i : Nat) : Int))) (hm : 1 ≤ m) : ∃ g cap, t = .slice (some ⟨g, 0, none⟩) m cap ∧ m ≤ cap ∧ ∀ (k u : Nat), F[k]? = some u → w.cell? ⟨g, k, none⟩ = some (.int .i64 (u : Int)) := by
  obtain ⟨hl, ⟨e, e2⟩ | ⟨g, cap, cur, e, hg, hh, hc, _, hcs, htk⟩⟩ := h
  · omega
  · refine ⟨g, cap, e, hc, fun k u hk => ?_⟩
    have hkl := (List.getElem?_eq_some_iff.1 hk).1
    rw [List.length_map] at hl
    have : (F.map fun i => Value.int .i64 ((i : Nat) : Int))[k]? = some (.int .i64 (u : Int)) := by rw [List.getElem?_map, hk]; rfl
    rw [← htk, List.getElem?_take_of_lt (by omega)] at this
    simp only [World.cell?, hh]
    rw [← this]
    simp

def SrSome : Prop := ∀ (r : Ru) (T : Nat), wrong r = 0 → Dn r T → ∀ w, Calls Tryz.prog 72 #[.agg #[.int .i64 r.k0, .int .i64 r.k1, .int .i64 r.r, .int .i64 r.m, .int .i64 r.j]] w fun e w' => ∃ g0 cp0 g1 cp1 g2 cp2 M, e = .returned (.tuple #[.agg #[.slice (some ⟨g0, 0, none⟩) (xp r T).1.length cp0, .map (some M), .slice (some ⟨g1, 0, none⟩) T cp1, .slice (some ⟨g2, 0, none⟩) (xp r T).1.length cp2], .int .i64 0]) ∧ (xp r T).1.length ≤ cp0 ∧ (∀ i s, (xp r T).1[i]? = some s → Sat w' g0 (i * 14) s) ∧ (∀ u s, (ga r T).S[u]? = some s → Stq w' g1 (u * 6) r s) ∧ (∀ (j u : Nat), (ga r T).F[j]? = some u → w'.cell? ⟨g2, j, none⟩ = some (.int .i64 (u : Int))) ∧ Below w.heap.size w w'
def SrFull : Prop := ∀ (r : Ru), wrong r = 0 → Fl r → ∀ w, Calls Tryz.prog 72 #[.agg #[.int .i64 r.k0, .int .i64 r.k1, .int .i64 r.r, .int .i64 r.m, .int .i64 r.j]] w fun e w' => e = .returned (.tuple #[.agg #[.slice none 0 0, .map none, .slice none 0 0, .slice none 0 0], .int .i64 4]) ∧ Below w.heap.size w w'
def SrWrong : Prop := ∀ (r : Ru) (E : Int), wrong r = E → (E != 0) = true → ∀ w, Calls Tryz.prog 72 #[.agg #[.int .i64 r.k0, .int .i64 r.k1, .int .i64 r.r, .int .i64 r.m, .int .i64 r.j]] w fun e w' => e = .returned (.tuple #[.agg #[.slice none 0 0, .map none, .slice none 0 0, .slice none 0 0], .int .i64 E]) ∧ Below w.heap.size w w'
/-- what search_any says -/
def SrAny : Prop := ∀ (r : Ru), wrong r = 0 → ∀ w, Calls Tryz.prog 72 #[.agg #[.int .i64 r.k0, .int .i64 r.k1, .int .i64 r.r, .int .i64 r.m, .int .i64 r.j]] w fun e w' => ((∃ T v M, Dn r T ∧ e = .returned (.tuple #[.agg #[v 0, .map (some M), v 1, v 2], .int .i64 0]) ∧ F3.Fam w.heap.size (fun _ => False) v (gn (ga r T)) (gr r (ga r T)) w') ∨ (Fl r ∧ e = .returned (.tuple #[.agg #[.slice none 0 0, .map none, .slice none 0 0, .slice none 0 0], .int .i64 4]))) ∧ Below w.heap.size w w'
theorem sr_some (h : SrAny) : SrSome := fun r T hw hT w => (h r hw w).mono fun e w' hh => by
  obtain ⟨⟨T', v, M, hT', rfl, hF⟩ | ⟨hf, _⟩, b⟩ := hh
  · obtain rfl := dn_same hT hT'
    obtain ⟨hl1, hT1, _⟩ := dn_pos hT
    have hS := ga_S hT.1
    have hFl := ga_F hT.1
    have o0 : w'.ownsRow w.heap.size 147 14 (v 0) (xp r T).1.length (flS (xp r T).1) := by
      have := hF.own 0 (by omega)
      simp only [gn, gr, ga_L] at this
      exact this
    have o1 : w'.ownsRow w.heap.size 123 6 (v 1) T (flP r (ga r T).S) := by
      have := hF.own 1 (by omega)
      simp only [gn, gr, hS.1] at this
      exact this
    have o2 : w'.ownsRow w.heap.size 3 1 (v 2) (xp r T).1.length ((ga r T).F.map fun i => .int .i64 ((i : Nat) : Int)) := by
      have := hF.own 2 (by omega)
      simp only [gn, gr, hFl.1] at this
      exact this
    obtain ⟨x, hx⟩ : ∃ x, (xp r T).1[0]? = some x := ⟨_, List.getElem?_eq_getElem hl1⟩
    obtain ⟨g0, cp0, e0, hc0, _, _⟩ := own_state o0 hx
    obtain ⟨g1, cp1, e1, _, k1⟩ := own_step o1 hT1
    obtain ⟨g2, cp2, e2, _, k2⟩ := own_nat o2 hl1
    refine ⟨g0, cp0, g1, cp1, g2, cp2, M, by rw [e0, e1, e2], hc0, fun i s hi => ?_, k1, k2, b⟩
    obtain ⟨g, cp, e, _, _, q⟩ := own_state o0 hi
    rw [e0] at e
    injection e with e _ _
    injection e with e
    injection e with e _ _
    subst e
    exact q
  · exact (dn_fl hT hf).elim
theorem sr_full (h : SrAny) : SrFull := fun r hw hf w => (h r hw w).mono fun e w' hh => by
  obtain ⟨⟨T', v, M, hT', rfl, hF⟩ | ⟨_, rfl⟩, b⟩ := hh
  · exact (dn_fl hT' hf).elim
  · exact ⟨rfl, b⟩

end Go.Proofs.YtjageagnclmnjabGreatDoor.D

namespace Go.Proofs.YtjageagnclmnjabGreatDoor.D
open Go.RowKit K
set_option linter.unusedVariables false
theorem fl_of {r : Ru} {k : Nat} {x : Sx} (hL : Live (sp r) (ee r) (K.start r) (k * ee r)) (hx : (ga r (k * ee r)).L[k]? = some x) {m : Nat} {pre p0 : List (Fin (jj r * jj r))} {x0 : Fin (jj r * jj r)} (hm : m ≤ ee r) (hp : allL (jj r) m pre) (e : pre = p0 ++ [x0]) (h3 : (gx r k x (ga r (k * ee r)) p0).L.length = 300) (hn : sp r x x0.1 ∉ (gx r k x (ga r (k * ee r)) p0).L) : Fl r := by
  have hl := allL_len hp
  rw [e] at hl
  simp at hl
  obtain ⟨m', rfl⟩ : ∃ m', m = m' + 1 := ⟨p0.length, hl.symm⟩
  have hl0 : p0.length = m' := by omega
  unfold allL at hp
  rw [e, List.map_append, List.range_succ] at hp
  have h1 := List.append_inj hp (by simp [hl0])
  have h2 : x0.1 = m' := by simpa using h1.2
  have hp0 : allL (jj r) m' p0 := h1.1
  rw [gx_all hx (by omega) hp0, ga_L] at h3 hn
  have hr := (ga_range hx m' (by omega)).2
  rw [ga_L] at hr
  have hd : (k * ee r + m') / ee r = k := by
    rw [Nat.mul_comm, Nat.mul_add_div (ee_pos r), Nat.div_eq_of_lt (by omega), Nat.add_zero]
  have hm2 : (k * ee r + m') % ee r = m' := by
    rw [Nat.mul_comm, Nat.mul_add_mod, Nat.mod_eq_of_lt (by omega)]
  exact ⟨k * ee r + m', x, Live.more hL hx m' (by omega), by rw [hd]; exact hr, h3, by rw [hm2]; rw [h2] at hn; exact hn⟩
end Go.Proofs.YtjageagnclmnjabGreatDoor.D

namespace Go.Proofs.YtjageagnclmnjabGreatDoor.D
open Go.RowKit K
attribute [local go_sem] idx0 idx1

set_option maxHeartbeats 3200000 in
theorem start_no (r : Ru) (e : Int) (h : wrong r = e) (he : (e != 0) = true) (w : World) :
    Calls Tryz.prog 90 #[.agg #[.int .i64 r.k0, .int .i64 r.k1, .int .i64 r.r, .int .i64 r.m, .int .i64 r.j]] w fun x w' => x = .returned (.tuple #[.agg #[.int .i64 0, .int .i64 0, .int .i64 0, .int .i64 0, .int .i64 0, .int .i64 0, .int .i64 0, .int .i64 0, .int .i64 0, .int .i64 0, .int .i64 0, .int .i64 0, .int .i64 0, .int .i64 0], .int .i64 e]) ∧ Below w.heap.size w w' := by
  have p := fun v => wrong_is r e h v
  obtain ⟨k0, k1, r, m, j⟩ := r
  have Y := Sta.new (w.alloc (.cells #[.int .i64 k0, .int .i64 k1, .int .i64 r, .int .i64 m, .int .i64 j] 69)) (w.heap.size + 1) (by simp) 0 0 0 0 0 0 0 0 0 0 0 0 0 0
  have B : Below w.heap.size w ((w.alloc (.cells #[.int .i64 k0, .int .i64 k1, .int .i64 r, .int .i64 m, .int .i64 j] 69)).alloc (.cells #[.int .i64 0, .int .i64 0, .int .i64 0, .int .i64 0, .int .i64 0, .int .i64 0, .int .i64 0, .int .i64 0, .int .i64 0, .int .i64 0, .int .i64 0, .int .i64 0, .int .i64 0, .int .i64 0] 147)) := balloc (balloc (Below.refl _ _) _) _
  go_enter Tryz.func90, Tryz.ntmps90
  go_wp2_with (go_at_call 70; refine (p _).mono ?_; clear p; rintro x v ⟨rfl, b⟩; replace Y := Y.kept b; replace B := bthen B b; obtain ⟨y0, y1, y2, y3, y4, y5, y6, y7, y8, y9, y10, y11, y12, y13, g0, g1, g2, g3, g4, g5, g6, g7, g8, g9, g10, g11, g12, g13⟩ := id Y)
  refine bodyPost_ret (v := .tuple #[.agg #[.int .i64 0, .int .i64 0, .int .i64 0, .int .i64 0, .int .i64 0, .int .i64 0, .int .i64 0, .int .i64 0, .int .i64 0, .int .i64 0, .int .i64 0, .int .i64 0, .int .i64 0, .int .i64 0], .int .i64 e]) ?_ rfl ⟨rfl, ?_⟩
  · simp [results, Tryz.results90, go_sem, y0, y1, y2, y3, y4, y5, y6, y7, y8, y9, y10, y11, y12, y13]
  · repeat (with_reducible refine Below.setCell ?_ (by simp) _)
    exact B

set_option maxHeartbeats 6400000 in
theorem start_of (k0 k1 r m j : Int) (P0 Q0 S0 P1 Q1 S1 : Nat) (w : World)
    (p : ∀ v, Calls Tryz.prog 70 #[.agg #[.int .i64 k0, .int .i64 k1, .int .i64 r, .int .i64 m, .int .i64 j]] v fun e w' => e = .returned (.int .i64 0) ∧ Below v.heap.size v w')
    (s0 : ∀ v, Calls Tryz.prog 85 #[.int .i64 k0] v fun e w' => e = .returned (.tuple #[.agg #[.func (.func P0) #[] #[], .func (.func Q0) #[] #[], .func (.func S0) #[] #[]], .bool true]) ∧ Below v.heap.size v w')
    (s1 : ∀ v, Calls Tryz.prog 85 #[.int .i64 k1] v fun e w' => e = .returned (.tuple #[.agg #[.func (.func P1) #[] #[], .func (.func Q1) #[] #[], .func (.func S1) #[] #[]], .bool true]) ∧ Below v.heap.size v w')
    (e0 : ∀ args w, (callFunc P0 args).run Tryz.prog w = .ok (.enter P0 args) w) (e1 : ∀ args w, (callFunc P1 args).run Tryz.prog w = .ok (.enter P1 args) w)
    (n0 : ∀ v, Calls Tryz.prog P0 #[.int .i64 1] v fun e w' => e = .returned (.agg #[.int .i64 k0, .int .i64 1, .int .i64 (-1), .int .i64 0, .int .i64 0, .int .i64 0]) ∧ Below v.heap.size v w')
    (n1 : ∀ v, Calls Tryz.prog P1 #[.int .i64 1] v fun e w' => e = .returned (.agg #[.int .i64 k1, .int .i64 1, .int .i64 (-1), .int .i64 0, .int .i64 0, .int .i64 0]) ∧ Below v.heap.size v w') :
    Calls Tryz.prog 90 #[.agg #[.int .i64 k0, .int .i64 k1, .int .i64 r, .int .i64 m, .int .i64 j]] w fun x w' => x = .returned (.tuple #[.agg #[.int .i64 k0, .int .i64 1, .int .i64 (-1), .int .i64 0, .int .i64 0, .int .i64 0, .int .i64 k1, .int .i64 1, .int .i64 (-1), .int .i64 0, .int .i64 0, .int .i64 0, .int .i64 0, .int .i64 0], .int .i64 0]) ∧ Below w.heap.size w w' := by
  have X := (Rul.new w _ rfl k0 k1 r m j).alloc (.cells #[.int .i64 0, .int .i64 0, .int .i64 0, .int .i64 0, .int .i64 0, .int .i64 0, .int .i64 0, .int .i64 0, .int .i64 0, .int .i64 0, .int .i64 0, .int .i64 0, .int .i64 0, .int .i64 0] 147)
  have Y := Sta.new (w.alloc (.cells #[.int .i64 k0, .int .i64 k1, .int .i64 r, .int .i64 m, .int .i64 j] 69)) (w.heap.size + 1) (by simp) 0 0 0 0 0 0 0 0 0 0 0 0 0 0
  have B : Below w.heap.size w ((w.alloc (.cells #[.int .i64 k0, .int .i64 k1, .int .i64 r, .int .i64 m, .int .i64 j] 69)).alloc (.cells #[.int .i64 0, .int .i64 0, .int .i64 0, .int .i64 0, .int .i64 0, .int .i64 0, .int .i64 0, .int .i64 0, .int .i64 0, .int .i64 0, .int .i64 0, .int .i64 0, .int .i64 0, .int .i64 0] 147)) := balloc (balloc (Below.refl _ _) _) _
  obtain ⟨x0, x1, x2, x3, x4, _, _, _, _, _⟩ := id X
  go_enter Tryz.func90, Tryz.ntmps90
  go_wp2_with (go_at_call 70; refine (p _).mono ?_; clear p x0 x1 x2 x3 x4; rintro x v ⟨rfl, b⟩; have bl : w.heap.size + 1 < v.heap.size := block_lt (Y.kept b).c0; replace X := (X.kept b).alloc (.cells #[.int .i64 0, .int .i64 0, .int .i64 0, .int .i64 0, .int .i64 0, .int .i64 0, .int .i64 0, .int .i64 0, .int .i64 0, .int .i64 0, .int .i64 0, .int .i64 0, .int .i64 0, .int .i64 0] 147); replace Y := (Y.kept b).alloc (.cells #[.int .i64 0, .int .i64 0, .int .i64 0, .int .i64 0, .int .i64 0, .int .i64 0, .int .i64 0, .int .i64 0, .int .i64 0, .int .i64 0, .int .i64 0, .int .i64 0, .int .i64 0, .int .i64 0] 147); replace B := balloc (bthen B b) (.cells #[.int .i64 0, .int .i64 0, .int .i64 0, .int .i64 0, .int .i64 0, .int .i64 0, .int .i64 0, .int .i64 0, .int .i64 0, .int .i64 0, .int .i64 0, .int .i64 0, .int .i64 0, .int .i64 0] 147); have Z := Sta.new v _ rfl 0 0 0 0 0 0 0 0 0 0 0 0 0 0; obtain ⟨x0, x1, x2, x3, x4, _, _, _, _, _⟩ := id X)
  clear X x0 x1 x2 x3 x4
  go_loopw [18] (fun i wr => (i = .int .i64 0 ∧ Sta wr v.heap.size 0 0 0 0 0 0 0 0 0 0 0 0 0 0 ∨ i = .int .i64 1 ∧ Sta wr v.heap.size k0 1 (-1) 0 0 0 0 0 0 0 0 0 0 0 ∨ i = .int .i64 2 ∧ Sta wr v.heap.size k0 1 (-1) 0 0 0 k1 1 (-1) 0 0 0 0 0) ∧ Sta wr (w.heap.size + 1) 0 0 0 0 0 0 0 0 0 0 0 0 0 0 ∧ Below w.heap.size w wr) (fun i _ => 2 - (intOf i).toNat)
  case atStart => exact ⟨.inl ⟨rfl, Z⟩, Y, B⟩
  case round =>
    clear Y B Z
    obtain ⟨⟨rfl, Z⟩ | ⟨rfl, Z⟩ | ⟨rfl, Z⟩, Y, B⟩ := hrel
    · clear s1 e1 n1
      go_wp2_with (first
        | (go_at_call 85; refine (s0 _).mono ?_; clear s0; rintro x v1 ⟨rfl, b⟩; replace Z := (Z.kept b).alloc (.cells #[.func (.func P0) #[] #[], .func (.func Q0) #[] #[], .func (.func S0) #[] #[]] 135); replace Y := (Y.kept b).alloc (.cells #[.func (.func P0) #[] #[], .func (.func Q0) #[] #[], .func (.func S0) #[] #[]] 135); replace B := balloc (bthen B b) (.cells #[.func (.func P0) #[] #[], .func (.func Q0) #[] #[], .func (.func S0) #[] #[]] 135); clear b)
        | (refine (n0 _).mono ?_; clear n0; rintro x v2 ⟨rfl, b⟩; replace Z := Z.kept b; replace Y := Y.kept b; replace B := bthen B b; clear b; obtain ⟨y0, y1, y2, y3, y4, y5, y6, y7, y8, y9, y10, y11, y12, y13, g0, g1, g2, g3, g4, g5, g6, g7, g8, g9, g10, g11, g12, g13⟩ := id Z))
      go_roundw
      case rel =>
        refine ⟨.inr (.inl ⟨rfl, ((((((Z.set0 k0).set1 1).set2 (-1)).set3 0).set4 0).set5 0)⟩), ?_, ?_⟩
        · exact ((((((Y.far (by omega) _).far (by omega) _).far (by omega) _).far (by omega) _).far (by omega) _).far (by omega) _)
        · repeat (with_reducible refine Below.setCell ?_ (by show w.heap.size ≤ v.heap.size; omega) _)
          exact B
      case measure => simp [intOf]
    · clear s0 e0 n0
      go_wp2_with (first
        | (go_at_call 85; refine (s1 _).mono ?_; clear s1; rintro x v1 ⟨rfl, b⟩; replace Z := (Z.kept b).alloc (.cells #[.func (.func P1) #[] #[], .func (.func Q1) #[] #[], .func (.func S1) #[] #[]] 135); replace Y := (Y.kept b).alloc (.cells #[.func (.func P1) #[] #[], .func (.func Q1) #[] #[], .func (.func S1) #[] #[]] 135); replace B := balloc (bthen B b) (.cells #[.func (.func P1) #[] #[], .func (.func Q1) #[] #[], .func (.func S1) #[] #[]] 135); clear b)
        | (refine (n1 _).mono ?_; clear n1; rintro x v2 ⟨rfl, b⟩; replace Z := Z.kept b; replace Y := Y.kept b; replace B := bthen B b; clear b; obtain ⟨y0, y1, y2, y3, y4, y5, y6, y7, y8, y9, y10, y11, y12, y13, g0, g1, g2, g3, g4, g5, g6, g7, g8, g9, g10, g11, g12, g13⟩ := id Z))
      go_roundw
      case rel =>
        refine ⟨.inr (.inr ⟨rfl, ((((((Z.set6 k1).set7 1).set8 (-1)).set9 0).set10 0).set11 0)⟩), ?_, ?_⟩
        · exact ((((((Y.far (by omega) _).far (by omega) _).far (by omega) _).far (by omega) _).far (by omega) _).far (by omega) _)
        · repeat (with_reducible refine Below.setCell ?_ (by show w.heap.size ≤ v.heap.size; omega) _)
          exact B
      case measure => simp [intOf]
    · obtain ⟨y0, y1, y2, y3, y4, y5, y6, y7, y8, y9, y10, y11, y12, y13, g0, g1, g2, g3, g4, g5, g6, g7, g8, g9, g10, g11, g12, g13⟩ := id Z
      obtain ⟨d0, d1, d2, d3, d4, d5, d6, d7, d8, d9, d10, d11, d12, d13, f0, f1, f2, f3, f4, f5, f6, f7, f8, f9, f10, f11, f12, f13⟩ := id Y
      go_wp2
      refine bodyPost_ret (v := .tuple #[.agg #[.int .i64 k0, .int .i64 1, .int .i64 (-1), .int .i64 0, .int .i64 0, .int .i64 0, .int .i64 k1, .int .i64 1, .int .i64 (-1), .int .i64 0, .int .i64 0, .int .i64 0, .int .i64 0, .int .i64 0], .int .i64 0]) ?_ rfl ⟨rfl, ?_⟩
      · simp [results, Tryz.results90, go_sem, d0, d1, d2, d3, d4, d5, d6, d7, d8, d9, d10, d11, d12, d13]
      · repeat (with_reducible refine Below.setCell ?_ (by simp) _)
        exact B

theorem sts (k : Int) (h : 1 ≤ k ∧ k ≤ 3) : (∀ args w, (callFunc (stF k) args).run Tryz.prog w = .ok (.enter (stF k) args) w) ∧ ∀ v, Calls Tryz.prog (stF k) #[.int .i64 1] v fun e w' => e = .returned (.agg #[.int .i64 k, .int .i64 1, .int .i64 (-1), .int .i64 0, .int .i64 0, .int .i64 0]) ∧ Below v.heap.size v w' := by
  obtain rfl | rfl | rfl : k = 1 ∨ k = 2 ∨ k = 3 := by omega
  · exact ⟨enters_of Tryz.func108 (by kernel_rfl) rfl, fun v => (V.new_any 1 v).mono fun e w' q => q⟩
  · exact ⟨enters_of Tryz.func111 (by kernel_rfl) rfl, fun v => (C.new_any 1 v).mono fun e w' q => q⟩
  · exact ⟨enters_of Tryz.func25 (by kernel_rfl) rfl, fun v => (L.new_any 1 v).mono fun e w' q => q⟩

theorem start_yes (r : Ru) (h : wrong r = 0) (w : World) :
    Calls Tryz.prog 90 #[.agg #[.int .i64 r.k0, .int .i64 r.k1, .int .i64 r.r, .int .i64 r.m, .int .i64 r.j]] w fun x w' => x = .returned (.tuple #[.agg #[.int .i64 r.k0, .int .i64 1, .int .i64 (-1), .int .i64 0, .int .i64 0, .int .i64 0, .int .i64 r.k1, .int .i64 1, .int .i64 (-1), .int .i64 0, .int .i64 0, .int .i64 0, .int .i64 0, .int .i64 0], .int .i64 0]) ∧ Below w.heap.size w w' := by
  have hk := (wrong_ok.1 h).1
  unfold kinds at hk
  exact start_of r.k0 r.k1 r.r r.m r.j _ _ _ _ _ _ w (fun v => wrong_is r 0 h v) (fun v => sender_yes r.k0 hk.1 v) (fun v => sender_yes r.k1 hk.2 v) (sts r.k0 hk.1).1 (sts r.k1 hk.2).1 (sts r.k0 hk.1).2 (sts r.k1 hk.2).2

end Go.Proofs.YtjageagnclmnjabGreatDoor.D
