/- PROVED: what steady's States answers, given what its search answers; search of wrong rules. CONDITIONS: what search answers. pairs that are gathered in a row of the call's own. what slices.Reverse does to pairs that may be written. CONDITIONS: none beyond each theorem's own. -/
import Derived.Test.YtjageagnclmnjabGreatDoorB26DStart
import Derived.Test.YtjageagnclmnjabGreatDoorB13Sr
import Derived.Test.YtjageagnclmnjabGreatDoorB07Fam
namespace Go.Proofs.YtjageagnclmnjabGreatDoor.D
set_option maxRecDepth 100000
open Go.RowKit K
set_option linter.unusedVariables false

set_option maxHeartbeats 1600000 in
theorem search_wrong : SrWrong := fun r E hE he w => by
  have hst := start_no r E hE he
  have X := ((Rul.new w _ rfl r.k0 r.k1 r.r r.m r.j).alloc (.cells #[.slice none 0 0, .map none, .slice none 0 0, .slice none 0 0] 119)).alloc (.cells #[.int .i64 0] 47)
  have Y : Res4 (((w.alloc (.cells #[.int .i64 r.k0, .int .i64 r.k1, .int .i64 r.r, .int .i64 r.m, .int .i64 r.j] 69)).alloc (.cells #[.slice none 0 0, .map none, .slice none 0 0, .slice none 0 0] 119)).alloc (.cells #[.int .i64 0] 47)) (w.heap.size + 1) nil4 := by
    have y : Res4 ((w.alloc (.cells #[.int .i64 r.k0, .int .i64 r.k1, .int .i64 r.r, .int .i64 r.m, .int .i64 r.j] 69)).alloc (.cells #[.slice none 0 0, .map none, .slice none 0 0, .slice none 0 0] 119)) (w.heap.size + 1) nil4 := ⟨fun c hc => by
      rw [World.cell?_alloc_at _ _ _ _ (by simp), World.frozen?_alloc_at _ _ _ _ (by simp)]
      rcases (show c = 0 ∨ c = 1 ∨ c = 2 ∨ c = 3 by omega) with rfl | rfl | rfl | rfl <;> exact ⟨rfl, rfl⟩⟩
    exact y.same ((balloc (Below.refl _ _) _).block _ y.lt)
  have Z := Bx1.new ((w.alloc (.cells #[.int .i64 r.k0, .int .i64 r.k1, .int .i64 r.r, .int .i64 r.m, .int .i64 r.j] 69)).alloc (.cells #[.slice none 0 0, .map none, .slice none 0 0, .slice none 0 0] 119)) (w.heap.size + 2) (by simp) (.int .i64 0) 47
  have B : Below w.heap.size w (((w.alloc (.cells #[.int .i64 r.k0, .int .i64 r.k1, .int .i64 r.r, .int .i64 r.m, .int .i64 r.j] 69)).alloc (.cells #[.slice none 0 0, .map none, .slice none 0 0, .slice none 0 0] 119)).alloc (.cells #[.int .i64 0] 47)) := balloc (balloc (balloc (Below.refl _ _) _) _) _
  obtain ⟨w0, hw0⟩ : ∃ w0, ((w.alloc (.cells #[.int .i64 r.k0, .int .i64 r.k1, .int .i64 r.r, .int .i64 r.m, .int .i64 r.j] 69)).alloc (.cells #[.slice none 0 0, .map none, .slice none 0 0, .slice none 0 0] 119)).alloc (.cells #[.int .i64 0] 47) = w0 := ⟨_, rfl⟩
  rw [hw0] at X Y Z B
  obtain ⟨x0, x1, x2, x3, x4, -, -, -, -, -⟩ := id X
  go_enter Tryz.func72, Tryz.ntmps72
  go_wp2_with (go_at_call 90; refine (hst _).mono ?_; clear hst x0 x1 x2 x3 x4 hw0; rintro e v1 ⟨rfl, b⟩; replace Y := Y.same ((balloc b (.cells #[.int .i64 0, .int .i64 0, .int .i64 0, .int .i64 0, .int .i64 0, .int .i64 0, .int .i64 0, .int .i64 0, .int .i64 0, .int .i64 0, .int .i64 0, .int .i64 0, .int .i64 0, .int .i64 0] 147)).block _ Y.lt); replace Z := Z.same ((balloc b (.cells #[.int .i64 0, .int .i64 0, .int .i64 0, .int .i64 0, .int .i64 0, .int .i64 0, .int .i64 0, .int .i64 0, .int .i64 0, .int .i64 0, .int .i64 0, .int .i64 0, .int .i64 0, .int .i64 0] 147)).block _ Z.lt); replace B := balloc (bthen B b) (.cells #[.int .i64 0, .int .i64 0, .int .i64 0, .int .i64 0, .int .i64 0, .int .i64 0, .int .i64 0, .int .i64 0, .int .i64 0, .int .i64 0, .int .i64 0, .int .i64 0, .int .i64 0, .int .i64 0] 147); obtain ⟨p0, f0⟩ := Y.c 0 (by omega); obtain ⟨p1, f1⟩ := Y.c 1 (by omega); obtain ⟨p2, f2⟩ := Y.c 2 (by omega); obtain ⟨p3, f3⟩ := Y.c 3 (by omega); have p4 : (v1.alloc (.cells #[.int .i64 0, .int .i64 0, .int .i64 0, .int .i64 0, .int .i64 0, .int .i64 0, .int .i64 0, .int .i64 0, .int .i64 0, .int .i64 0, .int .i64 0, .int .i64 0, .int .i64 0, .int .i64 0] 147)).cell? ⟨w.heap.size + 1 + 1, 0, none⟩ = some (.int .i64 0) := Z.c; have f4 : (v1.alloc (.cells #[.int .i64 0, .int .i64 0, .int .i64 0, .int .i64 0, .int .i64 0, .int .i64 0, .int .i64 0, .int .i64 0, .int .i64 0, .int .i64 0, .int .i64 0, .int .i64 0, .int .i64 0, .int .i64 0] 147)).frozen? ⟨w.heap.size + 1 + 1, 0, none⟩ = false := Z.f; simp only [nil4] at p0 p1 p2 p3)
  have e1 := (Y.all nil4).far (p := ⟨w.heap.size + 1 + 1, 0, none⟩) (by simp) (.int .i64 E)
  have e2 := (Z.same (put4_heap (v1.alloc (.cells #[.int .i64 0, .int .i64 0, .int .i64 0, .int .i64 0, .int .i64 0, .int .i64 0, .int .i64 0, .int .i64 0, .int .i64 0, .int .i64 0, .int .i64 0, .int .i64 0, .int .i64 0, .int .i64 0] 147)) (w.heap.size + 1) nil4 (by omega))).set (.int .i64 E)
  have e5 := Below.setCell (p := ⟨w.heap.size + 1 + 1, 0, none⟩) (below_put4 (C := w.heap.size + 1) B (by omega) nil4) (by show w.heap.size ≤ w.heap.size + 1 + 1; omega) (.int .i64 E)
  obtain ⟨z0, -⟩ := e1.c 0 (by omega)
  obtain ⟨z1, -⟩ := e1.c 1 (by omega)
  obtain ⟨z2, -⟩ := e1.c 2 (by omega)
  obtain ⟨z3, -⟩ := e1.c 3 (by omega)
  have z4 := e2.c
  simp only [put4, nil4] at z0 z1 z2 z3 z4 e5
  refine bodyPost_ret (v := .tuple #[.agg #[.slice none 0 0, .map none, .slice none 0 0, .slice none 0 0], .int .i64 E]) (by simp [results, Tryz.f72, go_sem, z0, z1, z2, z3, z4]) rfl ⟨rfl, e5⟩

end Go.Proofs.YtjageagnclmnjabGreatDoor.D

namespace Go.Proofs.YtjageagnclmnjabGreatDoor.D
open Go.RowKit K

def flatV : List (Int × Int) → List Value
  | [] => []
  | p :: l => .int .i64 p.1 :: .int .i64 p.2 :: flatV l
theorem flatV_append (a b : List (Int × Int)) : flatV (a ++ b) = flatV a ++ flatV b := by
  induction a with
  | nil => rfl
  | cons r t ih => simp [flatV, ih]
theorem flatV_get (l : List (Int × Int)) : ∀ j, j < l.length → (flatV l)[j * 2]? = some (.int .i64 (l.getD j (0, 0)).1) ∧ (flatV l)[j * 2 + 1]? = some (.int .i64 (l.getD j (0, 0)).2) := by
  induction l with
  | nil => intro j h; simp at h
  | cons r t ih =>
    intro j h
    cases j with
    | zero => exact ⟨rfl, rfl⟩
    | succ j =>
      have := ih j (by simpa using h)
      rw [show (j + 1) * 2 = j * 2 + 1 + 1 by omega]
      exact this
theorem Tryz.info22 : (Tryz.prog.info? 67).map (fun i => (i.zero, i.size, i.bytes)) = some (some (.agg #[.int .i64 0, .int .i64 0]), 2, 16) := by kernel_rfl
theorem owned2 {w : World} {base : Nat} {t : Value} {n : Nat} {ps : List (Int × Int)} (hn : ps.length = n) (h : w.ownsRow base 67 2 t n (flatV ps)) : ∃ ao cap, t = .slice ao n cap ∧ n ≤ cap ∧ VRow w ao ps := by
  subst hn
  obtain ⟨hl, ⟨e, e2⟩ | ⟨g, cap, cur, e, hg, hh, hnc, _, hcs, htk⟩⟩ := h
  · exact ⟨none, 0, by rw [e, e2], by omega, .inl (List.eq_nil_of_length_eq_zero e2)⟩
  · refine ⟨_, cap, e, hnc, .inr ⟨g, 0, rfl, fun j hj => ?_⟩⟩
    obtain ⟨f1, f2⟩ := flatV_get ps j hj
    rw [← htk, List.getElem?_take_of_lt (by omega)] at f1 f2
    rw [Nat.zero_add]
    simp [World.cell?, hh]
    exact ⟨by simpa using f1, by simpa using f2⟩
theorem own_keptV {wr w1 : World} {base : Nat} {t : Value} {n : Nat} {xs : List Value} (h : wr.ownsRow base 67 2 t n xs) (b : Below wr.heap.size wr w1) : w1.ownsRow base 67 2 t n xs := by
  obtain ⟨hl, h2⟩ := h
  refine ⟨hl, ?_⟩
  rcases h2 with e | ⟨g, cap, cur, e, hg, hh, r⟩
  · exact .inl e
  · refine .inr ⟨g, cap, cur, e, hg, ?_, r⟩
    have : g < wr.heap.size := lt_of_block hh
    rw [b.block g this]; exact hh
/-- what has been gathered so far -/
structure VGath (w : World) (t : Value) (wr : World) (ps : List (Int × Int)) : Prop where
  own : wr.ownsRow w.heap.size 67 2 t ps.length (flatV ps)
  below : Below w.heap.size w wr
theorem VGath.start (w : World) : VGath w (.slice none 0 0) w [] := ⟨World.ownsRow_nil _ _ _ _, Below.refl _ _⟩
theorem VGath.next {w : World} {t t' : Value} {wr w2 : World} {ps : List (Int × Int)} (h : VGath w t wr ps) {x y : Int}
    (ho : w2.ownsRow w.heap.size 67 2 t' (ps.length + 1) (flatV ps ++ [.int .i64 x, .int .i64 y])) {o : Obj} (hg : (wr.alloc o).grownBy w2 t.ownBlock) : VGath w t' w2 (ps ++ [(x, y)]) := by
  refine ⟨by rw [flatV_append, List.length_append]; exact ho, ?_⟩
  have b1 := balloc h.below o
  exact b1.grown hg b1.size (fun q hq => (h.own.lt q hq).1)
theorem VGath.done {w : World} {t : Value} {wr : World} {ps : List (Int × Int)} (h : VGath w t wr ps) {n : Nat} (hn : ps.length = n) : ∃ ao cap, t = .slice ao n cap ∧ n ≤ cap ∧ VRow wr ao ps := owned2 hn (hn ▸ h.own)
theorem cell_pair_new (w : World) (x y : Int) (j : Nat) (u : Value) (h : [Value.int .i64 x, .int .i64 y][j]? = some u) : (w.alloc (.cells #[.int .i64 x, .int .i64 y] 67)).cell? ((⟨w.heap.size, 0, none⟩ : Addr).add j) = some u := by
  rw [Addr.add_lit, Nat.zero_add]
  exact (World.cell?_alloc_at (w := w) #[.int .i64 x, .int .i64 y] 67 w.heap.size j rfl).trans (by simpa using h)

end Go.Proofs.YtjageagnclmnjabGreatDoor.D

namespace Go.Proofs.YtjageagnclmnjabGreatDoor.D
open Go.RowKit
set_option linter.unusedVariables false

/-- n pairs that may be written, in block O -/
structure Pr (w : World) (O n : Nat) (F G : Nat → Int) : Prop where
  c : ∀ v, v < n → w.cell? ⟨O, v * 2, none⟩ = some (.int .i64 (F v)) ∧ w.cell? ⟨O, v * 2 + 1, none⟩ = some (.int .i64 (G v))
  fz : ∀ v, v < n → w.frozen? ⟨O, v * 2, none⟩ = false ∧ w.frozen? ⟨O, v * 2 + 1, none⟩ = false
theorem Pr.drewN {w : World} {O n : Nat} {F G : Nat → Int} (h : Pr w O n F G) (q : Nat) : Pr (w.drewN q) O n F G := ⟨h.c, h.fz⟩
theorem Pr.put {w : World} {O n : Nat} {F G F' G' : Nat → Int} (h : Pr w O n F G) {k : Nat} (hk : k < n) {x y : Int} (hx : F' k = x) (hy : G' k = y) (hF : ∀ j, j < n → j ≠ k → F' j = F j) (hG : ∀ j, j < n → j ≠ k → G' j = G j) :
    Pr ((w.setCell ⟨O, k * 2, none⟩ (.int .i64 x)).setCell ⟨O, k * 2 + 1, none⟩ (.int .i64 y)) O n F' G' := by
  refine ⟨fun j hj => ?_, fun j hj => ?_⟩
  · by_cases e : j = k
    · subst e; subst hx; subst hy
      obtain ⟨h1, h2⟩ := h.c j hk
      refine ⟨?_, ?_⟩
      · rw [World.cell?_setCell_other _ _ _ _ (fun q => by injection q with _ q _; omega)]
        exact World.cell?_setCell_same _ _ _ h1
      · exact World.cell?_setCell_same _ _ _ ((World.cell?_setCell_other _ _ _ _ (fun q => by injection q with _ q _; omega)).trans h2)
    · rw [hF j hj e, hG j hj e, World.cell?_setCell_other _ _ _ _ (fun q => by injection q with _ q _; omega), World.cell?_setCell_other _ _ _ _ (fun q => by injection q with _ q _; omega), World.cell?_setCell_other _ _ _ _ (fun q => by injection q with _ q _; omega), World.cell?_setCell_other _ _ _ _ (fun q => by injection q with _ q _; omega)]
      exact h.c j hj
  · rw [World.frozen?_setCell, World.frozen?_setCell, World.frozen?_setCell, World.frozen?_setCell]; exact h.fz j hj
theorem Pr.ext {w : World} {O n : Nat} {F G F' G' : Nat → Int} (h : Pr w O n F G) (e : ∀ j, j < n → F' j = F j ∧ G' j = G j) : Pr w O n F' G' := ⟨fun j hj => by rw [(e j hj).1, (e j hj).2]; exact h.c j hj, h.fz⟩


/-- the first k and the last k are turned -/
def rv (V : Nat → Int) (p k j : Nat) : Int := if j < k ∨ p ≤ j + k then V (p - 1 - j) else V j
theorem rv_zero (V : Nat → Int) (p j : Nat) (h : j < p) : rv V p 0 j = V j := by unfold rv; rw [if_neg (by omega)]
theorem rv_mid (V : Nat → Int) (p k j : Nat) (h1 : k ≤ j) (h2 : j + k < p) : rv V p k j = V j := by unfold rv; rw [if_neg (by omega)]
theorem rv_all (V : Nat → Int) (p k j : Nat) (hk : p ≤ 2 * k + 1) (h : j < p) : rv V p k j = V (p - 1 - j) := by
  unfold rv
  by_cases e : j < k ∨ p ≤ j + k
  · rw [if_pos e]
  · rw [if_neg e, show p - 1 - j = j by omega]
theorem rv_other (V : Nat → Int) (p k j : Nat) (h1 : j ≠ k) (h2 : j + k + 1 ≠ p) : rv V p (k + 1) j = rv V p k j := by
  unfold rv
  by_cases e : j < k ∨ p ≤ j + k
  · rw [if_pos e, if_pos (by omega)]
  · rw [if_neg e, if_neg (by omega)]
theorem rv_lo (V : Nat → Int) (p k q : Nat) (hq : k + q + 1 = p) : rv V p (k + 1) k = V q := by unfold rv; rw [if_pos (by omega), show p - 1 - k = q by omega]
theorem rv_hi (V : Nat → Int) (p k q : Nat) (hq : k + q + 1 = p) : rv V p (k + 1) q = V k := by unfold rv; rw [if_pos (by omega), show p - 1 - q = k by omega]
/-- two pairs change places -/
theorem Pr.swap {w : World} {O p : Nat} {F G : Nat → Int} {k q : Nat} (h : Pr w O p (rv F p k) (rv G p k)) (hq : k + q + 1 = p) (hlt : k < q) : Pr ((((w.setCell ⟨O, k * 2, none⟩ (.int .i64 (F q))).setCell ⟨O, k * 2 + 1, none⟩ (.int .i64 (G q))).setCell ⟨O, q * 2, none⟩ (.int .i64 (F k))).setCell ⟨O, q * 2 + 1, none⟩ (.int .i64 (G k))) O p (rv F p (k + 1)) (rv G p (k + 1)) := by
  have h1 := h.put (F' := fun j => if j = k then F q else rv F p k j) (G' := fun j => if j = k then G q else rv G p k j) (k := k) (by omega) (x := F q) (y := G q) (by simp) (by simp) (fun j _ hj => by simp [hj]) (fun j _ hj => by simp [hj])
  refine h1.put (k := q) (by omega) (rv_hi F p k q hq) (rv_hi G p k q hq) (fun j hj hjq => ?_) (fun j hj hjq => ?_)
  · show _ = (if j = k then F q else rv F p k j)
    by_cases e : j = k
    · subst e; rw [if_pos rfl]; exact rv_lo F p j q hq
    · rw [if_neg e]; exact rv_other F p k j e (by omega)
  · show _ = (if j = k then G q else rv G p k j)
    by_cases e : j = k
    · subst e; rw [if_pos rfl]; exact rv_lo G p j q hq
    · rw [if_neg e]; exact rv_other G p k j e (by omega)

set_option maxHeartbeats 1600000 in
theorem rev_pairs (O p cap B : Nat) (F G : Nat → Int) (w : World) (h : Pr w O p F G) (hB : B ≤ O) (hp : 1 ≤ p) (hp3 : p ≤ 300) :
    Calls Tryz.prog 76 #[.slice (some ⟨O, 0, none⟩) p cap] w fun e w' => e = .returned (.tuple #[]) ∧ Pr w' O p (fun j => F (p - 1 - j)) (fun j => G (p - 1 - j)) ∧ Below B w w' := by
  obtain ⟨q0, hq0⟩ : ∃ q0, p = q0 + 1 := ⟨p - 1, by omega⟩
  have hqI : (p : Int) - 1 = (q0 : Int) := by omega
  have hst : Pr w O p (rv F p 0) (rv G p 0) := h.ext fun j hj => ⟨rv_zero F p j hj, rv_zero G p j hj⟩
  replace hq0 : Hid _ := hq0
  go_enter Tryz.func76, Tryz.ntmps76
  go_wp2
  go_loopw [2, 3] (fun i j wr => ∃ k q : Nat, k + q + 1 = p ∧ 2 * k ≤ p ∧ i = .int .i64 k ∧ j = .int .i64 q ∧ Pr wr O p (rv F p k) (rv G p k) ∧ Below B w wr) (fun i _ _ => p - (intOf i).toNat)
  case atStart => exact ⟨0, q0, by have := hq0.out; omega, by omega, rfl, rfl, hst, Below.refl _ _⟩
  case round =>
    obtain ⟨k, q, hkq, hk2, rfl, rfl, hC, hBl⟩ := hrel
    clear hst hqI
    by_cases hlt : k < q
    · have d : decide ((k : Int) < (q : Int)) = true := decide_eq_true (by omega)
      obtain ⟨ck, ck'⟩ := hC.c k (by omega)
      obtain ⟨cq, cq'⟩ := hC.c q (by omega)
      obtain ⟨fk, fk'⟩ := hC.fz k (by omega)
      obtain ⟨fq, fq'⟩ := hC.fz q (by omega)
      rw [rv_mid F p k k (by omega) (by omega)] at ck
      rw [rv_mid F p k q (by omega) (by omega)] at cq
      rw [rv_mid G p k k (by omega) (by omega)] at ck'
      rw [rv_mid G p k q (by omega) (by omega)] at cq'
      have i1 : (k : Int) < (p : Int) := by omega
      have i2 : (q : Int) < (p : Int) := by omega
      obtain ⟨q1, hq1⟩ : ∃ q1, q = q1 + 1 := ⟨q - 1, by omega⟩
      have hS := (hC.drewN 1).swap hkq hlt
      have hBs : Below B w ((((wr.drew.setCell ⟨O, k * 2, none⟩ (.int .i64 (F q))).setCell ⟨O, k * 2 + 1, none⟩ (.int .i64 (G q))).setCell ⟨O, q * 2, none⟩ (.int .i64 (F k))).setCell ⟨O, q * 2 + 1, none⟩ (.int .i64 (G k))) := Below.setCell (Below.setCell (Below.setCell (Below.setCell hBl.drew (by exact hB) _) (by exact hB) _) (by exact hB) _) (by exact hB) _
      have hqJ : (q : Int) - 1 = (q1 : Int) := by omega
      generalize F k = x at *
      generalize F q = y at *
      generalize G k = x' at *
      generalize G q = y' at *
      replace hq1 : Hid _ := hq1
      replace hkq : Hid _ := hkq
      replace hS : Hid _ := hS
      have hlt2 : Hid (k < q) := hlt
      clear hC hlt
      go_wp2
      go_region
      all_goals
        go_wp2
        go_roundw
        case rel => exact ⟨k + 1, q1, by have := hq1.out; have := hkq.out; omega, by have := hq1.out; have := hkq.out; have := hlt2.out; omega, by go_num, by first | rfl | go_num, hS.out, hBs⟩
        case measure => simp [intOf]; omega
    · have d : decide ((k : Int) < (q : Int)) = false := decide_eq_false (by omega)
      have hF : Pr wr O p (fun j => F (p - 1 - j)) (fun j => G (p - 1 - j)) := hC.ext fun j hj => ⟨(rv_all F p k j (by omega) hj).symm, (rv_all G p k j (by omega) hj).symm⟩
      clear hC
      go_wp2
      go_end0
      exact ⟨rfl, hF, hBl⟩
end Go.Proofs.YtjageagnclmnjabGreatDoor.D
