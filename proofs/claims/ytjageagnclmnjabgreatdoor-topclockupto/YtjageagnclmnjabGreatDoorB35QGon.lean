/- PROVED: what slices.Reverse does to numbers that may be written. what (*climber).goneRound answers. CONDITIONS: none beyond each theorem's own. -/
import Derived.Test.YtjageagnclmnjabGreatDoorB32Lts
import Derived.Test.YtjageagnclmnjabGreatDoorB33QRepeat
import Derived.Deep.CutRange
namespace Go.Proofs.YtjageagnclmnjabGreatDoor.Q
open Go.RowKit

/-- the first k and the last k are turned -/
def rv (V : Nat → Int) (p k j : Nat) : Int := if j < k ∨ p ≤ j + k then V (p - 1 - j) else V j
theorem rv_zero (V : Nat → Int) (p j : Nat) (h : j < p) : rv V p 0 j = V j := by unfold rv; rw [if_neg (by omega)]
theorem rv_mid (V : Nat → Int) (p k j : Nat) (h1 : k ≤ j) (h2 : j + k < p) : rv V p k j = V j := by unfold rv; rw [if_neg (by omega)]
theorem rv_all (V : Nat → Int) (p k j : Nat) (hk : p ≤ 2 * k + 1) (h : j < p) : rv V p k j = V (p - 1 - j) := by
  unfold rv
  by_cases e : j < k ∨ p ≤ j + k
  · rw [if_pos e]
  · rw [if_neg e, show p - 1 - j = j by omega]
theorem rv_other (V : Nat → Int) (p k j : Nat) (h1 : j ≠ k) (h2 : j + k + 1 ≠ p) : rv V p (k + 1) j = rv V p k j := by
  unfold rv
  by_cases e : j < k ∨ p ≤ j + k
  · rw [if_pos e, if_pos (by omega)]
  · rw [if_neg e, if_neg (by omega)]

/-- two numbers change places -/
theorem Cells.swap {w : World} {O p : Nat} {V : Nat → Int} {k q : Nat} (h : Cells w O p (rv V p k)) (hq : k + q + 1 = p) (hlt : k < q) : Cells ((w.setCell ⟨O, k, none⟩ (.int .i64 (V q))).setCell ⟨O, q, none⟩ (.int .i64 (V k))) O p (rv V p (k + 1)) := by
  have h1 := h.put (V' := fun j => if j = k then V q else rv V p k j) (k := k) (by omega) (v := V q) (by simp) (fun j _ hj => by simp [hj])
  refine h1.put (k := q) (by omega) ?_ fun j hj hjq => ?_
  · unfold rv; rw [if_pos (by omega), show p - 1 - q = k by omega]
  · show _ = (if j = k then V q else rv V p k j)
    by_cases e : j = k
    · subst e; rw [if_pos rfl]; unfold rv; rw [if_pos (by omega), show p - 1 - j = q by omega]
    · rw [if_neg e]; exact rv_other V p k j e (by omega)

set_option maxHeartbeats 1600000 in
theorem rev_any (O p cap B : Nat) (V : Nat → Int) (w : World) (h : Cells w O p V) (hB : B ≤ O) (hp : 1 ≤ p) (hp3 : p ≤ 300) :
    Calls Tryz.prog 97 #[.slice (some ⟨O, 0, none⟩) p cap] w fun e w' => e = .returned (.tuple #[]) ∧ Cells w' O p (fun j => V (p - 1 - j)) ∧ Below B w w' := by
  obtain ⟨q0, hq0⟩ : ∃ q0, p = q0 + 1 := ⟨p - 1, by omega⟩
  have hqI : (p : Int) - 1 = (q0 : Int) := by omega
  have hst : Cells w O p (rv V p 0) := h.ext fun j hj => rv_zero V p j hj
  replace hq0 : Hid _ := hq0
  go_enter Tryz.func97, Tryz.ntmps97
  go_wp2
  go_loopw [2, 3] (fun i j wr => ∃ k q : Nat, k + q + 1 = p ∧ 2 * k ≤ p ∧ i = .int .i64 k ∧ j = .int .i64 q ∧ Cells wr O p (rv V p k) ∧ Below B w wr) (fun i _ _ => p - (intOf i).toNat)
  case atStart => exact ⟨0, q0, by have := hq0.out; omega, by omega, rfl, rfl, hst, Below.refl _ _⟩
  case round =>
    obtain ⟨k, q, hkq, hk2, rfl, rfl, hC, hBl⟩ := hrel
    clear hst hqI
    by_cases hlt : k < q
    · have d : decide ((k : Int) < (q : Int)) = true := decide_eq_true (by omega)
      have ck := hC.c k (by omega)
      have cq := hC.c q (by omega)
      have fk := hC.fz k (by omega)
      have fq := hC.fz q (by omega)
      rw [rv_mid V p k k (by omega) (by omega)] at ck
      rw [rv_mid V p k q (by omega) (by omega)] at cq
      have i1 : (k : Int) < (p : Int) := by omega
      have i2 : (q : Int) < (p : Int) := by omega
      obtain ⟨q1, hq1⟩ : ∃ q1, q = q1 + 1 := ⟨q - 1, by omega⟩
      have hS := hC.drew.swap hkq hlt
      have hBs : Below B w ((wr.drew.setCell ⟨O, k, none⟩ (.int .i64 (V q))).setCell ⟨O, q, none⟩ (.int .i64 (V k))) := Below.setCell (Below.setCell hBl.drew (by exact hB) _) (by exact hB) _
      have hqJ : (q : Int) - 1 = (q1 : Int) := by omega
      generalize V k = x at *
      generalize V q = y at *
      replace hq1 : Hid _ := hq1
      replace hkq : Hid _ := hkq
      replace hS : Hid _ := hS
      have hlt2 : Hid (k < q) := hlt
      clear hC hlt
      go_wp2
      go_region
      all_goals
        go_wp2
        go_roundw
        case rel => exact ⟨k + 1, q1, by have := hq1.out; have := hkq.out; omega, by have := hq1.out; have := hkq.out; have := hlt2.out; omega, by go_num, by first | rfl | go_num, hS.out, hBs⟩
        case measure => simp [intOf]; omega
    · have d : decide ((k : Int) < (q : Int)) = false := decide_eq_false (by omega)
      have hF : Cells wr O p (fun j => V (p - 1 - j)) := hC.ext fun j hj => (rv_all V p k j (by omega) hj).symm
      clear hC
      go_wp2
      go_end0
      exact ⟨rfl, hF, hBl⟩

end Go.Proofs.YtjageagnclmnjabGreatDoor.Q

namespace Go.Proofs.YtjageagnclmnjabGreatDoor.Q
open Go.RowKit

/-- how long a slice is -/
def lenOfV : Value → Nat
  | .slice _ n _ => n
  | _ => 0
/-- the numbers of the way round, from its beginning on -/
def cyc (n : Nat) (es : List Eg) (s : St) (v p : Nat) (j : Nat) : Int := s.l (nd es s v (n + (p - 1 - j)))

/-- a row of the call's own, as numbers that may be written -/
theorem owned_cells {w : World} {base : Nat} {t : Value} {f : Nat → Int} {p : Nat} (hp : 0 < p) (h : w.ownsRow base 3 1 t (outs f p).length ((outs f p).map (Value.int .i64))) :
    ∃ g cap, t = .slice (some ⟨g, 0, none⟩) p cap ∧ base ≤ g ∧ p ≤ cap ∧ Cells w g p f := by
  rw [outs_len] at h
  obtain ⟨hl, ⟨e, e2⟩ | ⟨g, cap, cur, e, hg, hh, hc, _, _, htk⟩⟩ := h
  · omega
  · refine ⟨g, cap, e, hg, hc, fun j hj => ?_, fun j _ => by simp [World.frozen?, hh]⟩
    have : ((outs f p).map (Value.int .i64))[j]? = some (.int .i64 (f j)) := by simp [outs, hj]
    rw [← htk, List.getElem?_take_of_lt (by omega)] at this
    simp [World.cell?, hh]
    simpa using this

set_option maxRecDepth 100000 in
set_option maxHeartbeats 3200000 in
theorem gone_any (n : Nat) (es : List Eg) (hG : Gph n es) (s : St) (v p : Nat) (hR : Rnd n es s v p) (P M A : Nat) (a : Option Addr) (cap : Nat) (w : World) (hE : GRow w a es) (hC : Cb w P M A n s) :
    Calls Tryz.prog 75 #[.pointer (some ⟨P, 0, none⟩), .agg #[.int .i64 n, .slice a es.length cap]] w fun e w' => ∃ g c, e = .returned (.slice (some ⟨g, 0, none⟩) p c) ∧ p ≤ c ∧ Cells w' g p (cyc n es s v p) ∧ Below w.heap.size w w' := by
  obtain ⟨i0, hi, hz0, hz1, hz2⟩ := info_parts Tryz.info3
  have hm4 := hG.m4
  have hn3 := hG.n3
  have hB0 : Below w.heap.size w (w.alloc (.cells #[.int .i64 n, .slice a es.length cap] 91)) := balloc (Below.refl _ _) _
  have K0 := Gb.new w n a es.length cap
  have hE0 := hE.kept hB0
  have hC0 := hC.kept hB0
  obtain ⟨m, hm⟩ : ∃ m, es.length = m := ⟨_, rfl⟩
  have hlm : Hid (es.length = m) := hm
  rw [hm] at hm4 hB0 K0 hE0 hC0 ⊢
  clear hm hE hC
  obtain ⟨w0, hw0⟩ : ∃ w0, w.alloc (.cells #[.int .i64 n, .slice a m cap] 91) = w0 := ⟨_, rfl⟩
  rw [hw0] at hB0 K0 hE0 hC0
  have hRr : s.r = (v : Int) := hR.rv
  have hnd0 : Hid (nd es s v 0 = v) := rfl
  have hend : Hid (∀ j, j < p → cyc n es s v p j = s.l (nd es s v (n + (p - 1 - j)))) := fun j _ => rfl
  have p1 := hR.p1
  have pn := hR.pn
  have hst : Gath w0 (.slice none 0 0) w0 (outs (fun j => s.l (nd es s v (n + j))) 0) := Gath.start w0
  obtain ⟨k0, k1⟩ := id K0
  obtain ⟨c0, c1, c2, f2, cd, cl, pm, pa, ma⟩ := id hC0
  rw [hRr] at c2
  replace hRr : Hid _ := hRr
  clear f2 cd pm pa ma
  have hround : Hid (Rnd n es s v p) := hR
  clear hR
  go_enter Tryz.func75, Tryz.ntmps75
  go_wp2
  go_loopw [5, 14] (fun x i wr => ∃ t : Nat, t ≤ n ∧ i = .int .i64 t ∧ x = .int .i64 (nd es s v t) ∧ Below w0.heap.size w0 wr) (fun _ i _ => n - (intOf i).toNat)
  case atStart => exact ⟨0, Nat.zero_le _, rfl, rfl, Below.refl _ _⟩
  case round =>
    obtain ⟨t, ht, rfl, rfl, hB⟩ := hrel
    clear k0 k1 c0 c1 c2
    by_cases hlt : t < n
    · have R := hround.out
      obtain ⟨q, g1, g2, g3, g4⟩ := R.hl t
      have hn1 := R.hn t
      have hC1 := hC0.kept hB
      have cx := hC1.cl.c _ hn1
      have c1 := hC1.c1
      rw [g1] at cx
      have q2 := hlm.out
      obtain ⟨k0, k1⟩ := K0.kept hB
      obtain ⟨b, off, rfl, e1⟩ := (hE0.kept hB).at (by omega)
      obtain ⟨ex, _, _⟩ := e1 q g2
      rw [g4] at ex
      have htI : (t : Int) < (n : Int) := by omega
      have hqI : (q : Int) < (m : Int) := by omega
      have hnI : ((nd es s v t : Nat) : Int) < (n : Int) := by omega
      obtain ⟨y, hy⟩ : ∃ y, nd es s v (t + 1) = y := ⟨_, rfl⟩
      rw [hy] at ex
      replace hy : Hid _ := hy
      generalize nd es s v t = x at *
      clear e1 g1 g2 g3 g4 R q2 hst cl hC1
      go_wp2
      go_quiet (fail)
      go_wp2
      go_roundw
      case rel => exact ⟨t + 1, by omega, by go_num, by rw [hy.out], below_drewN hB _⟩
      case measure => simp [intOf]; omega
    · obtain rfl : t = n := by omega
      clear hlt
      have hstB : Gath w0 (.slice none 0 0) wr (outs (fun j => s.l (nd es s v (t + j))) 0) := ⟨World.ownsRow_nil _ _ _ _, hB⟩
      obtain ⟨x0, hx0⟩ : ∃ x0, nd es s v t = x0 := ⟨_, rfl⟩
      rw [hx0]
      replace hx0 : Hid _ := hx0
      clear hst hB
      go_wp2
      go_loopw [6, 7] (fun c x wr => ∃ k : Nat, k ≤ p ∧ x = .int .i64 (nd es s v (t + k)) ∧ Gath w0 c wr (outs (fun j => s.l (nd es s v (t + j))) k)) (fun c _ _ => p - lenOfV c)
      case atStart => exact ⟨0, by omega, by rw [Nat.add_zero, hx0.out], hstB⟩
      case round =>
        obtain ⟨k, hk, rfl, hG⟩ := hrel
        clear hstB
        have R := hround.out
        have hown := hG.own
        obtain ⟨ao, cp, rfl, hcp, _⟩ := owned_cap hG.own
        by_cases hlt : k < p
        · obtain ⟨q, g1, g2, g3, g4⟩ := R.hl (t + k)
          have hn1 := R.hn (t + k)
          have hfst : k ≠ 0 → nd es s v (t + k) ≠ x0 := fun h => by rw [← hx0.out]; exact R.fst k (by omega) hlt
          have hC1 := hC0.kept hG.below
          have cx := hC1.cl.c _ hn1
          have c1 := hC1.c1
          rw [g1] at cx
          have q2 := hlm.out
          have hnI : ((nd es s v (t + k) : Nat) : Int) < (t : Int) := by omega
          have hqI : (q : Int) < (m : Int) := by omega
          obtain ⟨y, hy⟩ : ∃ y, nd es s v (t + (k + 1)) = y := ⟨_, rfl⟩
          rw [show t + k + 1 = t + (k + 1) by omega, hy] at g4
          replace hy : Hid _ := hy
          have hl0 := outs_len (fun j => s.l (nd es s v (t + j))) k
          rw [hl0] at hown hcp hG ⊢
          have hxx : Hid ((q : Int) = (fun j => s.l (nd es s v (t + j))) k) := g1.symm
          obtain ⟨b, off, rfl, _⟩ := (hE0.kept hG.below).at (by omega)
          have hed : Hid (∀ w', GRow w' (some ⟨b, off, none⟩) es → w'.cell? ⟨b, off + q * 3, none⟩ = some (.int .i64 (y : Int))) := fun w' h => by
            obtain ⟨b', off', e, h1⟩ := h.at (by omega)
            injection e with e
            injection e with e1 e2
            subst e1 e2
            rw [← g4]; exact (h1 q g2).1
          have hcl : Hid (∀ w', Cb w' P M A t s → w'.cell? ⟨A, nd es s v (t + k), none⟩ = some (.int .i64 (q : Int))) := fun w' h => by rw [← g1]; exact h.cl.c _ hn1
          have hr1 : Hid (nd es s v (t + (k + 1)) = y) := hy
          obtain ⟨x, hx⟩ : ∃ x, nd es s v (t + k) = x := ⟨_, rfl⟩
          rw [hx] at cx hnI hfst hcl ⊢
          have hd : (((k : Int) == 0) = true) ∨ (((k : Int) == 0) = false ∧ ((x : Int) != (x0 : Int)) = true) := by
            by_cases h : k = 0
            · exact .inl (beq_iff_eq.2 (by omega))
            · exact .inr ⟨beq_eq_false_iff_ne.2 (by omega), bne_iff_ne.2 (by have := hfst h; omega)⟩
          have hcn := cell_one_new wr (.int .i64 (q : Int)) 3
          replace hcn : Hid _ := hcn
          replace hl0 : Hid _ := hl0
          clear hfst g1 g2 g3 g4 R q2 cl hC1 hx hy
          rcases hd with d0 | ⟨d0, d1⟩
          all_goals
            go_upto_region 10 with (fail)
            have hsz := hG.below.size
            have hlv : Hid (lenOfV (.slice ao k cp) = k) := rfl
            generalize Value.slice ao k cp = cc at hG hown hlv ⊢
            go_wp2_with (at_builtin; refine wpList_append_own _ rfl _ _ 24 rfl w0.heap.size 3 i0 (.int .i64 0) 1 8 Tryz.underlying24 hi hz0 hz1 hz2 rfl (by decide) _ _ _ rfl (hown.alloc _) ⟨wr.heap.size, 0, none⟩ 1 1 [.int .i64 (q : Int)] rfl rfl hcn.out (by simp [Value.oneCell']) (by unfold maxLen; omega) (by omega) (by simp; omega) ?_; intro t' w2 hown' hgrow _; have hS : Gath w0 t' w2 (outs (fun j => s.l (nd es s v (t + j))) (k + 1)) := hG.next (Below.refl _ _) hxx.out (by rw [hl0.out]; exact hown') hgrow; clear hown' hgrow hown hcn; obtain ⟨k0, k1⟩ := K0.kept hS.below; have c1 := (hC0.kept hS.below).c1; have cx := hcl.out _ (hC0.kept hS.below); have ex := hed.out _ (hE0.kept hS.below))
            go_quiet (fail)
            go_wp2
            go_roundw
            case rel => exact ⟨k + 1, by omega, by rw [hr1.out], ⟨own_drew hS.own _, below_drewN hS.below _⟩⟩
            case measure =>
              obtain ⟨_, _, e, _⟩ := owned_cap hS.own
              have e2 : lenOfV t' = k + 1 := by rw [e]; exact outs_len _ _
              have e3 := hlv.out
              show p - lenOfV t' < p - k
              omega
        · obtain rfl : k = p := by omega
          obtain ⟨g, cap', e, hg, hc, hF⟩ := owned_cells (by omega) hG.own
          injection e with e1 e2 e3
          subst e1 e3
          have hl0 := outs_len (fun j => s.l (nd es s v (t + j))) k
          rw [hl0]
          have hb : nd es s v (t + k) = x0 := R.back.trans hx0.out
          rw [hb]
          have d0 : ((k : Int) == 0) = false := beq_eq_false_iff_ne.2 (by omega)
          have d1 : ((x0 : Int) != (x0 : Int)) = false := bne_self_eq_false _
          have hrev := rev_any g k cp w0.heap.size _ wr hF hg p1 (by omega)
          have hGB := hG.below
          clear hG hown hcp hF e2 hl0 hb
          go_wp2_with (go_at_call 97; refine hrev.mono ?_; rintro e w3 ⟨rfl, hF3, b3⟩; clear hrev)
          go_ret
          exact ⟨g, cp, rfl, hc, hF3.ext fun j _ => rfl, bthen hB0 (hGB.trans b3)⟩

end Go.Proofs.YtjageagnclmnjabGreatDoor.Q
