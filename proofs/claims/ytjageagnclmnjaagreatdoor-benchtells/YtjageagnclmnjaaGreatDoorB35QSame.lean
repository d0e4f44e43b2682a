/- PROVED: what slices.Reverse does to numbers that may be written. what (*climber).goneRound answers. what potential.isNode and potential.Wrong answer. what potential.Most and potential.Cycle answer. what slices.Equal and the document's own SameInts answer, by walks of their texts. CONDITIONS: none beyond each theorem's own. -/
import Derived.Test.YtjageagnclmnjaaGreatDoorB32QEdg
import Derived.Test.YtjageagnclmnjaaGreatDoorB33QRepeat
import Derived.Deep.CutRange
import Derived.Test.YtjageagnclmnjaaGreatDoorB34QClb
namespace Go.Proofs.YtjageagnclmnjaaGreatDoor.Q
open Go.RowKit

/-- the first k and the last k are turned -/
def rv (V : Nat → Int) (p k j : Nat) : Int := if j < k ∨ p ≤ j + k then V (p - 1 - j) else V j
theorem rv_zero (V : Nat → Int) (p j : Nat) (h : j < p) : rv V p 0 j = V j := by unfold rv; rw [if_neg (by omega)]
theorem rv_mid (V : Nat → Int) (p k j : Nat) (h1 : k ≤ j) (h2 : j + k < p) : rv V p k j = V j := by unfold rv; rw [if_neg (by omega)]
theorem rv_all (V : Nat → Int) (p k j : Nat) (hk : p ≤ 2 * k + 1) (h : j < p) : rv V p k j = V (p - 1 - j) := by
  unfold rv
  by_cases e : j < k ∨ p ≤ j + k
  · rw [if_pos e]
  · rw [if_neg e, show p - 1 - j = j by omega]
theorem rv_other (V : Nat → Int) (p k j : Nat) (h1 : j ≠ k) (h2 : j + k + 1 ≠ p) : rv V p (k + 1) j = rv V p k j := by
  unfold rv
  by_cases e : j < k ∨ p ≤ j + k
  · rw [if_pos e, if_pos (by omega)]
  · rw [if_neg e, if_neg (by omega)]

/-- two numbers change places -/
theorem Cells.swap {w : World} {O p : Nat} {V : Nat → Int} {k q : Nat} (h : Cells w O p (rv V p k)) (hq : k + q + 1 = p) (hlt : k < q) : Cells ((w.setCell ⟨O, k, none⟩ (.int .i64 (V q))).setCell ⟨O, q, none⟩ (.int .i64 (V k))) O p (rv V p (k + 1)) := by
  have h1 := h.put (V' := fun j => if j = k then V q else rv V p k j) (k := k) (by omega) (v := V q) (by simp) (fun j _ hj => by simp [hj])
  refine h1.put (k := q) (by omega) ?_ fun j hj hjq => ?_
  · unfold rv; rw [if_pos (by omega), show p - 1 - q = k by omega]
  · show _ = (if j = k then V q else rv V p k j)
    by_cases e : j = k
    · subst e; rw [if_pos rfl]; unfold rv; rw [if_pos (by omega), show p - 1 - j = q by omega]
    · rw [if_neg e]; exact rv_other V p k j e (by omega)

set_option maxHeartbeats 1600000 in
theorem rev_any (O p cap B : Nat) (V : Nat → Int) (w : World) (h : Cells w O p V) (hB : B ≤ O) (hp : 1 ≤ p) (hp3 : p ≤ 300) :
    Calls Tryz.prog 86 #[.slice (some ⟨O, 0, none⟩) p cap] w fun e w' => e = .returned (.tuple #[]) ∧ Cells w' O p (fun j => V (p - 1 - j)) ∧ Below B w w' := by
  obtain ⟨q0, hq0⟩ : ∃ q0, p = q0 + 1 := ⟨p - 1, by omega⟩
  have hqI : (p : Int) - 1 = (q0 : Int) := by omega
  have hst : Cells w O p (rv V p 0) := h.ext fun j hj => rv_zero V p j hj
  replace hq0 : Hid _ := hq0
  go_enter Tryz.func86, Tryz.ntmps86
  go_wp2
  go_loopw [2, 3] (fun i j wr => ∃ k q : Nat, k + q + 1 = p ∧ 2 * k ≤ p ∧ i = .int .i64 k ∧ j = .int .i64 q ∧ Cells wr O p (rv V p k) ∧ Below B w wr) (fun i _ _ => p - (intOf i).toNat)
  case atStart => exact ⟨0, q0, by have := hq0.out; omega, by omega, rfl, rfl, hst, Below.refl _ _⟩
  case round =>
    obtain ⟨k, q, hkq, hk2, rfl, rfl, hC, hBl⟩ := hrel
    clear hst hqI
    by_cases hlt : k < q
    · have d : decide ((k : Int) < (q : Int)) = true := decide_eq_true (by omega)
      have ck := hC.c k (by omega)
      have cq := hC.c q (by omega)
      have fk := hC.fz k (by omega)
      have fq := hC.fz q (by omega)
      rw [rv_mid V p k k (by omega) (by omega)] at ck
      rw [rv_mid V p k q (by omega) (by omega)] at cq
      have i1 : (k : Int) < (p : Int) := by omega
      have i2 : (q : Int) < (p : Int) := by omega
      obtain ⟨q1, hq1⟩ : ∃ q1, q = q1 + 1 := ⟨q - 1, by omega⟩
      have hS := hC.drew.swap hkq hlt
      have hBs : Below B w ((wr.drew.setCell ⟨O, k, none⟩ (.int .i64 (V q))).setCell ⟨O, q, none⟩ (.int .i64 (V k))) := Below.setCell (Below.setCell hBl.drew (by exact hB) _) (by exact hB) _
      have hqJ : (q : Int) - 1 = (q1 : Int) := by omega
      generalize V k = x at *
      generalize V q = y at *
      replace hq1 : Hid _ := hq1
      replace hkq : Hid _ := hkq
      replace hS : Hid _ := hS
      have hlt2 : Hid (k < q) := hlt
      clear hC hlt
      go_wp2
      go_region
      all_goals
        go_wp2
        go_roundw
        case rel => exact ⟨k + 1, q1, by have := hq1.out; have := hkq.out; omega, by have := hq1.out; have := hkq.out; have := hlt2.out; omega, by go_num, by first | rfl | go_num, hS.out, hBs⟩
        case measure => simp [intOf]; omega
    · have d : decide ((k : Int) < (q : Int)) = false := decide_eq_false (by omega)
      have hF : Cells wr O p (fun j => V (p - 1 - j)) := hC.ext fun j hj => (rv_all V p k j (by omega) hj).symm
      clear hC
      go_wp2
      go_end0
      exact ⟨rfl, hF, hBl⟩

end Go.Proofs.YtjageagnclmnjaaGreatDoor.Q

namespace Go.Proofs.YtjageagnclmnjaaGreatDoor.Q
open Go.RowKit

/-- how long a slice is -/
def lenOfV : Value → Nat
  | .slice _ n _ => n
  | _ => 0
/-- the numbers of the way round, from its beginning on -/
def cyc (n : Nat) (es : List Eg) (s : St) (v p : Nat) (j : Nat) : Int := s.l (nd es s v (n + (p - 1 - j)))

/-- a row of the call's own, as numbers that may be written -/
theorem owned_cells {w : World} {base : Nat} {t : Value} {f : Nat → Int} {p : Nat} (hp : 0 < p) (h : w.ownsRow base 3 1 t (outs f p).length ((outs f p).map (Value.int .i64))) :
    ∃ g cap, t = .slice (some ⟨g, 0, none⟩) p cap ∧ base ≤ g ∧ p ≤ cap ∧ Cells w g p f := by
  rw [outs_len] at h
  obtain ⟨hl, ⟨e, e2⟩ | ⟨g, cap, cur, e, hg, hh, hc, _, _, htk⟩⟩ := h
  · omega
  · refine ⟨g, cap, e, hg, hc, fun j hj => ?_, fun j _ => by simp [World.frozen?, hh]⟩
    have : ((outs f p).map (Value.int .i64))[j]? = some (.int .i64 (f j)) := by simp [outs, hj]
    rw [← htk, List.getElem?_take_of_lt (by omega)] at this
    simp [World.cell?, hh]
    simpa using this

set_option maxRecDepth 100000 in
set_option maxHeartbeats 3200000 in
theorem gone_any (n : Nat) (es : List Eg) (hG : Gph n es) (s : St) (v p : Nat) (hR : Rnd n es s v p) (P M A : Nat) (a : Option Addr) (cap : Nat) (w : World) (hE : GRow w a es) (hC : Cb w P M A n s) :
    Calls Tryz.prog 55 #[.pointer (some ⟨P, 0, none⟩), .agg #[.int .i64 n, .slice a es.length cap]] w fun e w' => ∃ g c, e = .returned (.slice (some ⟨g, 0, none⟩) p c) ∧ p ≤ c ∧ Cells w' g p (cyc n es s v p) ∧ Below w.heap.size w w' := by
  obtain ⟨i0, hi, hz0, hz1, hz2⟩ := info_parts Tryz.info3
  have hm4 := hG.m4
  have hn3 := hG.n3
  have hB0 : Below w.heap.size w (w.alloc (.cells #[.int .i64 n, .slice a es.length cap] 52)) := balloc (Below.refl _ _) _
  have K0 := Gb.new w n a es.length cap
  have hE0 := hE.kept hB0
  have hC0 := hC.kept hB0
  obtain ⟨m, hm⟩ : ∃ m, es.length = m := ⟨_, rfl⟩
  have hlm : Hid (es.length = m) := hm
  rw [hm] at hm4 hB0 K0 hE0 hC0 ⊢
  clear hm hE hC
  obtain ⟨w0, hw0⟩ : ∃ w0, w.alloc (.cells #[.int .i64 n, .slice a m cap] 52) = w0 := ⟨_, rfl⟩
  rw [hw0] at hB0 K0 hE0 hC0
  have hRr : s.r = (v : Int) := hR.rv
  have hnd0 : Hid (nd es s v 0 = v) := rfl
  have hend : Hid (∀ j, j < p → cyc n es s v p j = s.l (nd es s v (n + (p - 1 - j)))) := fun j _ => rfl
  have p1 := hR.p1
  have pn := hR.pn
  have hst : Gath w0 (.slice none 0 0) w0 (outs (fun j => s.l (nd es s v (n + j))) 0) := Gath.start w0
  obtain ⟨k0, k1⟩ := id K0
  obtain ⟨c0, c1, c2, f2, cd, cl, pm, pa, ma⟩ := id hC0
  rw [hRr] at c2
  replace hRr : Hid _ := hRr
  clear f2 cd pm pa ma
  have hround : Hid (Rnd n es s v p) := hR
  clear hR
  go_enter Tryz.func55, Tryz.ntmps55
  go_wp2
  go_loopw [5, 14] (fun x i wr => ∃ t : Nat, t ≤ n ∧ i = .int .i64 t ∧ x = .int .i64 (nd es s v t) ∧ Below w0.heap.size w0 wr) (fun _ i _ => n - (intOf i).toNat)
  case atStart => exact ⟨0, Nat.zero_le _, rfl, rfl, Below.refl _ _⟩
  case round =>
    obtain ⟨t, ht, rfl, rfl, hB⟩ := hrel
    clear k0 k1 c0 c1 c2
    by_cases hlt : t < n
    · have R := hround.out
      obtain ⟨q, g1, g2, g3, g4⟩ := R.hl t
      have hn1 := R.hn t
      have hC1 := hC0.kept hB
      have cx := hC1.cl.c _ hn1
      have c1 := hC1.c1
      rw [g1] at cx
      have q2 := hlm.out
      obtain ⟨k0, k1⟩ := K0.kept hB
      obtain ⟨b, off, rfl, e1⟩ := (hE0.kept hB).at (by omega)
      obtain ⟨ex, _, _⟩ := e1 q g2
      rw [g4] at ex
      have htI : (t : Int) < (n : Int) := by omega
      have hqI : (q : Int) < (m : Int) := by omega
      have hnI : ((nd es s v t : Nat) : Int) < (n : Int) := by omega
      obtain ⟨y, hy⟩ : ∃ y, nd es s v (t + 1) = y := ⟨_, rfl⟩
      rw [hy] at ex
      replace hy : Hid _ := hy
      generalize nd es s v t = x at *
      clear e1 g1 g2 g3 g4 R q2 hst cl hC1
      go_wp2
      go_quiet (fail)
      go_wp2
      go_roundw
      case rel => exact ⟨t + 1, by omega, by go_num, by rw [hy.out], below_drewN hB _⟩
      case measure => simp [intOf]; omega
    · obtain rfl : t = n := by omega
      clear hlt
      have hstB : Gath w0 (.slice none 0 0) wr (outs (fun j => s.l (nd es s v (t + j))) 0) := ⟨World.ownsRow_nil _ _ _ _, hB⟩
      obtain ⟨x0, hx0⟩ : ∃ x0, nd es s v t = x0 := ⟨_, rfl⟩
      rw [hx0]
      replace hx0 : Hid _ := hx0
      clear hst hB
      go_wp2
      go_loopw [6, 7] (fun c x wr => ∃ k : Nat, k ≤ p ∧ x = .int .i64 (nd es s v (t + k)) ∧ Gath w0 c wr (outs (fun j => s.l (nd es s v (t + j))) k)) (fun c _ _ => p - lenOfV c)
      case atStart => exact ⟨0, by omega, by rw [Nat.add_zero, hx0.out], hstB⟩
      case round =>
        obtain ⟨k, hk, rfl, hG⟩ := hrel
        clear hstB
        have R := hround.out
        have hown := hG.own
        obtain ⟨ao, cp, rfl, hcp, _⟩ := owned_cap hG.own
        by_cases hlt : k < p
        · obtain ⟨q, g1, g2, g3, g4⟩ := R.hl (t + k)
          have hn1 := R.hn (t + k)
          have hfst : k ≠ 0 → nd es s v (t + k) ≠ x0 := fun h => by rw [← hx0.out]; exact R.fst k (by omega) hlt
          have hC1 := hC0.kept hG.below
          have cx := hC1.cl.c _ hn1
          have c1 := hC1.c1
          rw [g1] at cx
          have q2 := hlm.out
          have hnI : ((nd es s v (t + k) : Nat) : Int) < (t : Int) := by omega
          have hqI : (q : Int) < (m : Int) := by omega
          obtain ⟨y, hy⟩ : ∃ y, nd es s v (t + (k + 1)) = y := ⟨_, rfl⟩
          rw [show t + k + 1 = t + (k + 1) by omega, hy] at g4
          replace hy : Hid _ := hy
          have hl0 := outs_len (fun j => s.l (nd es s v (t + j))) k
          rw [hl0] at hown hcp hG ⊢
          have hxx : Hid ((q : Int) = (fun j => s.l (nd es s v (t + j))) k) := g1.symm
          obtain ⟨b, off, rfl, _⟩ := (hE0.kept hG.below).at (by omega)
          have hed : Hid (∀ w', GRow w' (some ⟨b, off, none⟩) es → w'.cell? ⟨b, off + q * 3, none⟩ = some (.int .i64 (y : Int))) := fun w' h => by
            obtain ⟨b', off', e, h1⟩ := h.at (by omega)
            injection e with e
            injection e with e1 e2
            subst e1 e2
            rw [← g4]; exact (h1 q g2).1
          have hcl : Hid (∀ w', Cb w' P M A t s → w'.cell? ⟨A, nd es s v (t + k), none⟩ = some (.int .i64 (q : Int))) := fun w' h => by rw [← g1]; exact h.cl.c _ hn1
          have hr1 : Hid (nd es s v (t + (k + 1)) = y) := hy
          obtain ⟨x, hx⟩ : ∃ x, nd es s v (t + k) = x := ⟨_, rfl⟩
          rw [hx] at cx hnI hfst hcl ⊢
          have hd : (((k : Int) == 0) = true) ∨ (((k : Int) == 0) = false ∧ ((x : Int) != (x0 : Int)) = true) := by
            by_cases h : k = 0
            · exact .inl (beq_iff_eq.2 (by omega))
            · exact .inr ⟨beq_eq_false_iff_ne.2 (by omega), bne_iff_ne.2 (by have := hfst h; omega)⟩
          have hcn := cell_one_new wr (.int .i64 (q : Int)) 3
          replace hcn : Hid _ := hcn
          replace hl0 : Hid _ := hl0
          clear hfst g1 g2 g3 g4 R q2 cl hC1 hx hy
          rcases hd with d0 | ⟨d0, d1⟩
          all_goals
            go_upto_region 10 with (fail)
            have hsz := hG.below.size
            have hlv : Hid (lenOfV (.slice ao k cp) = k) := rfl
            generalize Value.slice ao k cp = cc at hG hown hlv ⊢
            go_wp2_with (at_builtin; refine wpList_append_own _ rfl _ _ 66 rfl w0.heap.size 3 i0 (.int .i64 0) 1 8 Tryz.underlying66 hi hz0 hz1 hz2 rfl (by decide) _ _ _ rfl (hown.alloc _) ⟨wr.heap.size, 0, none⟩ 1 1 [.int .i64 (q : Int)] rfl rfl hcn.out (by simp [Value.oneCell']) (by unfold maxLen; omega) (by omega) (by simp; omega) ?_; intro t' w2 hown' hgrow _; have hS : Gath w0 t' w2 (outs (fun j => s.l (nd es s v (t + j))) (k + 1)) := hG.next (Below.refl _ _) hxx.out (by rw [hl0.out]; exact hown') hgrow; clear hown' hgrow hown hcn; obtain ⟨k0, k1⟩ := K0.kept hS.below; have c1 := (hC0.kept hS.below).c1; have cx := hcl.out _ (hC0.kept hS.below); have ex := hed.out _ (hE0.kept hS.below))
            go_quiet (fail)
            go_wp2
            go_roundw
            case rel => exact ⟨k + 1, by omega, by rw [hr1.out], ⟨own_drew hS.own _, below_drewN hS.below _⟩⟩
            case measure =>
              obtain ⟨_, _, e, _⟩ := owned_cap hS.own
              have e2 : lenOfV t' = k + 1 := by rw [e]; exact outs_len _ _
              have e3 := hlv.out
              show p - lenOfV t' < p - k
              omega
        · obtain rfl : k = p := by omega
          obtain ⟨g, cap', e, hg, hc, hF⟩ := owned_cells (by omega) hG.own
          injection e with e1 e2 e3
          subst e1 e3
          have hl0 := outs_len (fun j => s.l (nd es s v (t + j))) k
          rw [hl0]
          have hb : nd es s v (t + k) = x0 := R.back.trans hx0.out
          rw [hb]
          have d0 : ((k : Int) == 0) = false := beq_eq_false_iff_ne.2 (by omega)
          have d1 : ((x0 : Int) != (x0 : Int)) = false := bne_self_eq_false _
          have hrev := rev_any g k cp w0.heap.size _ wr hF hg p1 (by omega)
          have hGB := hG.below
          clear hG hown hcp hF e2 hl0 hb
          go_wp2_with (go_at_call 86; refine hrev.mono ?_; rintro e w3 ⟨rfl, hF3, b3⟩; clear hrev)
          go_ret
          exact ⟨g, cp, rfl, hc, hF3.ext fun j _ => rfl, bthen hB0 (hGB.trans b3)⟩

end Go.Proofs.YtjageagnclmnjaaGreatDoor.Q

namespace Go.Proofs.YtjageagnclmnjaaGreatDoor.Q
open Go.RowKit

theorem node_any (n : Int) (a : Option Addr) (m cap : Nat) (x : Int) (w : World) :
    Calls Tryz.prog 83 #[.agg #[.int .i64 n, .slice a m cap], .int .i64 x] w fun e w' => e = .returned (.bool (decide (0 ≤ x ∧ x < n))) ∧ Below w.heap.size w w' := by
  have hB : Below w.heap.size w (w.alloc (.cells #[.int .i64 n, .slice a m cap] 52)) := balloc (Below.refl _ _) _
  by_cases h0 : 0 ≤ x
  · have d0 : decide (0 ≤ x) = true := decide_eq_true h0
    have e : decide (0 ≤ x ∧ x < n) = decide (x < n) := by rw [Bool.eq_iff_iff]; simp [h0]
    rw [e]
    obtain ⟨t, ht⟩ : ∃ t, decide (x < n) = t := ⟨_, rfl⟩
    rw [ht]
    clear e h0
    go_enter Tryz.func83, Tryz.ntmps83
    go_wp2
    go_ret
    exact ⟨by first | rfl | (rw [ht]), hB⟩
  · have d0 : decide (0 ≤ x) = false := decide_eq_false h0
    have e : decide (0 ≤ x ∧ x < n) = false := decide_eq_false (by omega)
    rw [e]
    clear e h0
    go_enter Tryz.func83, Tryz.ntmps83
    go_wp2
    go_ret
    exact ⟨rfl, hB⟩

set_option maxHeartbeats 3200000 in
theorem wrong_any (n : Int) (a : Option Addr) (cap : Nat) (L : List Ed) (w : World) (hE : ERow w a L) (hl : L.length ≤ 9223372036854775807) :
    Calls Tryz.prog 53 #[.agg #[.int .i64 n, .slice a L.length cap]] w fun e w' => e = .returned (.int .i64 (gwr n L)) ∧ Below w.heap.size w w' := by
  obtain ⟨m, hm⟩ : ∃ m, L.length = m := ⟨_, rfl⟩
  have hyes : Hid ((0 ≤ n ∧ n ≤ 300 ∧ m ≤ 4800) → (∀ j, j < m → eok n (ed L j)) → gwr n L = 0) := fun h k => gwr_yes ⟨h.1, h.2.1, by rw [hm]; exact h.2.2, fun j hj => k j (by omega)⟩
  have hno : Hid (∀ j, j < m → ¬ eok n (ed L j) → gwr n L = 2) := fun j hj h => gwr_no fun k => h (k.2.2.2 j (by omega))
  have hno1 : Hid (¬ (0 ≤ n ∧ n ≤ 300 ∧ m ≤ 4800) → gwr n L = 2) := fun h => gwr_no fun k => h ⟨k.1, k.2.1, by rw [← hm]; exact k.2.2.1⟩
  generalize gwr n L = ans at hyes hno hno1 ⊢
  have hlm : Hid (L.length = m) := hm
  rw [hm] at hl ⊢
  clear hm
  obtain ⟨O, hO⟩ : ∃ O, w.heap.size = O := ⟨_, rfl⟩
  have K0 : Gb (w.alloc (.cells #[.int .i64 n, .slice a m cap] 52)) O n a m cap := hO ▸ Gb.new w n a m cap
  have hB0 : Below w.heap.size w (w.alloc (.cells #[.int .i64 n, .slice a m cap] 52)) := balloc (Below.refl _ _) _
  have hE0 := hE.kept hB0
  obtain ⟨w0, hw0⟩ : ∃ w0, w.alloc (.cells #[.int .i64 n, .slice a m cap] 52) = w0 := ⟨_, rfl⟩
  rw [hw0] at K0 hB0 hE0
  obtain ⟨c0, c1⟩ := id K0
  by_cases hN : n < 0
  · have ha : ans = 2 := hno1.out (by omega)
    subst ha
    have d : decide (n < 0) = true := decide_eq_true hN
    clear hyes hno hno1 hE hE0 K0
    go_enter Tryz.func53, Tryz.ntmps53
    go_wp2
    go_ret
    exact ⟨rfl, by first | exact hB0 | (rw [← hO]; exact hB0)⟩
  · have d : decide (n < 0) = false := decide_eq_false hN
    by_cases hN3 : 300 < n
    · have ha : ans = 2 := hno1.out (by omega)
      subst ha
      have d1 : decide (300 < n) = true := decide_eq_true hN3
      clear hyes hno hno1 hE hE0 K0
      go_enter Tryz.func53, Tryz.ntmps53
      go_wp2
      go_ret
      exact ⟨rfl, by first | exact hB0 | (rw [← hO]; exact hB0)⟩
    · have d1 : decide (300 < n) = false := decide_eq_false hN3
      by_cases hM : 4800 < m
      · have ha : ans = 2 := hno1.out (by omega)
        subst ha
        have d2 : decide ((4800 : Int) < (m : Int)) = true := decide_eq_true (by omega)
        have d3 : decide (4800 < m) = true := decide_eq_true (by omega)
        clear hyes hno hno1 hE hE0 K0
        go_enter Tryz.func53, Tryz.ntmps53
        go_wp2
        go_ret
        exact ⟨rfl, by first | exact hB0 | (rw [← hO]; exact hB0)⟩
      · have d2 : decide ((4800 : Int) < (m : Int)) = false := decide_eq_false (by omega)
        have d3 : decide (4800 < m) = false := decide_eq_false (by omega)
        replace hyes : Hid ((∀ j, j < m → eok n (ed L j)) → ans = 0) := hyes.out (by omega)
        clear hno1 hE
        go_enter Tryz.func53, Tryz.ntmps53
        go_wp2
        go_loopw [22] (fun i wr => ∃ k : Nat, k ≤ m ∧ i = .int .i64 k ∧ (∀ j, j < k → eok n (ed L j)) ∧ Below w0.heap.size w0 wr) (fun i _ => m - (intOf i).toNat)
        case atStart => exact ⟨0, Nat.zero_le _, rfl, fun j h => by omega, Below.refl _ _⟩
        case round =>
          obtain ⟨k, hk, rfl, hA, hB⟩ := hrel
          clear d d1 d2 d3 c0 c1
          by_cases hlt : k < m
          · have q1 := hlm.out
            obtain ⟨b, off, rfl, e1⟩ := (hE0.kept hB).at (by omega)
            obtain ⟨cx, cy, cz⟩ := e1 k (by omega)
            have hkI : (k : Int) < m := by omega
            have hA2 : Hid (eok n (ed L k) → ∀ j, j < k + 1 → eok n (ed L j)) := fun h j hj => by
              by_cases e : j = k
              · subst e; exact h
              · exact hA j (by omega)
            have hno2 : Hid (¬ eok n (ed L k) → ans = 2) := hno.out k hlt
            clear hA e1 hno hyes q1
            obtain ⟨⟨f, t, x⟩, hxy⟩ : ∃ p, ed L k = p := ⟨_, rfl⟩
            rw [hxy] at cx cy cz hA2 hno2
            clear hxy
            simp only at cx cy cz
            have c1 := node_any n (some ⟨b, off, none⟩) m cap f
            have c2 := node_any n (some ⟨b, off, none⟩) m cap t
            have hB1 : Below wr.heap.size wr (wr.alloc (.cells #[.int .i64 f, .int .i64 t, .int .i64 x] 81)) := balloc (Below.refl _ _) _
            obtain ⟨g0, g1⟩ := (K0.kept hB).alloc (.cells #[.int .i64 f, .int .i64 t, .int .i64 x] 81)
            have hx0 : (wr.alloc (.cells #[.int .i64 f, .int .i64 t, .int .i64 x] 81)).cell? ⟨wr.heap.size, 1, none⟩ = some (.int .i64 t) := by rw [World.cell?_alloc_at _ _ _ _ rfl]; rfl
            have hx1 : (wr.alloc (.cells #[.int .i64 f, .int .i64 t, .int .i64 x] 81)).cell? ⟨wr.heap.size, 2, none⟩ = some (.int .i64 x) := by rw [World.cell?_alloc_at _ _ _ _ rfl]; rfl
            have hx2 : (wr.alloc (.cells #[.int .i64 f, .int .i64 t, .int .i64 x] 81)).cell? ⟨wr.heap.size, 0, none⟩ = some (.int .i64 f) := by rw [World.cell?_alloc_at _ _ _ _ rfl]; rfl
            have hB2 : Below w0.heap.size w0 (wr.alloc (.cells #[.int .i64 f, .int .i64 t, .int .i64 x] 81)) := balloc hB _
            have K1 := (K0.kept hB).alloc (.cells #[.int .i64 f, .int .i64 t, .int .i64 x] 81)
            obtain ⟨W1, hW1⟩ : ∃ W1, wr.alloc (.cells #[.int .i64 f, .int .i64 t, .int .i64 x] 81) = W1 := ⟨_, rfl⟩
            rw [hW1] at hB1 g0 g1 hx0 hx1 hx2 hB2 K1
            obtain ⟨E, hEE⟩ : ∃ E, wr.heap.size = E := ⟨_, rfl⟩
            rw [hEE] at hx0 hx1 hx2
            by_cases h1 : 0 ≤ f ∧ f < n
            · rw [decide_eq_true h1] at c1
              by_cases h2 : 0 ≤ t ∧ t < n
              · rw [decide_eq_true h2] at c2
                replace c1 : Hid _ := c1
                replace c2 : Hid _ := c2
                by_cases h3 : x < -1048576
                · have ha : ans = 2 := hno2.out fun q => by obtain ⟨_, _, q, _⟩ := q; simp only at q; omega
                  subst ha
                  have d4 : decide (x < -1048576) = true := decide_eq_true h3
                  clear hA2 hno2 h1 h2 h3
                  go_wp2_with (first
                    | (go_at_call 83; refine (c1.out _).mono ?_; rintro e W2 ⟨rfl, b1⟩; clear c1; obtain ⟨g2, g3⟩ := K1.kept b1; have hx3 := (b1.cell (p := ⟨E, 1, none⟩) (block_lt hx0)).trans hx0; have hx4 := (b1.cell (p := ⟨E, 2, none⟩) (block_lt hx1)).trans hx1)
                    | (go_at_call 83; refine (c2.out _).mono ?_; rintro e W3 ⟨rfl, b2⟩; clear c2; have hx5 := (b2.cell (p := ⟨E, 2, none⟩) (block_lt hx4)).trans hx4))
                  go_ret
                  exact ⟨rfl, bthen hB0 (bthen (bthen hB2 b1) b2)⟩
                · have d4 : decide (x < -1048576) = false := decide_eq_false h3
                  by_cases h4 : 1048576 < x
                  · have ha : ans = 2 := hno2.out fun q => by obtain ⟨_, _, _, q⟩ := q; simp only at q; omega
                    subst ha
                    have d5 : decide (1048576 < x) = true := decide_eq_true h4
                    clear hA2 hno2 h1 h2 h3 h4
                    go_wp2_with (first
                      | (go_at_call 83; refine (c1.out _).mono ?_; rintro e W2 ⟨rfl, b1⟩; clear c1; obtain ⟨g2, g3⟩ := K1.kept b1; have hx3 := (b1.cell (p := ⟨E, 1, none⟩) (block_lt hx0)).trans hx0; have hx4 := (b1.cell (p := ⟨E, 2, none⟩) (block_lt hx1)).trans hx1)
                      | (go_at_call 83; refine (c2.out _).mono ?_; rintro e W3 ⟨rfl, b2⟩; clear c2; have hx5 := (b2.cell (p := ⟨E, 2, none⟩) (block_lt hx4)).trans hx4))
                    go_ret
                    exact ⟨rfl, bthen hB0 (bthen (bthen hB2 b1) b2)⟩
                  · have d5 : decide (1048576 < x) = false := decide_eq_false h4
                    have hA3 := hA2.out ⟨h1, h2, by simp only; omega, by simp only; omega⟩
                    replace hA3 : Hid _ := hA3
                    clear hA2 hno2 h1 h2 h3 h4
                    go_wp2_with (first
                      | (go_at_call 83; refine (c1.out _).mono ?_; rintro e W2 ⟨rfl, b1⟩; clear c1; obtain ⟨g2, g3⟩ := K1.kept b1; have hx3 := (b1.cell (p := ⟨E, 1, none⟩) (block_lt hx0)).trans hx0; have hx4 := (b1.cell (p := ⟨E, 2, none⟩) (block_lt hx1)).trans hx1)
                      | (go_at_call 83; refine (c2.out _).mono ?_; rintro e W3 ⟨rfl, b2⟩; clear c2; have hx5 := (b2.cell (p := ⟨E, 2, none⟩) (block_lt hx4)).trans hx4))
                    go_roundw
                    case rel => exact ⟨k + 1, by omega, by go_num, hA3.out, bthen (bthen hB2 b1) b2⟩
                    case measure => simp [intOf]; omega
              · rw [decide_eq_false h2] at c2
                have ha : ans = 2 := hno2.out fun q => h2 q.2.1
                subst ha
                replace c1 : Hid _ := c1
                replace c2 : Hid _ := c2
                clear hA2 hno2 h1 h2
                go_wp2_with (first
                  | (go_at_call 83; refine (c1.out _).mono ?_; rintro e W2 ⟨rfl, b1⟩; clear c1; obtain ⟨g2, g3⟩ := K1.kept b1; have hx3 := (b1.cell (p := ⟨E, 1, none⟩) (block_lt hx0)).trans hx0; have hx4 := (b1.cell (p := ⟨E, 2, none⟩) (block_lt hx1)).trans hx1)
                  | (go_at_call 83; refine (c2.out _).mono ?_; rintro e W3 ⟨rfl, b2⟩; clear c2; have hx5 := (b2.cell (p := ⟨E, 2, none⟩) (block_lt hx4)).trans hx4))
                go_ret
                exact ⟨rfl, bthen hB0 (bthen (bthen hB2 b1) b2)⟩
            · rw [decide_eq_false h1] at c1
              have ha : ans = 2 := hno2.out fun q => h1 q.1
              subst ha
              replace c1 : Hid _ := c1
              clear hA2 hno2 h1 c2
              go_wp2_with (go_at_call 83; refine (c1.out _).mono ?_; rintro e W2 ⟨rfl, b1⟩; clear c1; obtain ⟨g2, g3⟩ := K1.kept b1; have hx3 := (b1.cell (p := ⟨E, 1, none⟩) (block_lt hx0)).trans hx0; have hx4 := (b1.cell (p := ⟨E, 2, none⟩) (block_lt hx1)).trans hx1)
              go_ret
              exact ⟨rfl, bthen hB0 (bthen hB2 b1)⟩
          · obtain rfl : m = k := by omega
            have ha : ans = 0 := hyes.out hA
            subst ha
            clear hA hyes hno
            go_wp2
            go_ret
            exact ⟨rfl, bthen hB0 hB⟩

end Go.Proofs.YtjageagnclmnjaaGreatDoor.Q

namespace Go.Proofs.YtjageagnclmnjaaGreatDoor.Q
set_option maxRecDepth 100000
open Go.RowKit

/-- what is left of climbing -/
def Fin (n : Nat) (es : List Eg) (k : Nat) : Prop := k ≤ n ∧ ((cst es k).r = -1 ∧ (1 ≤ k ∨ n = 0) ∨ k = n ∧ (cst es k).r ≠ -1)

set_option maxRecDepth 100000 in
set_option maxHeartbeats 3200000 in
theorem most_any (n : Nat) (es : List Eg) (hG : Gph n es) (a : Option Addr) (cap : Nat) (w : World) (hE : GRow w a es) :
    Calls Tryz.prog 31 #[.agg #[.int .i64 n, .slice a es.length cap]] w fun e w' => ∃ k, Fin n es k ∧ Below w.heap.size w w' ∧
      ((cst es k).r = -1 ∧ (∃ M, e = .returned (.tuple #[.slice (some ⟨M, 0, none⟩) n n, .int .i64 0]) ∧ Cells w' M n (cst es k).d) ∨ (cst es k).r ≠ -1 ∧ e = .returned (.tuple #[.slice none 0 0, .int .i64 3])) := by
  have hm4 := hG.m4
  have hB0 : Below w.heap.size w (w.alloc (.cells #[.int .i64 n, .slice a es.length cap] 52)) := balloc (Below.refl _ _) _
  have hw := wrong_any n a cap (es.map upE) (w.alloc (.cells #[.int .i64 n, .slice a es.length cap] 52)) (ERow.kept hE hB0) (by rw [List.length_map]; omega)
  rw [gwr_yes (gph_grt hG), List.length_map] at hw
  have hcl : Hid (∀ v, GRow v a es → Calls Tryz.prog 54 #[.agg #[.int .i64 n, .slice a es.length cap]] v fun e w' => ∃ M A k : Nat, e = .returned (.agg #[.slice (some ⟨M, 0, none⟩) n n, .slice (some ⟨A, 0, none⟩) n n, .int .i64 (cst es k).r]) ∧ k ≤ n ∧ ((cst es k).r = -1 ∧ (1 ≤ k ∨ n = 0) ∨ k = n ∧ (cst es k).r ≠ -1) ∧ Cells w' M n (cst es k).d ∧ Cells w' A n (cst es k).l ∧ v.heap.size ≤ M ∧ v.heap.size ≤ A ∧ M ≠ A ∧ Below v.heap.size v w') := fun v h => climb_any n es hG a cap v h
  have K0 := Gb.new w n a es.length cap
  have hE0 := hE.kept hB0
  obtain ⟨w0, hw0⟩ : ∃ w0, w.alloc (.cells #[.int .i64 n, .slice a es.length cap] 52) = w0 := ⟨_, rfl⟩
  rw [hw0] at K0 hB0 hE0 hw
  generalize es.length = m at *
  obtain ⟨c0, c1⟩ := id K0
  clear hE
  go_enter Tryz.func31, Tryz.ntmps31
  go_wp2_with (first
    | (go_at_call 53; refine hw.mono ?_; rintro e w1 ⟨rfl, b1⟩; clear hw; have K1 := K0.kept b1; have hE1 := hE0.kept b1; clear K0 hE0 c0 c1; obtain ⟨c0, c1⟩ := id K1; have hB1 := bthen hB0 b1)
    | (go_at_call 54; refine (hcl.out _ hE1).mono ?_; rintro e w2 ⟨M, A, k, rfl, hk, hf, cd, cl, m1, m2, ma, b2⟩; clear hcl; have hB2 := bthen hB1 b2; replace hf : Hid _ := hf))
  · rename_i h
    go_ret2
    exact ⟨k, ⟨hk, hf.out⟩, balloc hB2 _, .inr ⟨bne_iff_ne.1 h, rfl⟩⟩
  · rename_i h
    go_ret2
    exact ⟨k, ⟨hk, hf.out⟩, balloc hB2 _, .inl ⟨by simpa using h, M, rfl, cd.alloc _⟩⟩

theorem Cb.boxed {n : Nat} {s : St} (w : World) {M A : Nat} (hM : Cells w M n s.d) (hA : Cells w A n s.l) (hn : 0 < n) (ma : M ≠ A) :
    Cb (w.alloc (.cells #[.slice (some ⟨M, 0, none⟩) n n, .slice (some ⟨A, 0, none⟩) n n, .int .i64 s.r] 120)) w.heap.size M A n s := by
  have m1 : M < w.heap.size := block_lt (hM.c 0 hn)
  have m2 : A < w.heap.size := block_lt (hA.c 0 hn)
  exact ⟨by rw [World.cell?_alloc_at _ _ _ _ rfl]; rfl, by rw [World.cell?_alloc_at _ _ _ _ rfl]; rfl, by rw [World.cell?_alloc_at _ _ _ _ rfl]; rfl, by rw [World.frozen?_alloc_at _ _ _ _ rfl], hM.alloc _, hA.alloc _, by omega, by omega, ma⟩
theorem gone_at (n : Nat) (es : List Eg) (hG : Gph n es) (a : Option Addr) (cap m : Nat) (hm : es.length = m) (k M A : Nat) (w : World) (hf : (cst es k).r = -1 ∧ (1 ≤ k ∨ n = 0) ∨ k = n ∧ (cst es k).r ≠ -1) (hr : ((cst es k).r == -1) = false)
    (cd : Cells w M n (cst es k).d) (cl : Cells w A n (cst es k).l) (ma : M ≠ A) (hE : GRow w a es) :
    Calls Tryz.prog 55 #[.pointer (some ⟨w.heap.size, 0, none⟩), .agg #[.int .i64 n, .slice a m cap]] (w.alloc (.cells #[.slice (some ⟨M, 0, none⟩) n n, .slice (some ⟨A, 0, none⟩) n n, .int .i64 (cst es k).r] 120))
      fun e w' => ∃ v p g c, e = .returned (.slice (some ⟨g, 0, none⟩) p c) ∧ Rnd n es (cst es n) v p ∧ p ≤ c ∧ Cells w' g p (cyc n es (cst es n) v p) ∧ Below w.heap.size w w' := by
  have hne : (cst es k).r ≠ -1 := beq_eq_false_iff_ne.1 hr
  rcases hf with ⟨q, _⟩ | ⟨rfl, _⟩
  · exact absurd q hne
  · obtain ⟨v, p, hR⟩ := cst_rnd hG.inn hG.wgt hne
    have hb : Below w.heap.size w (w.alloc (.cells #[.slice (some ⟨M, 0, none⟩) k k, .slice (some ⟨A, 0, none⟩) k k, .int .i64 (cst es k).r] 120)) := balloc (Below.refl _ _) _
    rw [← hm]
    exact (gone_any k es hG _ v p hR w.heap.size M A a cap _ (hE.kept hb) (Cb.boxed w cd cl (by have := hR.vn; omega) ma)).mono fun e w' ⟨g, c, h1, h2, h3, h4⟩ => ⟨v, p, g, c, h1, hR, h2, h3, bthen hb h4⟩

set_option maxRecDepth 100000 in
set_option maxHeartbeats 3200000 in
theorem cycle_any (n : Nat) (es : List Eg) (hG : Gph n es) (a : Option Addr) (cap : Nat) (w : World) (hE : GRow w a es) :
    Calls Tryz.prog 33 #[.agg #[.int .i64 n, .slice a es.length cap]] w fun e w' => ∃ k, Fin n es k ∧ Below w.heap.size w w' ∧
      ((cst es k).r = -1 ∧ e = .returned (.tuple #[.slice none 0 0, .int .i64 3]) ∨ (cst es k).r ≠ -1 ∧ ∃ v p g c, e = .returned (.tuple #[.slice (some ⟨g, 0, none⟩) p c, .int .i64 0]) ∧ Rnd n es (cst es n) v p ∧ p ≤ c ∧ Cells w' g p (cyc n es (cst es n) v p)) := by
  have hm4 := hG.m4
  have hB0 : Below w.heap.size w (w.alloc (.cells #[.int .i64 n, .slice a es.length cap] 52)) := balloc (Below.refl _ _) _
  have hw := wrong_any n a cap (es.map upE) (w.alloc (.cells #[.int .i64 n, .slice a es.length cap] 52)) (ERow.kept hE hB0) (by rw [List.length_map]; omega)
  rw [gwr_yes (gph_grt hG), List.length_map] at hw
  have hcl : Hid (∀ v, GRow v a es → Calls Tryz.prog 54 #[.agg #[.int .i64 n, .slice a es.length cap]] v fun e w' => ∃ M A k : Nat, e = .returned (.agg #[.slice (some ⟨M, 0, none⟩) n n, .slice (some ⟨A, 0, none⟩) n n, .int .i64 (cst es k).r]) ∧ k ≤ n ∧ ((cst es k).r = -1 ∧ (1 ≤ k ∨ n = 0) ∨ k = n ∧ (cst es k).r ≠ -1) ∧ Cells w' M n (cst es k).d ∧ Cells w' A n (cst es k).l ∧ v.heap.size ≤ M ∧ v.heap.size ≤ A ∧ M ≠ A ∧ Below v.heap.size v w') := fun v h => climb_any n es hG a cap v h
  have K0 := Gb.new w n a es.length cap
  have hE0 := hE.kept hB0
  obtain ⟨w0, hw0⟩ : ∃ w0, w.alloc (.cells #[.int .i64 n, .slice a es.length cap] 52) = w0 := ⟨_, rfl⟩
  rw [hw0] at K0 hB0 hE0 hw
  obtain ⟨m, hm⟩ : ∃ m, es.length = m := ⟨_, rfl⟩
  rw [hm] at hm4 hw hcl K0 hw0 ⊢
  have hgn : Hid (∀ (k M A : Nat) (v : World), ((cst es k).r = -1 ∧ (1 ≤ k ∨ n = 0) ∨ k = n ∧ (cst es k).r ≠ -1) → ((cst es k).r == -1) = false → Cells v M n (cst es k).d → Cells v A n (cst es k).l → M ≠ A → GRow v a es →
    Calls Tryz.prog 55 #[.pointer (some ⟨v.heap.size, 0, none⟩), .agg #[.int .i64 n, .slice a m cap]] (v.alloc (.cells #[.slice (some ⟨M, 0, none⟩) n n, .slice (some ⟨A, 0, none⟩) n n, .int .i64 (cst es k).r] 120))
      fun e w' => ∃ u p g c, e = .returned (.slice (some ⟨g, 0, none⟩) p c) ∧ Rnd n es (cst es n) u p ∧ p ≤ c ∧ Cells w' g p (cyc n es (cst es n) u p) ∧ Below v.heap.size v w') := fun k M A v h1 h2 h3 h4 h5 h6 => gone_at n es hG a cap m hm k M A v h1 h2 h3 h4 h5 h6
  replace hm : Hid _ := hm
  obtain ⟨c0, c1⟩ := id K0
  clear hE
  go_enter Tryz.func33, Tryz.ntmps33
  go_wp2_with (first
    | (go_at_call 53; refine hw.mono ?_; rintro e w1 ⟨rfl, b1⟩; clear hw; have K1 := K0.kept b1; have hE1 := hE0.kept b1; clear K0 hE0 c0 c1; obtain ⟨c0, c1⟩ := id K1; have hB1 := bthen hB0 b1)
    | (go_at_call 54; refine (hcl.out _ hE1).mono ?_; rintro e w2 ⟨M, A, k, rfl, hk, hf, cd, cl, m1, m2, ma, b2⟩; clear hcl; have hB2 := bthen hB1 b2; replace hf : Hid _ := hf; have hE2 := hE1.kept b2; have K2 := K1.kept b2; clear c0 c1 K1 hE1; obtain ⟨c0, c1⟩ := id (K2.alloc (.cells #[.slice (some ⟨M, 0, none⟩) n n, .slice (some ⟨A, 0, none⟩) n n, .int .i64 (cst es k).r] 120)))
    | (go_at_call 55; have hne : ((cst es k).r == -1) = false := (by assumption); refine (hgn.out k M A w2 hf.out hne cd cl ma hE2).mono ?_; rintro e w3 ⟨u, p, g, c, rfl, hR, hpc, hF, b3⟩; clear hgn; have hB3 := bthen hB2 b3))
  · rename_i h
    go_ret2
    exact ⟨k, ⟨hk, hf.out⟩, balloc hB2 _, .inl ⟨by simpa using h, rfl⟩⟩
  · go_ret2
    exact ⟨k, ⟨hk, hf.out⟩, hB3, .inr ⟨by simpa using hne, u, p, g, c, rfl, hR, hpc, hF⟩⟩

end Go.Proofs.YtjageagnclmnjaaGreatDoor.Q

namespace Go.Proofs.YtjageagnclmnjaaGreatDoor.Q
open Go.RowKit

set_option maxHeartbeats 1600000 in
theorem sameints_any (a1 a2 : Option Addr) (c1 c2 : Nat) (xs ys : List Int) (w : World) (h1 : Row w a1 xs) (h2 : Row w a2 ys) (b1 : xs.length ≤ 35184372088832) :
    Calls Tryz.prog 70 #[.slice a1 xs.length c1, .slice a2 ys.length c2] w fun e w' => e = .returned (.bool (decide (xs = ys))) ∧ ∃ q, w' = w.drewN q := by
  by_cases hl : xs.length = ys.length
  · have hyes : Hid ((∀ j, j < xs.length → xs.getD j 0 = ys.getD j 0) → decide (xs = ys) = true) := fun h => decide_eq_true (list_ext hl h)
    have hno : Hid (∀ j, j < xs.length → xs.getD j 0 ≠ ys.getD j 0 → decide (xs = ys) = false) := fun j _ h => decide_eq_false fun k => h (by rw [k])
    generalize decide (xs = ys) = ans at hyes hno ⊢
    obtain ⟨n, hn⟩ : ∃ n, xs.length = n := ⟨_, rfl⟩
    have hlx : Hid (xs.length = n) := hn
    have hly : Hid (ys.length = n) := hl.symm.trans hn
    rw [← hl, hn]
    rw [hn] at hyes hno b1
    clear hl hn
    go_enter Tryz.func70, Tryz.ntmps70
    go_wp2
    go_loopw [13] (fun i wr => ∃ k q : Nat, k ≤ n ∧ i = .int .i64 k ∧ wr = w.drewN q ∧ ∀ j, j < k → xs.getD j 0 = ys.getD j 0) (fun i _ => n - (intOf i).toNat)
    case atStart => exact ⟨0, 0, Nat.zero_le _, rfl, rfl, fun j h => by omega⟩
    case round =>
      obtain ⟨k, q, hk, rfl, rfl, hA⟩ := hrel
      by_cases hlt : k < n
      · have q1 := hlx.out
        have q2 := hly.out
        obtain ⟨g1, o1, rfl, e1⟩ := h1.at (by omega)
        obtain ⟨g2, o2, rfl, e2⟩ := h2.at (by omega)
        have cx := e1 k (by omega)
        have cy := e2 k (by omega)
        have hkI : (k : Int) < n := by omega
        have hA2 : Hid (xs.getD k 0 = ys.getD k 0 → ∀ j, j < k + 1 → xs.getD j 0 = ys.getD j 0) := fun h j hj => by
          by_cases e : j = k
          · subst e; exact h
          · exact hA j (by omega)
        have hno2 : Hid (xs.getD k 0 ≠ ys.getD k 0 → ans = false) := hno.out k hlt
        clear hA e1 e2 hno hyes q1 q2 h1 h2
        generalize xs.getD k 0 = x at cx hA2 hno2
        generalize ys.getD k 0 = y at cy hA2 hno2
        by_cases hx : x = y
        · have d : (x == y) = true := beq_iff_eq.2 hx
          have hA3 := hA2.out hx
          replace hA3 : Hid _ := hA3
          clear hA2 hno2 hx
          go_wp2
          go_quiet (fail)
          go_wp2
          go_roundw
          case rel => exact ⟨k + 1, q + nq, by omega, by go_num, rfl, hA3.out⟩
          case measure => simp [intOf]; omega
        · have d : (x == y) = false := beq_eq_false_iff_ne.2 hx
          have ha : Hid (ans = false) := hno2.out hx
          clear hA2 hno2 hx
          go_wp2
          go_quiet (fail)
          go_wp2
          go_ret
          exact ⟨by rw [ha.out]; rfl, q + nq, World.drewN_drewN _ _ _⟩
      · obtain rfl : k = n := by omega
        have ha : Hid (ans = true) := hyes.out hA
        clear hA hyes hno
        go_wp2
        go_ret
        exact ⟨by rw [ha.out]; rfl, q, rfl⟩
  · have e : decide (xs = ys) = false := decide_eq_false fun k => hl (by rw [k])
    rw [e]
    have hd : ((xs.length : Int) == (ys.length : Int)) = false := beq_eq_false_iff_ne.2 (by omega)
    generalize xs.length = n at *
    generalize ys.length = m at *
    clear hl e h1 h2
    go_enter Tryz.func70, Tryz.ntmps70
    go_wp2
    go_ret
    exact ⟨rfl, 0, rfl⟩

end Go.Proofs.YtjageagnclmnjaaGreatDoor.Q
