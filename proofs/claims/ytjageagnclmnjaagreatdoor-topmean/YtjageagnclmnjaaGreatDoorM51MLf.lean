/- PROVED: what mean.goneRound answers. what slope.below and mean.leastSlope answer. what mean.steepest answers. what the document's own Lowest answers, whatever its first number's sign. what frac.divisor and frac.Lowest answer, whatever the first number's sign. CONDITIONS: none beyond each theorem's own. -/
import Derived.Test.YtjageagnclmnjaaGreatDoorM50MMTo
import Derived.Test.YtjageagnclmnjaaGreatDoorX39QGon
import Derived.Deep.CutRange
import Derived.Test.YtjageagnclmnjaaGreatDoorM47MMn
section
namespace Go.Proofs.YtjageagnclmnjaaGreatDoor.Q
set_option maxRecDepth 100000
open Go.RowKit
set_option linter.unusedVariables false

/-- where each node was met, behind i nodes; -1: nowhere yet -/
def pl (es : List Eg) (n v : Nat) : Nat → Nat → Int
  | 0, _ => -1
  | i + 1, u => if u = bn es n v i then (i : Int) else pl es n v i u
theorem pl_is (es : List Eg) (n v i u : Nat) : (pl es n v i u = -1 ∧ ∀ j, j < i → bn es n v j ≠ u) ∨ ∃ j, j < i ∧ pl es n v i u = (j : Int) ∧ bn es n v j = u := by
  induction i with
  | zero => exact .inl ⟨rfl, fun j h => by omega⟩
  | succ i ih =>
    show ((if u = bn es n v i then (i : Int) else pl es n v i u) = -1 ∧ _) ∨ ∃ j, j < i + 1 ∧ (if u = bn es n v i then (i : Int) else pl es n v i u) = (j : Int) ∧ _
    by_cases h : u = bn es n v i
    · rw [if_pos h]; exact .inr ⟨i, by omega, rfl, h.symm⟩
    · rw [if_neg h]
      rcases ih with ⟨h1, h2⟩ | ⟨j, h1, h2, h3⟩
      · refine .inl ⟨h1, fun j hj => ?_⟩
        rcases Nat.lt_succ_iff_lt_or_eq.1 hj with hj | rfl
        · exact h2 j hj
        · exact fun e => h e.symm
      · exact .inr ⟨j, by omega, h2, h3⟩

/-- what lies there while the walk is gone back -/
structure Bks (w0 : World) (q P : Nat) (es : List Eg) (n v i : Nat) (t : Value) (wr : World) : Prop where
  own : wr.ownsRow q 3 1 t i ((outs (fun j => (br es n v j : Int)) i).map (Value.int .i64))
  pls : Cells wr P n (pl es n v i)
  lo : w0.heap.size ≤ P
  pq : P < q
  sz : q ≤ wr.heap.size
  below : Below w0.heap.size w0 wr
/-- the node is met -/
theorem Bks.met {w0 : World} {q P : Nat} {es : List Eg} {n v i : Nat} {t : Value} {wr : World} (h : Bks w0 q P es n v i t wr) (hb : bn es n v i < n) :
    (wr.setCell ⟨P, bn es n v i, none⟩ (.int .i64 (i : Int))).ownsRow q 3 1 t i ((outs (fun j => (br es n v j : Int)) i).map (Value.int .i64)) ∧ Cells (wr.setCell ⟨P, bn es n v i, none⟩ (.int .i64 (i : Int))) P n (pl es n v (i + 1)) ∧ q ≤ (wr.setCell ⟨P, bn es n v i, none⟩ (.int .i64 (i : Int))).heap.size ∧ Below w0.heap.size w0 (wr.setCell ⟨P, bn es n v i, none⟩ (.int .i64 (i : Int))) := by
  refine ⟨?_, h.pls.put hb (by show (if _ then _ else _) = _; rw [if_pos rfl]) (fun j _ hj => by show (if _ then _ else _) = _; rw [if_neg hj]), ?_, Below.setCell h.below (p := ⟨P, bn es n v i, none⟩) h.lo _⟩
  · obtain ⟨hl, h2⟩ := h.own
    refine ⟨hl, ?_⟩
    rcases h2 with e | ⟨g, cap, cur, e, hg, hh, r⟩
    · exact .inl e
    · refine .inr ⟨g, cap, cur, e, hg, ?_, r⟩
      rw [Below.heap_setCell _ _ _ _ (by show g ≠ P; have := h.pq; omega)]; exact hh
  · have := h.sz; simpa using this
/-- one number more -/
theorem Bks.more {w0 : World} {q P : Nat} {es : List Eg} {n v i : Nat} {t t' : Value} {wr w1 w2 : World} (h : Bks w0 q P es n v i t wr) (hp : Cells w1 P n (pl es n v (i + 1))) (hs : q ≤ w1.heap.size) (hB : Below w0.heap.size w0 w1) (hl : ∀ b, t.ownBlock = some b → q ≤ b) {o : Obj}
    (ho : w2.ownsRow q 3 1 t' (i + 1) ((outs (fun j => (br es n v j : Int)) i).map (Value.int .i64) ++ [.int .i64 (br es n v i : Int)])) (hg : (w1.alloc o).grownBy w2 t.ownBlock) : Bks w0 q P es n v (i + 1) t' w2 := by
  have pq := h.pq
  have hb : w2.heap[P]? = w1.heap[P]? := by
    rw [hg.block P (by simp; omega) (fun e => by have := hl P e.symm; omega)]
    exact (balloc (Below.refl w1.heap.size w1) o).block P (by omega)
  refine ⟨?_, ⟨fun j hj => (World.cell?_of_block (a := ⟨P, j, none⟩) hb).trans (hp.c j hj), fun j hj => (World.frozen?_of_block (a := ⟨P, j, none⟩) hb).trans (hp.fz j hj)⟩, h.lo, pq, ?_, ?_⟩
  · rw [outs_succ, List.map_append]; exact ho
  · have := hg.size; simp at this; omega
  · have lo := h.lo
    exact (hB.alloc hB.size o).grown hg (by have := hB.size; simp; omega) (fun b e => by have := hl b e; omega)

/-- a row of the call's own, as numbers that may be written, or nothing -/
theorem owned_cap2 {w : World} {base : Nat} {t : Value} {f : Nat → Int} {p : Nat} (h : w.ownsRow base 3 1 t p ((outs f p).map (Value.int .i64))) : ∃ ao cap, t = .slice ao p cap ∧ p ≤ cap := by
  have h' := h
  rw [← outs_len f p] at h'
  rw [outs_len f p] at h'
  have := owned_cap (R := outs f p) (by rw [outs_len]; exact h)
  obtain ⟨ao, cap, e, hc, _⟩ := this
  rw [outs_len] at e hc
  exact ⟨ao, cap, e, hc⟩

set_option maxHeartbeats 3200000 in
theorem gone18_any (n : Nat) (es : List Eg) (hG : Gph n es) (g c : Nat) (O : Nat → Nat) (N1 : Nat) (hN1 : N1 = n + 1) (v : Nat) (hv : v < n) (y : Int × Nat) (hy : tb es n v = some y) (a : Option Addr) (cap m : Nat) (hm : es.length = m) (w : World) (hE : GRow w a es) (hT : Tbl w g c n O es) :
    Calls Tryz.prog 64 #[.agg #[.int .i64 n, .slice a m cap], .slice (some ⟨g, 0, none⟩) N1 c, .int .i64 v] w fun e w' => ∃ G cc i j, e = .returned (.slice (some ⟨G, j, none⟩) (i - j) (cc - j)) ∧ j < i ∧ i ≤ n ∧ i ≤ cc ∧ bn es n v i = bn es n v j ∧ Cat w' G j (i - j) (fun t => (br es n v (i - 1 - t) : Int)) ∧ Below w.heap.size w w' := by
  obtain ⟨i0, hi, hz0, hz1, hz2⟩ := info_parts Tryz.info3
  have n3 := hG.n3
  have i2 : (N1 : Int) - 1 = (n : Int) := by omega
  have B0 : Below w.heap.size w (w.alloc (.cells #[.int .i64 n, .slice a m cap] 52)) := balloc (Below.refl _ _) _
  have K := Gb.new w n a m cap
  obtain ⟨w0, hw0⟩ : ∃ w0, w.alloc (.cells #[.int .i64 n, .slice a m cap] 52) = w0 := ⟨_, rfl⟩
  rw [hw0] at B0 K
  have hE0 := hE.kept B0
  have hT0 := hT.kept B0
  have K1 := K.alloc (.cells #[.int .i64 (-1)] 3)
  have hrep := repeat_any w0.heap.size 0 1 n (-1) (w0.alloc (.cells #[.int .i64 (-1)] 3)) (by rw [World.cell?_alloc_at _ _ _ _ rfl]; rfl) n3
  have B1 : Below w0.heap.size w0 (w0.alloc (.cells #[.int .i64 (-1)] 3)) := balloc (Below.refl _ _) _
  have hP1 : w0.heap.size ≤ (w0.alloc (.cells #[.int .i64 (-1)] 3)).heap.size := by simp
  obtain ⟨w1, hw1⟩ : ∃ w1, w0.alloc (.cells #[.int .i64 (-1)] 3) = w1 := ⟨_, rfl⟩
  rw [hw1] at K1 hrep B1 hP1
  have hlm : Hid (es.length = m) := hm
  have hgh : Hid (Gph n es) := hG
  have hyy : Hid (tb es n v = some y) := hy
  have hin : Hid (∀ i, i ≤ n → bn es n v i < n) := bn_in hG.inn hv hy
  replace hN1 : Hid _ := hN1
  clear hm hG hy hE hT
  obtain ⟨k0, k1⟩ := id K1
  go_enter Tryz.func64, Tryz.ntmps64
  go_wp2_with (go_at_call 84; refine hrep.mono ?_; rintro e w2 ⟨rfl, P0, hO, bb⟩; clear hrep; replace B1 := bthen B1 bb; clear bb k0 k1; generalize w1.heap.size = P at *)
  have hst : Bks w0 w2.heap.size P es n v 0 (.slice none 0 0) w2 := ⟨World.ownsRow_nil _ _ _ _, P0.ext fun j _ => rfl, hP1, hO, Nat.le_refl _, B1⟩
  clear P0 B1 hO K1
  go_loopw [2, 8, 9] (fun x t d wr => ∃ i e : Nat, i + e = n ∧ x = .int .i64 (bn es n v i) ∧ d = .int .i64 e ∧ Bks w0 w2.heap.size P es n v i t wr ∧ ∀ a b, a < b → b < i → bn es n v a ≠ bn es n v b) (fun _ _ d _ => (intOf d).toNat)
  case atStart => exact ⟨0, n, by omega, rfl, rfl, hst, fun a b _ h => by omega⟩
  case round =>
    obtain ⟨i, d, hid, rfl, rfl, hB, hne⟩ := hrel
    clear hst
    have hnd := hin.out i (by omega)
    rcases pl_is es n v i (bn es n v i) with ⟨h1, h2⟩ | ⟨j, hj, h1, h2⟩
    · have hne' : ∀ a b, a < b → b ≤ i → bn es n v a ≠ bn es n v b := fun a b h3 h4 => by
        rcases Nat.lt_or_eq_of_le h4 with h4 | rfl
        · exact hne a b h3 h4
        · exact h2 a h3
      have hroom := back_room hin.out (show i ≤ n by omega) hne'
      obtain ⟨d', hd'⟩ : ∃ d', d = d' + 1 := ⟨d - 1, by omega⟩
      have hdI : (d : Int) - 1 = (d' : Int) := by omega
      obtain ⟨ao, cp, rfl, hcp⟩ := owned_cap2 hB.own
      obtain ⟨m1, m2, m3, m4⟩ := hB.met hnd
      have cx := hB.pls.c _ hnd
      have fx := hB.pls.fz _ hnd
      rw [h1] at cx
      obtain ⟨g1, g2, g3, g4⟩ := bn_step hyy.out hroom
      have T1 := hT0.kept m4
      have td := T1.top d (by omega)
      have rd := ((T1.row d (by omega)).c _ hnd).2
      simp only [la_lv] at rd
      have hbr : la es d (bn es n v i) = br es n v i := by unfold br; rw [show n - i = d by omega]
      rw [hbr] at rd
      have hnx : Hid ((bn es n v (i + 1) : Nat) = bn es n v (i + 1)) := rfl
      have hmet := fun t' w5 => Bks.more (t := .slice ao i cp) (t' := t') (w2 := w5) hB m2 m3 m4 (fun b e => (hB.own.lt b e).1) (o := .cells #[.int .i64 (br es n v i : Int)] 3)
      have q2 := hlm.out
      have hed : Hid (∀ w', Below w0.heap.size w0 w' → ∃ b off, a = some ⟨b, off, none⟩ ∧ w'.cell? ⟨b, off + br es n v i * 3, none⟩ = some (.int .i64 (bn es n v (i + 1) : Int))) := fun w' h => by
        obtain ⟨b, off, e, h1⟩ := (hE0.kept h).at (by omega)
        refine ⟨b, off, e, ?_⟩
        rw [← g3]; exact (h1 _ g1).1
      have hqI : ((br es n v i : Nat) : Int) < (m : Int) := by omega
      have hnI : ((bn es n v i : Nat) : Int) < (n : Int) := by omega
      have hdN : (d : Int) < (N1 : Int) := by omega
      generalize br es n v i = q at *
      generalize hxe : bn es n v i = x at *
      generalize hye : bn es n v (i + 1) = y' at *
      generalize hW1 : wr.setCell ⟨P, x, none⟩ (.int .i64 (i : Int)) = W1 at *
      have hlv : Hid (Value.slice ao i cp = Value.slice ao i cp) := rfl
      have hsz : w2.heap.size ≤ W1.heap.size := m3
      have i3 : i ≤ 300 := by omega
      have hcn := cell_one_new W1 (.int .i64 (q : Int)) 3
      replace hcn : Hid _ := hcn
      replace hmet : Hid _ := hmet
      replace hne : Hid _ := hne
      replace hye : Hid _ := hye
      replace hne' : Hid _ := hne'
      replace h2 : Hid _ := h2
      replace hd' : Hid _ := hd'
      replace hid : Hid _ := hid
      clear hB h1 g1 g2 g3 g4 m2 m3 T1 hbr hnx hxe hlv
      go_upto_region 8 with (fail)
      generalize Value.slice ao i cp = cc at m1 hmet ⊢
      go_wp2_with (at_builtin; refine wpList_append_own _ rfl _ _ 66 rfl w2.heap.size 3 i0 (.int .i64 0) 1 8 Tryz.underlying66 hi hz0 hz1 hz2 rfl (by decide) _ _ _ rfl (m1.alloc _) ⟨W1.heap.size, 0, none⟩ 1 1 [.int .i64 (q : Int)] rfl rfl hcn.out (by simp [Value.oneCell']) (by unfold maxLen; omega) (by omega) (by simp; omega) ?_; intro t' w3 hown' hgrow _; have hS := hmet.out t' w3 hown' hgrow; clear hown' hgrow m1 hcn hmet td rd; obtain ⟨k0, k1⟩ := K.kept hS.below; obtain ⟨b, off, rfl, ce⟩ := hed.out _ hS.below)
      go_roundw
      case rel => exact ⟨i + 1, d', by have := hid.out; have := hd'.out; omega, by rw [hye.out], by go_num, hS, fun a b h3 h4 => hne'.out a b h3 (by omega)⟩
      case measure => have := hd'.out; simp [intOf]; omega
    · obtain ⟨ao, cp, rfl, hcp⟩ := owned_cap2 hB.own
      have cx := hB.pls.c _ hnd
      rw [h1] at cx
      obtain ⟨G, cap', e, hg, hc, hF⟩ := owned_cells (f := fun j => (br es n v j : Int)) (p := i) (by omega) (by rw [outs_len]; exact hB.own)
      injection e with e1 e2 e3
      subst e1 e3
      have hC := hF.from j (i - j) (by omega)
      have hrev := rev_at G j (i - j) (cp - j) w0.heap.size _ wr hC (by have := hB.lo; have := hB.pq; omega) (by omega) (by omega)
      have hdj : ((j : Int) == -1) = false := beq_eq_false_iff_ne.2 (by omega)
      have hnI : ((bn es n v i : Nat) : Int) < (n : Int) := by omega
      have hji : (j : Int) ≤ (i : Int) := by omega
      have hjn : j ≤ i := by omega
      have hjc : j < cp := by omega
      have hBel := hB.below
      have heq : Hid (bn es n v j = bn es n v i) := h2
      clear hB hF hC hne h1 h2
      generalize hxe : bn es n v i = x at *
      replace hxe : Hid _ := hxe
      go_wp2_with (go_at_call 86; refine hrev.mono ?_; rintro e w3 ⟨rfl, hF3, b3⟩; clear hrev)
      go_ret
      refine ⟨G, cp, i, j, rfl, hj, by omega, hcp, (by rw [heq.out]; exact hxe.out), ⟨fun t ht => ?_⟩, bthen B0 (hBel.trans b3)⟩
      have := hF3.c t ht
      rw [this]
      show some (Value.int .i64 ((br es n v (j + (i - j - 1 - t)) : Nat) : Int)) = _
      rw [show j + (i - j - 1 - t) = i - 1 - t by omega]

end Go.Proofs.YtjageagnclmnjaaGreatDoor.Q

end

section
namespace Go.Proofs.YtjageagnclmnjaaGreatDoor.Q
set_option maxRecDepth 100000
open Go.RowKit
set_option linter.unusedVariables false

instance (a b : Int × Int) : Decidable (sbl a b) := inferInstanceAs (Decidable (_ < _))
/-- a slope that is small -/
def sok (a b : Int) : Prop := (-629145600 ≤ a ∧ a ≤ 629145600) ∧ 1 ≤ b ∧ b ≤ 300
theorem sok_mul {a b c d : Int} (h : sok a b) (h' : sok c d) : -188743680000 ≤ a * d ∧ a * d ≤ 188743680000 := by
  obtain ⟨⟨h1, h2⟩, h3, h4⟩ := h
  obtain ⟨_, h5, h6⟩ := h'
  have a1 := mul_le_pos h1 (show (0 : Int) ≤ d by omega)
  have a2 := mul_le_pos h2 (show (0 : Int) ≤ d by omega)
  omega
theorem Fr.new58 (w : World) (C : Nat) (hC : C = w.heap.size) (a b : Int) : Fr (w.alloc (.cells #[.int .i64 a, .int .i64 b] 173)) C a b := by
  subst hC
  constructor
  all_goals first
    | (rw [World.cell?_alloc_at _ _ _ _ rfl]; rfl)
    | (rw [World.frozen?_alloc_at _ _ _ _ rfl])

set_option maxHeartbeats 800000 in
theorem below_any (a b c d : Int) (h : sok a b) (h' : sok c d) (w : World) :
    Calls Tryz.prog 102 #[.agg #[.int .i64 a, .int .i64 b], .agg #[.int .i64 c, .int .i64 d]] w fun e w' => e = .returned (.bool (decide (sbl (a, b) (c, d)))) ∧ Below w.heap.size w w' := by
  have m1 := sok_mul h h'
  have m2 := sok_mul h' h
  have X := (Fr.new58 w _ rfl a b).alloc (.cells #[.int .i64 c, .int .i64 d] 173)
  have Y := Fr.new58 (w.alloc (.cells #[.int .i64 a, .int .i64 b] 173)) (w.heap.size + 1) (by simp) c d
  have B : Below w.heap.size w ((w.alloc (.cells #[.int .i64 a, .int .i64 b] 173)).alloc (.cells #[.int .i64 c, .int .i64 d] 173)) := balloc (balloc (Below.refl _ _) _) _
  have e : decide (sbl (a, b) (c, d)) = decide (a * d < c * b) := rfl
  rw [e]
  have w1 : wrap64 (a * d) = a * d := IntWalk.wrap64_in _ (by omega)
  have w2 : wrap64 (c * b) = c * b := IntWalk.wrap64_in _ (by omega)
  obtain ⟨W, hW⟩ : ∃ W, (w.alloc (.cells #[.int .i64 a, .int .i64 b] 173)).alloc (.cells #[.int .i64 c, .int .i64 d] 173) = W := ⟨_, rfl⟩
  rw [hW] at X Y B
  obtain ⟨x0, x1, _, _⟩ := X
  obtain ⟨y0, y1, _, _⟩ := Y
  clear e h h'
  go_enter Tryz.func102, Tryz.ntmps102
  go_wp2
  go_ret
  exact ⟨rfl, B⟩

theorem Fr.farS {w : World} {C : Nat} {a b : Int} (h : Fr w C a b) {O : Nat} (hO : ¬ O = C) (k : Nat) (x : Value) : Fr (w.setCell ⟨O, k, none⟩ x) C a b :=
  ⟨(World.cell?_setCell_other _ _ _ _ (fun q => hO (by injection q))).trans h.c0, (World.cell?_setCell_other _ _ _ _ (fun q => hO (by injection q))).trans h.c1, (World.frozen?_setCell _ _ _ _).trans h.f0, (World.frozen?_setCell _ _ _ _).trans h.f1⟩
theorem put2S {B P : Nat} {w v : World} (b : Below B w v) (h : B ≤ P) (x y : Value) : Below B w ((v.setCell ⟨P, 0, none⟩ x).setCell ⟨P, 1, none⟩ y) := Below.setCell (Below.setCell b h _) h _

set_option maxHeartbeats 3200000 in
theorem leastSlope_any (n : Nat) (es : List Eg) (hG : Gph n es) (g c : Nat) (O : Nat → Nat) (N1 : Nat) (hN1 : N1 = n + 1) (v : Nat) (hv : v < n) (x : Int × Nat) (hx : tb es n v = some x) (w : World) (hT : Tbl w g c n O es) :
    Calls Tryz.prog 101 #[.slice (some ⟨g, 0, none⟩) N1 c, .int .i64 v] w fun e w' => ∃ s : Int × Int, e = .returned (.agg #[.int .i64 s.1, .int .i64 s.2]) ∧ Lsl es n v n s ∧ Below w.heap.size w w' := by
  have n3 := hG.n3
  have xr := tb_range hG.wgt hx
  have i2 : (N1 : Int) - 1 = (n : Int) := by omega
  have i3 : (n : Int) < (N1 : Int) := by omega
  have i4 : (0 : Int) < (N1 : Int) := by omega
  have i5 : (v : Int) < (n : Int) := by omega
  have i6 : n ≤ c := by have := hT.cap; omega
  have hgh : Hid (Gph n es) := hG
  have T0 := hT.alloc (.cells #[.int .i64 0, .int .i64 0] 173)
  have tn := T0.top n (Nat.le_refl _)
  have t0 := T0.top 0 (Nat.zero_le _)
  have rn := ((T0.row n (Nat.le_refl _)).c v hv).1
  have r0 := ((T0.row 0 (Nat.zero_le _)).c v hv).1
  simp only [hx, wv] at rn
  simp only [tb, wv] at r0
  have wx : wrap64 x.1 = x.1 := IntWalk.wrap64_in _ (by omega)
  have st : Lsl es n v 0 (x.1 - 0, (n : Int)) := Lsl.start hx (by omega)
  rw [Int.sub_zero] at st
  have FR := (Fr.new58 w _ rfl 0 0).alloc (.cells #[.int .i64 x.1, .int .i64 (n : Int)] 173)
  have FL := Fr.new58 (w.alloc (.cells #[.int .i64 0, .int .i64 0] 173)) (w.heap.size + 1) (by simp) x.1 n
  have B1 : Below w.heap.size w ((w.alloc (.cells #[.int .i64 0, .int .i64 0] 173)).alloc (.cells #[.int .i64 x.1, .int .i64 (n : Int)] 173)) := balloc (balloc (Below.refl _ _) _) _
  obtain ⟨W1, hW1⟩ : ∃ W1, (w.alloc (.cells #[.int .i64 0, .int .i64 0] 173)).alloc (.cells #[.int .i64 x.1, .int .i64 (n : Int)] 173) = W1 := ⟨_, rfl⟩
  rw [hW1] at FR FL B1
  have hxx : Hid (tb es n v = some x) := hx
  replace hN1 : Hid _ := hN1
  clear hx hG
  go_enter Tryz.func101, Tryz.ntmps101
  go_wp2
  clear tn t0 rn r0 T0
  go_loopw [37] (fun i wr => ∃ k : Nat, k ≤ n ∧ i = .int .i64 k ∧ ∃ s : Int × Int, Lsl es n v k s ∧ Fr wr w.heap.size 0 0 ∧ Fr wr (w.heap.size + 1) s.1 s.2 ∧ Below w.heap.size w wr) (fun i _ => n - (intOf i).toNat)
  case atStart => exact ⟨0, Nat.zero_le _, rfl, _, st, FR, FL, B1⟩
  case round =>
    clear st B1 wx FR FL hW1
    obtain ⟨k, hk, rfl, ⟨s1, s2⟩, hS, FR, FL, B⟩ := hrel
    simp only at FL
    by_cases hlt : k < n
    · have hx := hxx.out
      obtain ⟨y, hy⟩ := tb_down (show k ≤ n by omega) hx
      have yr := tb_range hgh.out.wgt hy
      have T := hT.kept B
      have tk := T.top k hk
      have rk := ((T.row k hk).c v hv).1
      simp only [hy, wv] at rk
      have hkI : (k : Int) < (n : Int) := by omega
      obtain ⟨A, hA⟩ : ∃ A, x.1 - y.1 = A := ⟨_, rfl⟩
      obtain ⟨D, hD⟩ : ∃ D, (n : Int) - (k : Int) = D := ⟨_, rfl⟩
      have wA : wrap64 (x.1 - y.1) = A := by rw [← hA]; exact IntWalk.wrap64_in _ (by omega)
      have wD : wrap64 ((n : Int) - (k : Int)) = D := by rw [← hD]; exact IntWalk.wrap64_in _ (by omega)
      have so1 : sok A D := ⟨by omega, by omega⟩
      have so2 : sok s1 s2 := hS.range hgh.out.wgt n3
      have hbl := below_any A D s1 s2 so1 so2
      have yes : sbl (A, D) (s1, s2) → Lsl es n v (k + 1) (A, D) := fun h => by
        have := hS.take hlt hx hy (by rw [hA, hD]; exact h)
        rw [hA, hD] at this; exact this
      have no : ¬ sbl (A, D) (s1, s2) → Lsl es n v (k + 1) (s1, s2) := fun h => hS.keep hx hy (by rw [hA, hD]; exact h)
      have B2 := balloc B (.cells #[.int .i64 A, .int .i64 D] 173)
      have FR2 := FR.alloc (.cells #[.int .i64 A, .int .i64 D] 173)
      have FL2 := FL.alloc (.cells #[.int .i64 A, .int .i64 D] 173)
      have FS := Fr.new58 wr wr.heap.size rfl A D
      have hsz := B.size
      have hl1 : w.heap.size + 1 < wr.heap.size := block_lt FL.c0
      obtain ⟨W2, hW2⟩ : ∃ W2, wr.alloc (.cells #[.int .i64 A, .int .i64 D] 173) = W2 := ⟨_, rfl⟩
      obtain ⟨E, hEE⟩ : ∃ E, wr.heap.size = E := ⟨_, rfl⟩
      rw [hW2] at B2 FR2 FL2 FS
      rw [hEE] at FS hl1
      obtain ⟨s0, s01, _, _⟩ := id FS
      obtain ⟨l0, l01, _, _⟩ := id FL2
      clear FR FL hS hx hy yr T so1 so2 B
      replace hA : Hid _ := hA
      by_cases hb : sbl (A, D) (s1, s2)
      · have hY := yes hb
        have dd : decide (sbl (A, D) (s1, s2)) = true := decide_eq_true hb
        rw [dd] at hbl
        clear yes no dd hb
        go_wp2_with (go_at_call 102; refine (hbl _).mono ?_; rintro e W3 ⟨rfl, bb⟩; clear hbl; replace B2 := bthen B2 bb; replace FR2 := FR2.kept bb; replace FL2 := FL2.kept bb; replace FS := FS.kept bb; clear s0 s01 l0 l01; obtain ⟨s0, s01, _, _⟩ := id FS; obtain ⟨l0, l01, lf0, lf1⟩ := id FL2; have FR3 := (FR2.farS (show ¬ w.heap.size + 1 = w.heap.size by omega) 0 (.int .i64 A)).farS (show ¬ w.heap.size + 1 = w.heap.size by omega) 1 (.int .i64 D); have FL3 := FL2.put A D; have B3 := put2S (P := w.heap.size + 1) B2 (by omega) (.int .i64 A) (.int .i64 D))
        go_roundw
        case rel => exact ⟨k + 1, by omega, by go_num, (A, D), hY, FR3, FL3, B3⟩
        case measure => simp [intOf]; omega
      · have hY := no hb
        have dd : decide (sbl (A, D) (s1, s2)) = false := decide_eq_false hb
        rw [dd] at hbl
        clear yes no dd hb
        go_wp2_with (go_at_call 102; refine (hbl _).mono ?_; rintro e W3 ⟨rfl, bb⟩; clear hbl; replace B2 := bthen B2 bb; replace FR2 := FR2.kept bb; replace FL2 := FL2.kept bb)
        go_roundw
        case rel => exact ⟨k + 1, by omega, by go_num, (s1, s2), hY, FR2, FL2, B2⟩
        case measure => simp [intOf]; omega
    · obtain rfl : k = n := by omega
      obtain ⟨l0, l01, _, _⟩ := id FL
      obtain ⟨r0, r01, rf0, rf1⟩ := id FR
      obtain ⟨z0, z1, _, _⟩ := FR.put s1 s2
      go_wp2
      refine bodyPost_ret (v := .agg #[.int .i64 s1, .int .i64 s2]) (by simp [results, Tryz.results101, go_sem, z0, z1]) rfl ⟨(s1, s2), rfl, hS, put2S (P := w.heap.size) B (Nat.le_refl _) _ _⟩

end Go.Proofs.YtjageagnclmnjaaGreatDoor.Q

end

section
namespace Go.Proofs.YtjageagnclmnjaaGreatDoor.Q
set_option maxRecDepth 100000
open Go.RowKit
set_option linter.unusedVariables false

set_option maxHeartbeats 3200000 in
theorem steepest_any (n : Nat) (es : List Eg) (hG : Gph n es) (g c : Nat) (O : Nat → Nat) (N1 : Nat) (hN1 : N1 = n + 1) (w : World) (hT : Tbl w g c n O es) :
    Calls Tryz.prog 63 #[.slice (some ⟨g, 0, none⟩) N1 c] w fun e w' => ∃ (N : Int) (m : Int × Int), e = .returned (.int .i64 N) ∧ Stp es n n N m ∧ Below w.heap.size w w' := by
  have n3 := hG.n3
  have i2 : (N1 : Int) - 1 = (n : Int) := by omega
  have i3 : (n : Int) < (N1 : Int) := by omega
  have hls : Hid (∀ (v : Nat) (x : Int × Nat), v < n → tb es n v = some x → ∀ u, Tbl u g c n O es → Calls Tryz.prog 101 #[.slice (some ⟨g, 0, none⟩) N1 c, .int .i64 v] u fun e w' => ∃ s : Int × Int, e = .returned (.agg #[.int .i64 s.1, .int .i64 s.2]) ∧ Lsl es n v n s ∧ Below u.heap.size u w') := fun v x hv hx u hu => leastSlope_any n es hG g c O N1 hN1 v hv x hx u hu
  have hgh : Hid (Gph n es) := hG
  have T0 := hT.alloc (.cells #[.int .i64 0, .int .i64 0] 173)
  have tn := T0.top n (Nat.le_refl _)
  have st : Stp es n 0 (-1) (0, 0) := Stp.start es n (0, 0)
  have FM := Fr.new58 w _ rfl 0 0
  have B1 : Below w.heap.size w (w.alloc (.cells #[.int .i64 0, .int .i64 0] 173)) := balloc (Below.refl _ _) _
  obtain ⟨W1, hW1⟩ : ∃ W1, w.alloc (.cells #[.int .i64 0, .int .i64 0] 173) = W1 := ⟨_, rfl⟩
  rw [hW1] at FM B1 tn
  replace hN1 : Hid _ := hN1
  clear hG T0
  go_enter Tryz.func63, Tryz.ntmps63
  go_wp2
  clear tn
  go_loopw [3, 15] (fun x i wr => ∃ k : Nat, k ≤ n ∧ i = .int .i64 k ∧ ∃ (N : Int) (m : Int × Int), x = .int .i64 N ∧ Stp es n k N m ∧ Fr wr w.heap.size m.1 m.2 ∧ Below w.heap.size w wr) (fun _ i _ => n - (intOf i).toNat)
  case atStart => exact ⟨0, Nat.zero_le _, rfl, _, _, rfl, st, FM, B1⟩
  case round =>
    clear st FM B1 hW1
    obtain ⟨k, hk, rfl, N, ⟨m1, m2⟩, rfl, hS, FM, B⟩ := hrel
    simp only at FM
    by_cases hlt : k < n
    · have hkI : (k : Int) < (n : Int) := by omega
      have T := hT.kept B
      have hBs := B.size
      obtain ⟨c0, c1⟩ := (T.row n (Nat.le_refl _)).c k hlt
      obtain ⟨X, hX⟩ : ∃ X, wv (tb es n k) = X := ⟨_, rfl⟩
      obtain ⟨Y, hY⟩ : ∃ Y, lv (tb es n k) = Y := ⟨_, rfl⟩
      simp only [hX, hY] at c0 c1
      have T1 := T.alloc (.cells #[.int .i64 X, .int .i64 Y] 175)
      have B1 := balloc B (.cells #[.int .i64 X, .int .i64 Y] 175)
      have FM1 := FM.alloc (.cells #[.int .i64 X, .int .i64 Y] 175)
      have x0 : (wr.alloc (.cells #[.int .i64 X, .int .i64 Y] 175)).cell? ⟨wr.heap.size, 0, none⟩ = some (.int .i64 X) := by rw [World.cell?_alloc_at _ _ _ _ rfl]; rfl
      obtain ⟨W2, hW2⟩ : ∃ W2, wr.alloc (.cells #[.int .i64 X, .int .i64 Y] 175) = W2 := ⟨_, rfl⟩
      obtain ⟨E, hEE⟩ : ∃ E, wr.heap.size = E := ⟨_, rfl⟩
      rw [hW2] at T1 B1 FM1 x0
      rw [hEE] at x0
      clear T B FM hT
      cases hd : tb es n k with
      | none =>
        have hS2 := hS.skip hd
        rw [hd] at hX
        have hX' : (X == -1152921504606846976) = true := beq_iff_eq.2 hX.symm
        clear hX hd hY
        go_wp2
        go_roundw
        case rel => exact ⟨k + 1, by omega, by go_num, N, (m1, m2), rfl, hS2, FM1, B1⟩
        case measure => simp [intOf]; omega
      | some y =>
        have yr := tb_range hgh.out.wgt hd
        rw [hd] at hX
        have hX2 : y.1 = X := hX
        have hX' : (X == -1152921504606846976) = false := beq_eq_false_iff_ne.2 (by omega)
        have h29 := hls.out k y hlt hd
        clear hX hX2 yr hY
        have hwE : w.heap.size ≤ E := by rw [← hEE]; exact hBs
        by_cases hN : N = -1
        · subst hN
          go_wp2_with (go_at_call 101; refine (h29 _ T1).mono ?_; rintro e W3 ⟨⟨s1, s2⟩, rfl, hL, bb⟩; clear h29; replace T1 := T1.kept bb; replace B1 := bthen B1 bb; replace FM1 := FM1.kept bb; replace B1 := balloc B1 (.cells #[.int .i64 s1, .int .i64 s2] 173); replace FM1 := FM1.alloc (.cells #[.int .i64 s1, .int .i64 s2] 173); have FS := Fr.new58 W3 W3.heap.size rfl s1 s2; have hne : W3.heap.size ≠ w.heap.size := (by have := B1.size; have : w.heap.size < W3.heap.size := (by have h1 := bb.size; rw [← hW2] at h1; simp at h1; have h2 : w.heap.size ≤ E := hwE; omega); omega); obtain ⟨W4, hW4⟩ : ∃ W4, W3.alloc (.cells #[.int .i64 s1, .int .i64 s2] 173) = W4 := ⟨_, rfl⟩; obtain ⟨E3, hE3⟩ : ∃ E3, W3.heap.size = E3 := ⟨_, rfl⟩; rw [hW4] at B1 FM1 FS; rw [hE3] at FS hne; obtain ⟨s0, s01, sf0, sf1⟩ := id FS; obtain ⟨l0, l01, lf0, lf1⟩ := id FM1; have hS2 := hS.take hL (.inl rfl); clear hL bb T1 hS)
          have FM3 : ∀ q, Fr (((W4.drewN q).setCell ⟨w.heap.size, 0, none⟩ (.int .i64 s1)).setCell ⟨w.heap.size, 1, none⟩ (.int .i64 s2)) w.heap.size s1 s2 := fun q => (FM1.drewN q).put s1 s2
          have B3 : ∀ q, Below w.heap.size w (((W4.drewN q).setCell ⟨w.heap.size, 0, none⟩ (.int .i64 s1)).setCell ⟨w.heap.size, 1, none⟩ (.int .i64 s2)) := fun q => put2S (P := w.heap.size) (below_drewN B1 q) (Nat.le_refl _) (.int .i64 s1) (.int .i64 s2)
          clear B1 FM1 FS
          go_region
          all_goals
            go_wp2
            go_roundw
            case rel => exact ⟨k + 1, by omega, by go_num, (k : Int), (s1, s2), rfl, hS2, FM3 1, B3 1⟩
            case measure => simp [intOf]; omega
        · have hN' : (N == -1) = false := beq_eq_false_iff_ne.2 hN
          obtain ⟨v0, -, -, hL0, -⟩ := hS.yes hN
          have so := hL0.range hgh.out.wgt n3
          clear hL0
          have T2 := True.intro
          go_wp2_with (first
            | (go_at_call 101; refine (h29 _ T1).mono ?_; rintro e W3 ⟨⟨s1, s2⟩, rfl, hL, bb⟩; clear h29; replace T1 := T1.kept bb; replace B1 := bthen B1 bb; replace FM1 := FM1.kept bb; replace B1 := balloc B1 (.cells #[.int .i64 s1, .int .i64 s2] 173); replace FM1 := FM1.alloc (.cells #[.int .i64 s1, .int .i64 s2] 173); have FS := Fr.new58 W3 W3.heap.size rfl s1 s2; have hne : W3.heap.size ≠ w.heap.size := (by have := B1.size; have : w.heap.size < W3.heap.size := (by have h1 := bb.size; rw [← hW2] at h1; simp at h1; have h2 : w.heap.size ≤ E := hwE; omega); omega); obtain ⟨W4, hW4⟩ : ∃ W4, W3.alloc (.cells #[.int .i64 s1, .int .i64 s2] 173) = W4 := ⟨_, rfl⟩; obtain ⟨E3, hE3⟩ : ∃ E3, W3.heap.size = E3 := ⟨_, rfl⟩; rw [hW4] at B1 FM1 FS; rw [hE3] at FS hne; obtain ⟨s0, s01, sf0, sf1⟩ := id FS; obtain ⟨l0, l01, lf0, lf1⟩ := id FM1; have so2 := hL.range hgh.out.wgt n3; have h30 := below_any m1 m2 s1 s2 so so2; clear bb T1 so so2)
            | (go_at_call 102; refine (h30 _).mono ?_; rintro e W5 ⟨rfl, bb⟩; clear h30 s0 s01 sf0 sf1 l0 l01 lf0 lf1; replace B1 := bthen B1 bb; replace FM1 := FM1.kept bb; replace FS := FS.kept bb; clear bb hW4; obtain ⟨s0, s01, sf0, sf1⟩ := id FS; obtain ⟨l0, l01, lf0, lf1⟩ := id FM1; generalize hbb : decide (sbl (m1, m2) (s1, s2)) = bb))
          · have hb : bb = true := by assumption
            rw [hb] at hbb
            have hS2 := hS.take hL (.inr (of_decide_eq_true hbb))
            have FM3 : ∀ q, Fr (((W5.drewN q).setCell ⟨w.heap.size, 0, none⟩ (.int .i64 s1)).setCell ⟨w.heap.size, 1, none⟩ (.int .i64 s2)) w.heap.size s1 s2 := fun q => (FM1.drewN q).put s1 s2
            have B3 : ∀ q, Below w.heap.size w (((W5.drewN q).setCell ⟨w.heap.size, 0, none⟩ (.int .i64 s1)).setCell ⟨w.heap.size, 1, none⟩ (.int .i64 s2)) := fun q => put2S (P := w.heap.size) (below_drewN B1 q) (Nat.le_refl _) (.int .i64 s1) (.int .i64 s2)
            clear B1 FM1 FS hbb hS hL
            go_region
            all_goals
              go_wp2
              go_roundw
              case rel => exact ⟨k + 1, by omega, by go_num, (k : Int), (s1, s2), rfl, hS2, FM3 1, B3 1⟩
              case measure => simp [intOf]; omega
          · have hb : bb = false := by first | assumption | (cases bb; (rfl); (exact absurd rfl (by assumption)))
            rw [hb] at hbb
            have hS2 := hS.keep hL hN (of_decide_eq_false hbb)
            exact ⟨⟨k + 1, by omega, by go_num, N, (m1, m2), rfl, hS2, FM1, B1⟩, by simp [intOf]; omega⟩
    · obtain rfl : k = n := by omega
      go_wp2
      go_ret
      exact ⟨N, _, rfl, hS, B⟩

end Go.Proofs.YtjageagnclmnjaaGreatDoor.Q

end

section
namespace Go.Proofs.YtjageagnclmnjaaGreatDoor.Q
set_option maxRecDepth 100000
open Go.RowKit

/-- the greatest common part, by whatever way -/
def gcd (a b : Int) : Int := (Int.gcd a b : Int)
theorem gcd_step {a b : Int} (ha : 0 ≤ a) : gcd b (a.tmod b) = gcd a b := by
  unfold gcd
  rw [Int.tmod_eq_emod_of_nonneg ha]
  have : Int.gcd b (a % b) = Int.gcd a b := by
    show Nat.gcd b.natAbs (a % b).natAbs = Nat.gcd a.natAbs b.natAbs
    rw [Int.natAbs_emod_of_nonneg ha, Nat.gcd_comm a.natAbs, Nat.gcd_rec b.natAbs a.natAbs]
    exact Nat.gcd_comm _ _
  rw [this]
theorem gcd_zero {a : Int} (ha : 0 ≤ a) : gcd a 0 = a := by
  unfold gcd
  rw [Int.gcd_zero_right]; omega
theorem gcd_comm (a b : Int) : gcd a b = gcd b a := by unfold gcd; rw [Int.gcd_comm]
theorem gcd_pos {a b : Int} (hb : 0 < b) : 0 < gcd a b := by
  unfold gcd
  have : 0 < Int.gcd a b := Int.gcd_pos_of_ne_zero_right _ (by omega)
  omega

/-- a fraction in lowest terms -/
def low1 (a b : Int) : Int := a.tdiv (gcd a b)
def low2 (a b : Int) : Int := b.tdiv (gcd a b)
theorem tdiv_in {a g : Int} (ha : 0 ≤ a) (hg : 0 < g) : 0 ≤ a.tdiv g ∧ a.tdiv g ≤ a := by
  rw [Int.tdiv_eq_ediv_of_nonneg ha]
  exact ⟨Int.ediv_nonneg ha (by omega), Int.ediv_le_self _ ha⟩

theorem gcd_abs (a b : Int) : gcd (max a (-a)) b = gcd a b := by
  unfold gcd Int.gcd
  rw [show (max a (-a)).natAbs = a.natAbs by omega]
theorem tdiv_any {a g : Int} (ha : -4611686018427387904 ≤ a ∧ a ≤ 4611686018427387904) (hg : 0 < g) : -4611686018427387904 ≤ a.tdiv g ∧ a.tdiv g ≤ 4611686018427387904 := by
  rcases Int.le_total 0 a with h | h
  · have := tdiv_in h hg; omega
  · have := tdiv_in (a := -a) (by omega) hg
    rw [Int.neg_tdiv] at this
    omega
end Go.Proofs.YtjageagnclmnjaaGreatDoor.Q

end

section
namespace Go.Proofs.YtjageagnclmnjaaGreatDoor.Q
set_option maxRecDepth 100000
open Go.RowKit

set_option maxHeartbeats 800000 in
theorem divisor_any (a b : Int) (w : World) (ha : 0 ≤ a) (hb : 0 ≤ b) (ha1 : a ≤ 9223372036854775807) (hb1 : b ≤ 9223372036854775807) :
    Calls Tryz.prog 65 #[.int .i64 a, .int .i64 b] w fun e w' => e = .returned (.int .i64 (gcd a b)) ∧ ∃ q, w' = w.drewN q := by
  obtain ⟨G, hG⟩ : ∃ G, gcd a b = G := ⟨_, rfl⟩
  rw [hG]
  go_enter Tryz.func65, Tryz.ntmps65
  go_wp2
  go_loopw [0, 1] (fun x y wr => ∃ (u v : Int) (q : Nat), 0 ≤ u ∧ 0 ≤ v ∧ u ≤ 9223372036854775807 ∧ v ≤ 9223372036854775807 ∧ x = .int .i64 u ∧ y = .int .i64 v ∧ gcd u v = G ∧ wr = w.drewN q) (fun _ y _ => (intOf y).toNat)
  case atStart => exact ⟨a, b, 0, ha, hb, ha1, hb1, rfl, rfl, hG, rfl⟩
  case round =>
    obtain ⟨u, v, q, hu, hv, hu1, hv1, rfl, rfl, hg, rfl⟩ := hrel
    clear ha hb ha1 hb1 hG
    by_cases c : 0 < v
    · have hg2 : Hid (gcd v (u.tmod v) = G) := (gcd_step hu).trans hg
      obtain ⟨m, hm⟩ : ∃ m, u.tmod v = m := ⟨_, rfl⟩
      have m0 : 0 ≤ m := by rw [← hm]; exact Int.tmod_nonneg _ hu
      have m1 : m < v := by rw [← hm]; exact Int.tmod_lt_of_pos _ c
      have d1 : (v == 0) = false := beq_eq_false_iff_ne.2 (by omega)
      have d2 : ¬ v = 0 := by omega
      rw [hm] at hg2
      clear hg
      go_wp2
      go_region
      all_goals
        go_wp2
        go_roundw
        case rel => exact ⟨v, m, q + 1, by omega, by omega, by omega, by omega, rfl, rfl, hg2.out, by first | rfl | exact World.drewN_drewN _ q 1⟩
        case measure => simp [intOf]; omega
    · obtain rfl : v = 0 := by omega
      have e := hg
      rw [gcd_zero hu] at e
      subst e
      clear hg
      go_wp2
      go_ret
      exact ⟨rfl, q, rfl⟩

set_option maxHeartbeats 1600000 in
theorem lowest_any (a b : Int) (w : World) (hb : 0 < b) (ha0 : -4611686018427387904 ≤ a) (ha1 : a ≤ 4611686018427387904) (hb1 : b ≤ 4611686018427387904) :
    Calls Tryz.prog 41 #[.int .i64 a, .int .i64 b] w fun e w' => e = .returned (.agg #[.int .i64 (low1 a b), .int .i64 (low2 a b)]) ∧ Below w.heap.size w w' := by
  obtain ⟨a2, ha2⟩ : ∃ a2, max a (-a) = a2 := ⟨_, rfl⟩
  have hng : wrap64 (-a) = -a := IntWalk.wrap64_in _ (by omega)
  have hd := fun w0 => divisor_any a2 b w0 (by omega) (by omega) (by omega) (by omega)
  rw [show gcd a2 b = gcd a b by rw [← ha2, gcd_abs]] at hd
  have hp := gcd_pos (a := a) hb
  have h1 := tdiv_any (a := a) (by omega) hp
  have h2 := tdiv_in (a := b) (by omega) hp
  unfold low1 low2
  generalize gcd a b = G at *
  have d1 : (G == 0) = false := beq_eq_false_iff_ne.2 (by omega)
  have d2 : ¬ G = 0 := by omega
  obtain ⟨A, hA⟩ : ∃ A, a.tdiv G = A := ⟨_, rfl⟩
  obtain ⟨B, hB⟩ : ∃ B, b.tdiv G = B := ⟨_, rfl⟩
  rw [hA] at h1
  rw [hB] at h2
  rw [hA, hB]
  obtain ⟨x1, x2⟩ := h1
  obtain ⟨y1, y2⟩ := h2
  go_enter Tryz.func41, Tryz.ntmps41
  go_wp2_with (go_at_call 65; refine (hd _).mono ?_; rintro e w2 ⟨rfl, q, hw⟩; clear hd; have X : Fr w2 w.heap.size 0 0 := (by rw [hw]; exact (Fr.new w _ rfl 0 0).drewN q); have HB : Below w.heap.size w w2 := (by rw [hw]; exact below_drewN (balloc (Below.refl _ _) _) q); clear hw; obtain ⟨c0, c1, f0, f1⟩ := X)
  go_region
  all_goals
    go_wp2
    refine bodyPost_ret (v := .agg #[.int .i64 A, .int .i64 B]) (by simp [results, Tryz.results41, go_sem, c0, c1]) rfl ⟨rfl, ?_⟩
    repeat (first | refine Below.setCell ?_ (by simp) _ | refine Below.drew ?_)
    exact HB

end Go.Proofs.YtjageagnclmnjaaGreatDoor.Q

end
