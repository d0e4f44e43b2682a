/- PROVED: what mean.goneRound answers. CONDITIONS: none beyond each theorem's own. -/
import Derived.Test.YtdbpgcaodgkcjaaHv
import Derived.Test.YtdbpgcaodgkcjaaRvo
import Derived.Test.YtdbpgcaodgkcjaaMTo
import Derived.Test.YtdbpgcaodgkcjaaGon
import Derived.Deep.CutRange
namespace Go.Proofs.Ytdbpgcaodgkcjaa
open Go.RowKit
set_option linter.unusedVariables false

/-- where each node was met, behind i nodes; -1: nowhere yet -/
def pl (es : List Eg) (n v : Nat) : Nat → Nat → Int
  | 0, _ => -1
  | i + 1, u => if u = bn es n v i then (i : Int) else pl es n v i u
theorem pl_is (es : List Eg) (n v i u : Nat) : (pl es n v i u = -1 ∧ ∀ j, j < i → bn es n v j ≠ u) ∨ ∃ j, j < i ∧ pl es n v i u = (j : Int) ∧ bn es n v j = u := by
  induction i with
  | zero => exact .inl ⟨rfl, fun j h => by omega⟩
  | succ i ih =>
    show ((if u = bn es n v i then (i : Int) else pl es n v i u) = -1 ∧ _) ∨ ∃ j, j < i + 1 ∧ (if u = bn es n v i then (i : Int) else pl es n v i u) = (j : Int) ∧ _
    by_cases h : u = bn es n v i
    · rw [if_pos h]; exact .inr ⟨i, by omega, rfl, h.symm⟩
    · rw [if_neg h]
      rcases ih with ⟨h1, h2⟩ | ⟨j, h1, h2, h3⟩
      · refine .inl ⟨h1, fun j hj => ?_⟩
        rcases Nat.lt_succ_iff_lt_or_eq.1 hj with hj | rfl
        · exact h2 j hj
        · exact fun e => h e.symm
      · exact .inr ⟨j, by omega, h2, h3⟩

/-- what lies there while the walk is gone back -/
structure Bks (w0 : World) (q P : Nat) (es : List Eg) (n v i : Nat) (t : Value) (wr : World) : Prop where
  own : wr.ownsRow q 3 1 t i ((outs (fun j => (br es n v j : Int)) i).map (Value.int .i64))
  pls : Cells wr P n (pl es n v i)
  lo : w0.heap.size ≤ P
  pq : P < q
  sz : q ≤ wr.heap.size
  below : Below w0.heap.size w0 wr
/-- the node is met -/
theorem Bks.met {w0 : World} {q P : Nat} {es : List Eg} {n v i : Nat} {t : Value} {wr : World} (h : Bks w0 q P es n v i t wr) (hb : bn es n v i < n) :
    (wr.setCell ⟨P, bn es n v i, none⟩ (.int .i64 (i : Int))).ownsRow q 3 1 t i ((outs (fun j => (br es n v j : Int)) i).map (Value.int .i64)) ∧ Cells (wr.setCell ⟨P, bn es n v i, none⟩ (.int .i64 (i : Int))) P n (pl es n v (i + 1)) ∧ q ≤ (wr.setCell ⟨P, bn es n v i, none⟩ (.int .i64 (i : Int))).heap.size ∧ Below w0.heap.size w0 (wr.setCell ⟨P, bn es n v i, none⟩ (.int .i64 (i : Int))) := by
  refine ⟨?_, h.pls.put hb (by show (if _ then _ else _) = _; rw [if_pos rfl]) (fun j _ hj => by show (if _ then _ else _) = _; rw [if_neg hj]), ?_, Below.setCell h.below (p := ⟨P, bn es n v i, none⟩) h.lo _⟩
  · obtain ⟨hl, h2⟩ := h.own
    refine ⟨hl, ?_⟩
    rcases h2 with e | ⟨g, cap, cur, e, hg, hh, r⟩
    · exact .inl e
    · refine .inr ⟨g, cap, cur, e, hg, ?_, r⟩
      rw [Below.heap_setCell _ _ _ _ (by show g ≠ P; have := h.pq; omega)]; exact hh
  · have := h.sz; simpa using this
/-- one number more -/
theorem Bks.more {w0 : World} {q P : Nat} {es : List Eg} {n v i : Nat} {t t' : Value} {wr w1 w2 : World} (h : Bks w0 q P es n v i t wr) (hp : Cells w1 P n (pl es n v (i + 1))) (hs : q ≤ w1.heap.size) (hB : Below w0.heap.size w0 w1) (hl : ∀ b, t.ownBlock = some b → q ≤ b) {o : Obj}
    (ho : w2.ownsRow q 3 1 t' (i + 1) ((outs (fun j => (br es n v j : Int)) i).map (Value.int .i64) ++ [.int .i64 (br es n v i : Int)])) (hg : (w1.alloc o).grownBy w2 t.ownBlock) : Bks w0 q P es n v (i + 1) t' w2 := by
  have pq := h.pq
  have hb : w2.heap[P]? = w1.heap[P]? := by
    rw [hg.block P (by simp; omega) (fun e => by have := hl P e.symm; omega)]
    exact (balloc (Below.refl w1.heap.size w1) o).block P (by omega)
  refine ⟨?_, ⟨fun j hj => (World.cell?_of_block (a := ⟨P, j, none⟩) hb).trans (hp.c j hj), fun j hj => (World.frozen?_of_block (a := ⟨P, j, none⟩) hb).trans (hp.fz j hj)⟩, h.lo, pq, ?_, ?_⟩
  · rw [outs_succ, List.map_append]; exact ho
  · have := hg.size; simp at this; omega
  · have lo := h.lo
    exact (hB.alloc hB.size o).grown hg (by have := hB.size; simp; omega) (fun b e => by have := hl b e; omega)

/-- a row of the call's own, as numbers that may be written, or nothing -/
theorem owned_cap2 {w : World} {base : Nat} {t : Value} {f : Nat → Int} {p : Nat} (h : w.ownsRow base 3 1 t p ((outs f p).map (Value.int .i64))) : ∃ ao cap, t = .slice ao p cap ∧ p ≤ cap := by
  have h' := h
  rw [← outs_len f p] at h'
  rw [outs_len f p] at h'
  have := owned_cap (R := outs f p) (by rw [outs_len]; exact h)
  obtain ⟨ao, cap, e, hc, _⟩ := this
  rw [outs_len] at e hc
  exact ⟨ao, cap, e, hc⟩

set_option maxHeartbeats 3200000 in
theorem gone18_any (n : Nat) (es : List Eg) (hG : Gph n es) (g c : Nat) (O : Nat → Nat) (N1 : Nat) (hN1 : N1 = n + 1) (v : Nat) (hv : v < n) (y : Int × Nat) (hy : tb es n v = some y) (a : Option Addr) (cap m : Nat) (hm : es.length = m) (w : World) (hE : GRow w a es) (hT : Tbl w g c n O es) :
    Calls Try.prog 22 #[.agg #[.int .i64 n, .slice a m cap], .slice (some ⟨g, 0, none⟩) N1 c, .int .i64 v] w fun e w' => ∃ G cc i j, e = .returned (.slice (some ⟨G, j, none⟩) (i - j) (cc - j)) ∧ j < i ∧ i ≤ n ∧ i ≤ cc ∧ bn es n v i = bn es n v j ∧ Cat w' G j (i - j) (fun t => (br es n v (i - 1 - t) : Int)) ∧ Below w.heap.size w w' := by
  obtain ⟨i0, hi, hz0, hz1, hz2⟩ := info_parts Try.info3
  have n3 := hG.n3
  have i2 : (N1 : Int) - 1 = (n : Int) := by omega
  have B0 : Below w.heap.size w (w.alloc (.cells #[.int .i64 n, .slice a m cap] 24)) := balloc (Below.refl _ _) _
  have K := Gb.new w n a m cap
  obtain ⟨w0, hw0⟩ : ∃ w0, w.alloc (.cells #[.int .i64 n, .slice a m cap] 24) = w0 := ⟨_, rfl⟩
  rw [hw0] at B0 K
  have hE0 := hE.kept B0
  have hT0 := hT.kept B0
  have K1 := K.alloc (.cells #[.int .i64 (-1)] 3)
  have hrep := repeat_any w0.heap.size 0 1 n (-1) (w0.alloc (.cells #[.int .i64 (-1)] 3)) (by rw [World.cell?_alloc_at _ _ _ _ rfl]; rfl) n3
  have B1 : Below w0.heap.size w0 (w0.alloc (.cells #[.int .i64 (-1)] 3)) := balloc (Below.refl _ _) _
  have hP1 : w0.heap.size ≤ (w0.alloc (.cells #[.int .i64 (-1)] 3)).heap.size := by simp
  obtain ⟨w1, hw1⟩ : ∃ w1, w0.alloc (.cells #[.int .i64 (-1)] 3) = w1 := ⟨_, rfl⟩
  rw [hw1] at K1 hrep B1 hP1
  have hlm : Hid (es.length = m) := hm
  have hgh : Hid (Gph n es) := hG
  have hyy : Hid (tb es n v = some y) := hy
  have hin : Hid (∀ i, i ≤ n → bn es n v i < n) := bn_in hG.inn hv hy
  replace hN1 : Hid _ := hN1
  clear hm hG hy hE hT
  obtain ⟨k0, k1⟩ := id K1
  go_enter Try.func22, Try.ntmps22
  go_wp2_with (go_at_call 31; refine hrep.mono ?_; rintro e w2 ⟨rfl, P0, hO, bb⟩; clear hrep; replace B1 := bthen B1 bb; clear bb k0 k1; generalize w1.heap.size = P at *)
  have hst : Bks w0 w2.heap.size P es n v 0 (.slice none 0 0) w2 := ⟨World.ownsRow_nil _ _ _ _, P0.ext fun j _ => rfl, hP1, hO, Nat.le_refl _, B1⟩
  clear P0 B1 hO K1
  go_loopw [2, 8, 9] (fun x t d wr => ∃ i e : Nat, i + e = n ∧ x = .int .i64 (bn es n v i) ∧ d = .int .i64 e ∧ Bks w0 w2.heap.size P es n v i t wr ∧ ∀ a b, a < b → b < i → bn es n v a ≠ bn es n v b) (fun _ _ d _ => (intOf d).toNat)
  case atStart => exact ⟨0, n, by omega, rfl, rfl, hst, fun a b _ h => by omega⟩
  case round =>
    obtain ⟨i, d, hid, rfl, rfl, hB, hne⟩ := hrel
    clear hst
    have hnd := hin.out i (by omega)
    rcases pl_is es n v i (bn es n v i) with ⟨h1, h2⟩ | ⟨j, hj, h1, h2⟩
    · have hne' : ∀ a b, a < b → b ≤ i → bn es n v a ≠ bn es n v b := fun a b h3 h4 => by
        rcases Nat.lt_or_eq_of_le h4 with h4 | rfl
        · exact hne a b h3 h4
        · exact h2 a h3
      have hroom := back_room hin.out (show i ≤ n by omega) hne'
      obtain ⟨d', hd'⟩ : ∃ d', d = d' + 1 := ⟨d - 1, by omega⟩
      have hdI : (d : Int) - 1 = (d' : Int) := by omega
      obtain ⟨ao, cp, rfl, hcp⟩ := owned_cap2 hB.own
      obtain ⟨m1, m2, m3, m4⟩ := hB.met hnd
      have cx := hB.pls.c _ hnd
      have fx := hB.pls.fz _ hnd
      rw [h1] at cx
      obtain ⟨g1, g2, g3, g4⟩ := bn_step hyy.out hroom
      have T1 := hT0.kept m4
      have td := T1.top d (by omega)
      have rd := ((T1.row d (by omega)).c _ hnd).2
      simp only [la_lv] at rd
      have hbr : la es d (bn es n v i) = br es n v i := by unfold br; rw [show n - i = d by omega]
      rw [hbr] at rd
      have hnx : Hid ((bn es n v (i + 1) : Nat) = bn es n v (i + 1)) := rfl
      have hmet := fun t' w5 => Bks.more (t := .slice ao i cp) (t' := t') (w2 := w5) hB m2 m3 m4 (fun b e => (hB.own.lt b e).1) (o := .cells #[.int .i64 (br es n v i : Int)] 3)
      have q2 := hlm.out
      have hed : Hid (∀ w', Below w0.heap.size w0 w' → ∃ b off, a = some ⟨b, off, none⟩ ∧ w'.cell? ⟨b, off + br es n v i * 3, none⟩ = some (.int .i64 (bn es n v (i + 1) : Int))) := fun w' h => by
        obtain ⟨b, off, e, h1⟩ := (hE0.kept h).at (by omega)
        refine ⟨b, off, e, ?_⟩
        rw [← g3]; exact (h1 _ g1).1
      have hqI : ((br es n v i : Nat) : Int) < (m : Int) := by omega
      have hnI : ((bn es n v i : Nat) : Int) < (n : Int) := by omega
      have hdN : (d : Int) < (N1 : Int) := by omega
      generalize br es n v i = q at *
      generalize hxe : bn es n v i = x at *
      generalize hye : bn es n v (i + 1) = y' at *
      generalize hW1 : wr.setCell ⟨P, x, none⟩ (.int .i64 (i : Int)) = W1 at *
      have hlv : Hid (Value.slice ao i cp = Value.slice ao i cp) := rfl
      have hsz : w2.heap.size ≤ W1.heap.size := m3
      have i3 : i ≤ 300 := by omega
      have hcn := cell_one_new W1 (.int .i64 (q : Int)) 3
      replace hcn : Hid _ := hcn
      replace hmet : Hid _ := hmet
      replace hne : Hid _ := hne
      replace hye : Hid _ := hye
      replace hne' : Hid _ := hne'
      replace h2 : Hid _ := h2
      replace hd' : Hid _ := hd'
      replace hid : Hid _ := hid
      clear hB h1 g1 g2 g3 g4 m2 m3 T1 hbr hnx hxe hlv
      go_upto_region 8 with (fail)
      generalize Value.slice ao i cp = cc at m1 hmet ⊢
      go_wp2_with (at_builtin; refine wpList_append_own _ rfl _ _ 30 rfl w2.heap.size 3 i0 (.int .i64 0) 1 8 Try.underlying30 hi hz0 hz1 hz2 rfl (by decide) _ _ _ rfl (m1.alloc _) ⟨W1.heap.size, 0, none⟩ 1 1 [.int .i64 (q : Int)] rfl rfl hcn.out (by simp [Value.oneCell']) (by unfold maxLen; omega) (by omega) (by simp; omega) ?_; intro t' w3 hown' hgrow _; have hS := hmet.out t' w3 hown' hgrow; clear hown' hgrow m1 hcn hmet td rd; obtain ⟨k0, k1⟩ := K.kept hS.below; obtain ⟨b, off, rfl, ce⟩ := hed.out _ hS.below)
      go_roundw
      case rel => exact ⟨i + 1, d', by have := hid.out; have := hd'.out; omega, by rw [hye.out], by go_num, hS, fun a b h3 h4 => hne'.out a b h3 (by omega)⟩
      case measure => have := hd'.out; simp [intOf]; omega
    · obtain ⟨ao, cp, rfl, hcp⟩ := owned_cap2 hB.own
      have cx := hB.pls.c _ hnd
      rw [h1] at cx
      obtain ⟨G, cap', e, hg, hc, hF⟩ := owned_cells (f := fun j => (br es n v j : Int)) (p := i) (by omega) (by rw [outs_len]; exact hB.own)
      injection e with e1 e2 e3
      subst e1 e3
      have hC := hF.from j (i - j) (by omega)
      have hrev := rev_at G j (i - j) (cp - j) w0.heap.size _ wr hC (by have := hB.lo; have := hB.pq; omega) (by omega) (by omega)
      have hdj : ((j : Int) == -1) = false := beq_eq_false_iff_ne.2 (by omega)
      have hnI : ((bn es n v i : Nat) : Int) < (n : Int) := by omega
      have hji : (j : Int) ≤ (i : Int) := by omega
      have hjn : j ≤ i := by omega
      have hjc : j < cp := by omega
      have hBel := hB.below
      have heq : Hid (bn es n v j = bn es n v i) := h2
      clear hB hF hC hne h1 h2
      generalize hxe : bn es n v i = x at *
      replace hxe : Hid _ := hxe
      go_wp2_with (go_at_call 32; refine hrev.mono ?_; rintro e w3 ⟨rfl, hF3, b3⟩; clear hrev)
      go_ret
      refine ⟨G, cp, i, j, rfl, hj, by omega, hcp, (by rw [heq.out]; exact hxe.out), ⟨fun t ht => ?_⟩, bthen B0 (hBel.trans b3)⟩
      have := hF3.c t ht
      rw [this]
      show some (Value.int .i64 ((br es n v (j + (i - j - 1 - t)) : Nat) : Int)) = _
      rw [show j + (i - j - 1 - t) = i - 1 - t by omega]

end Go.Proofs.Ytdbpgcaodgkcjaa
