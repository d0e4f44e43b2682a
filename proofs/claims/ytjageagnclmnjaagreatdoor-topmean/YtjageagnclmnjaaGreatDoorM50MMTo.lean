/- PROVED: what mean.longer answers. what mean.heaviest answers. what slices.Reverse does to numbers that may be written, from some place of a block on. a fraction of the call's own, in memory; what '==' tells of two. STATED: what mean.Greatest and mean.Best answer, as what follows wants it. where there is a cycle some fraction is the greatest. CONDITIONS: none beyond each theorem's own. -/
import Derived.Test.YtjageagnclmnjaaGreatDoorM47MMn
import Derived.Test.YtjageagnclmnjaaGreatDoorM49MTb
import Derived.Test.YtjageagnclmnjaaGreatDoorX35QEdg
import Derived.Test.YtjageagnclmnjaaGreatDoorM43Tel
import Derived.Maps.AppendAt
import Derived.Test.YtjageagnclmnjaaGreatDoorX39QGon
import Derived.Laws.StructEq
import Derived.Test.YtjageagnclmnjaaGreatDoorM48MMx
section
namespace Go.Proofs.YtjageagnclmnjaaGreatDoor.Q
set_option maxRecDepth 100000
open Go.RowKit
set_option linter.unusedVariables false

/-- a row of ends that holds d -/
def Er (w : World) (O n : Nat) (d : Nat → Option (Int × Nat)) : Prop := Pr w O n (fun v => wv (d v)) (fun v => lv (d v))
theorem Er.kept {w w' : World} {O n : Nat} {d : Nat → Option (Int × Nat)} (h : Er w O n d) (b : Below w.heap.size w w') : Er w' O n d := Pr.kept h b

theorem lr_no {es : List Eg} {d : Nat → Option (Int × Nat)} {i : Nat} (h : d (eg es i).f = none ∨ (wv (d (eg es i).f) + (eg es i).x ≤ wv (lr es d i (eg es i).t) ∧ ∃ z, lr es d i (eg es i).t = some z)) (v : Nat) : lr es d (i + 1) v = lr es d i v := by
  show tke d i (eg es i) v (lr es d i v) = _
  unfold tke
  by_cases e : (eg es i).t = v
  · rw [if_pos e]
    rcases h with h | ⟨h, z, hz⟩
    · rw [h]
    · rw [e] at h hz
      cases hd : d (eg es i).f with
      | none => rfl
      | some y =>
        rw [hd, hz] at h
        rw [hz]
        simp only
        rw [if_neg (by unfold wv at h; simp only at h; omega)]
  · rw [if_neg e]
theorem lr_yes {es : List Eg} {d : Nat → Option (Int × Nat)} {i : Nat} {y : Int × Nat} (hy : d (eg es i).f = some y) (h : lr es d i (eg es i).t = none ∨ wv (lr es d i (eg es i).t) < y.1 + (eg es i).x) : lr es d (i + 1) (eg es i).t = some (y.1 + (eg es i).x, i) ∧ ∀ v, v ≠ (eg es i).t → lr es d (i + 1) v = lr es d i v := by
  constructor
  · show tke d i (eg es i) _ (lr es d i _) = _
    unfold tke
    rw [if_pos rfl, hy]
    rcases h with h | h
    · rw [h]
    · cases hz : lr es d i (eg es i).t with
      | none => rfl
      | some z =>
        rw [hz] at h
        simp only
        rw [if_pos (by unfold wv at h; simp only at h; omega)]
  · intro v hv
    show tke d i (eg es i) v (lr es d i v) = _
    unfold tke
    rw [if_neg (fun e => hv e.symm)]
/-- entries are far above what stands for none -/
theorem lr_range {es : List Eg} {d : Nat → Option (Int × Nat)} {B : Int} (hd : ∀ v y, d v = some y → -B ≤ y.1 ∧ y.1 ≤ B) (hw : Wgt es) {i : Nat} (hi : i ≤ es.length) {v : Nat} {z : Int × Nat} (h : lr es d i v = some z) : -(B + 1048576) ≤ z.1 ∧ z.1 ≤ B + 1048576 := by
  obtain ⟨⟨g1, g2, y, g3, g4⟩, _⟩ := (lr_is es d i v).1 z.1 z.2 h
  have a1 := hd _ _ g3
  have a2 := hw _ (eg_mem (es := es) (i := z.2) (by omega))
  omega

set_option maxHeartbeats 3200000 in
theorem longer_any (n : Nat) (es : List Eg) (hG : Gph n es) (d : Nat → Option (Int × Nat)) (hd : ∀ v y, d v = some y → -314572800 ≤ y.1 ∧ y.1 ≤ 314572800) (a : Option Addr) (cap m : Nat) (hm : es.length = m) (b c : Nat) (w : World) (hE : GRow w a es) (hR : Er w b n d) :
    Calls Tryz.prog 100 #[.agg #[.int .i64 n, .slice a m cap], .slice (some ⟨b, 0, none⟩) n c] w fun e w' => ∃ O, e = .returned (.slice (some ⟨O, 0, none⟩) n n) ∧ w.heap.size ≤ O ∧ Er w' O n (lr es d m) ∧ O < w'.heap.size ∧ Below w.heap.size w w' := by
  have n3 := hG.n3
  have m4 := hG.m4
  rw [hm] at m4
  have B0 : Below w.heap.size w (w.alloc (.cells #[.int .i64 n, .slice a m cap] 52)) := balloc (Below.refl _ _) _
  have B1 := balloc B0 (.cells #[.int .i64 (-1152921504606846976), .int .i64 0] 175)
  have K := (Gb.new w n a m cap).alloc (.cells #[.int .i64 (-1152921504606846976), .int .i64 0] 175)
  obtain ⟨w0, hw0⟩ : ∃ w0, w.alloc (.cells #[.int .i64 n, .slice a m cap] 52) = w0 := ⟨_, rfl⟩
  rw [hw0] at B0 B1 K
  have hrep := repeatE_any w0.heap.size 0 1 n (-1152921504606846976) 0 (w0.alloc (.cells #[.int .i64 (-1152921504606846976), .int .i64 0] 175)) (by rw [World.cell?_alloc_at _ _ _ _ rfl]; rfl) (by rw [World.cell?_alloc_at _ _ _ _ rfl]; rfl) n3
  obtain ⟨w1, hw1⟩ : ∃ w1, w0.alloc (.cells #[.int .i64 (-1152921504606846976), .int .i64 0] 175) = w1 := ⟨_, rfl⟩
  rw [hw1] at B1 K hrep
  have hlm : Hid (es.length = m) := hm
  have hgh : Hid (Gph n es) := hG
  have hdd : Hid (∀ v y, d v = some y → -314572800 ≤ y.1 ∧ y.1 ≤ 314572800) := hd
  obtain ⟨g0, g1⟩ := id K
  clear hm hG hd
  go_enter Tryz.func100, Tryz.ntmps100
  go_wp2_with (go_at_call 134; refine hrep.mono ?_; rintro e w2 ⟨rfl, P0, hO, bb⟩; clear hrep; replace B1 := bthen B1 bb; replace K := K.kept bb; have hO1 : w.heap.size ≤ w1.heap.size := (by rw [← hw1, ← hw0]; simp; omega); clear bb g0 g1; obtain ⟨g0, g1⟩ := id K; generalize w1.heap.size = O at *)
  have hst : Er w2 O n (lr es d 0) := P0
  clear g0 g1 P0
  go_loopw [18] (fun i wr => ∃ j : Nat, j ≤ m ∧ i = .int .i64 j ∧ Er wr O n (lr es d j) ∧ O < wr.heap.size ∧ Below w.heap.size w wr) (fun i _ => m - (intOf i).toNat)
  case atStart => exact ⟨0, Nat.zero_le _, rfl, hst, hO, B1⟩
  case round =>
    obtain ⟨j, hj, rfl, hC, hOw, hB⟩ := hrel
    clear hst hO
    by_cases hlt : j < m
    · have q1 := hlm.out
      have G := hgh.out
      have hi := G.inn _ (eg_mem (es := es) (i := j) (by omega))
      have hx := G.wgt _ (eg_mem (es := es) (i := j) (by omega))
      obtain ⟨be, off, rfl, e1⟩ := (hE.kept hB).at (by omega)
      obtain ⟨cx, cy, cz⟩ := e1 j (by omega)
      have hjI : (j : Int) < m := by omega
      have rt := fun z => lr_range (B := 314572800) hdd.out G.wgt (i := j) (by omega) (v := (eg es j).t) (z := z)
      have lno := fun h => lr_no (es := es) (d := d) (i := j) h
      have lyes := fun y h1 h2 => lr_yes (es := es) (d := d) (i := j) (y := y) h1 h2
      obtain ⟨⟨f, t, x⟩, he⟩ : ∃ e, eg es j = e := ⟨_, rfl⟩
      rw [he] at cx cy cz hi hx rt lno lyes
      simp only at cx cy cz hi hx rt lno lyes
      clear e1 q1 G he
      have hC1 : Pr (wr.alloc (.cells #[.int .i64 (f : Int), .int .i64 (t : Int), .int .i64 x] 81)) O n _ _ := Pr.alloc hC (.cells #[.int .i64 (f : Int), .int .i64 (t : Int), .int .i64 x] 81)
      have hB2 : Below w.heap.size w (wr.alloc (.cells #[.int .i64 (f : Int), .int .i64 (t : Int), .int .i64 x] 81)) := balloc hB _
      have x0 : (wr.alloc (.cells #[.int .i64 (f : Int), .int .i64 (t : Int), .int .i64 x] 81)).cell? ⟨wr.heap.size, 0, none⟩ = some (.int .i64 f) := by rw [World.cell?_alloc_at _ _ _ _ rfl]; rfl
      have x1 : (wr.alloc (.cells #[.int .i64 (f : Int), .int .i64 (t : Int), .int .i64 x] 81)).cell? ⟨wr.heap.size, 1, none⟩ = some (.int .i64 t) := by rw [World.cell?_alloc_at _ _ _ _ rfl]; rfl
      have x2 : (wr.alloc (.cells #[.int .i64 (f : Int), .int .i64 (t : Int), .int .i64 x] 81)).cell? ⟨wr.heap.size, 2, none⟩ = some (.int .i64 x) := by rw [World.cell?_alloc_at _ _ _ _ rfl]; rfl
      have hEO : wr.heap.size ≠ O := by omega
      have hOx : O < (wr.alloc (.cells #[.int .i64 (f : Int), .int .i64 (t : Int), .int .i64 x] 81)).heap.size := by simp; omega
      obtain ⟨W1, hW1⟩ : ∃ W1, wr.alloc (.cells #[.int .i64 (f : Int), .int .i64 (t : Int), .int .i64 x] 81) = W1 := ⟨_, rfl⟩
      obtain ⟨E, hEE⟩ : ∃ E, wr.heap.size = E := ⟨_, rfl⟩
      rw [hW1] at hC1 hB2 x0 x1 x2 hOx
      rw [hEE] at x0 x1 x2 hEO
      have cf := ((Er.kept hR hB2).c f hi.1).1
      obtain ⟨⟨ct, ct'⟩, ⟨ft, ft'⟩⟩ := And.intro (hC1.c t hi.2) (hC1.fz t hi.2)
      have fI : (f : Int) < (n : Int) := by omega
      have tI : (t : Int) < (n : Int) := by omega
      have gk := K.kept (show Below w2.heap.size w2 w2 from Below.refl _ _)
      clear hC hB hE gk
      have hW2 : W1.heap.size = W1.heap.size := rfl
      cases hdf : d f with
      | none =>
        have hn := lno (.inl hdf)
        have hN : Er W1 O n (lr es d (j + 1)) := Pr.ext hC1 fun v _ => ⟨congrArg wv (hn v), congrArg lv (hn v)⟩
        rw [hdf] at cf
        simp only [wv] at cf
        clear lno lyes hn hC1 ct ct' ft ft' rt hdf
        go_wp2
        go_roundw
        case rel => exact ⟨j + 1, by omega, by go_num, hN, hOx, hB2⟩
        case measure => simp [intOf]; omega
      | some y =>
        have ry := hdd.out f y hdf
        rw [hdf] at cf
        simp only [wv] at cf
        have dn : (y.1 == -1152921504606846976) = false := beq_eq_false_iff_ne.2 (by omega)
        obtain ⟨W, hW⟩ : ∃ W, y.1 + x = W := ⟨_, rfl⟩
        have hWv : wrap64 (y.1 + x) = W := by rw [← hW]; exact IntWalk.wrap64_in _ (by omega)
        have hrW : -314572800 - 1048576 ≤ W ∧ W ≤ 314572800 + 1048576 := by omega
        by_cases hr : wv (lr es d j t) < W
        · obtain ⟨l1, l2⟩ := lyes y hdf (.inr (by rw [hW]; exact hr))
          rw [hW] at l1
          have hN : Er ((W1.setCell ⟨O, t * 2, none⟩ (.int .i64 W)).setCell ⟨O, t * 2 + 1, none⟩ (.int .i64 (j : Int))) O n (lr es d (j + 1)) := Pr.put hC1 hi.2 (by simp only [l1]; rfl) (by simp only [l1]; rfl) (fun v _ hv => by simp only [l2 v hv]) (fun v _ hv => by simp only [l2 v hv])
          have hBn : Below w.heap.size w ((W1.setCell ⟨O, t * 2, none⟩ (.int .i64 W)).setCell ⟨O, t * 2 + 1, none⟩ (.int .i64 (j : Int))) := Below.setCell (Below.setCell hB2 hO1 _) hO1 _
          have dd : decide (wv (lr es d j t) < W) = true := decide_eq_true hr
          generalize wv (lr es d j t) = V at *
          generalize lv (lr es d j t) = V2 at *
          replace hN : Hid _ := hN
          replace hBn : Hid _ := hBn
          clear lno lyes l1 l2 hC1 rt hdf hW ry
          generalize y.1 = yy at *
          go_wp2
          go_roundw
          case rel => exact ⟨j + 1, by omega, by go_num, hN.out, by simpa using hOx, hBn.out⟩
          case measure => simp [intOf]; omega
        · have hsm : ∃ z, lr es d j t = some z := by
            cases hz : lr es d j t with
            | none => rw [hz] at hr; simp only [wv] at hr; omega
            | some z => exact ⟨z, rfl⟩
          have hn := lno (.inr ⟨by rw [hdf]; simp only [wv]; simp only [wv] at hr; rw [hW]; omega, hsm⟩)
          have hN : Er W1 O n (lr es d (j + 1)) := Pr.ext hC1 fun v _ => ⟨congrArg wv (hn v), congrArg lv (hn v)⟩
          have dd : decide (wv (lr es d j t) < W) = false := decide_eq_false hr
          generalize wv (lr es d j t) = V at *
          replace hN : Hid _ := hN
          clear lno lyes hn hsm hC1 rt hdf hW ry ct' ft ft'
          generalize y.1 = yy at *
          go_wp2
          go_roundw
          case rel => exact ⟨j + 1, by omega, by go_num, hN.out, hOx, hB2⟩
          case measure => simp [intOf]; omega
    · obtain rfl : m = j := by omega
      go_wp2
      go_ret
      exact ⟨O, rfl, hO1, hC, hOw, hB⟩

end Go.Proofs.YtjageagnclmnjaaGreatDoor.Q

end

section
namespace Go.Proofs.YtjageagnclmnjaaGreatDoor.Q
set_option maxRecDepth 100000
open Go.RowKit
set_option linter.unusedVariables false

theorem Pr.block {w w2 : World} {O n : Nat} {F G : Nat → Int} (h : Pr w O n F G) (e : w2.heap[O]? = w.heap[O]?) : Pr w2 O n F G :=
  ⟨fun v hv => ⟨(World.cell?_of_block (a := ⟨O, v * 2, none⟩) e).trans (h.c v hv).1, (World.cell?_of_block (a := ⟨O, v * 2 + 1, none⟩) e).trans (h.c v hv).2⟩,
   fun v hv => ⟨(World.frozen?_of_block (a := ⟨O, v * 2, none⟩) e).trans (h.fz v hv).1, (World.frozen?_of_block (a := ⟨O, v * 2 + 1, none⟩) e).trans (h.fz v hv).2⟩⟩

/-- the rows' own slices -/
def rsl (O : Nat → Nat) (n k : Nat) : List Value := (List.range k).map fun i => .slice (some ⟨O i, 0, none⟩) n n
def adO (O : Nat → Nat) (k X : Nat) : Nat → Nat := fun i => if i = k then X else O i
theorem adO_at (O : Nat → Nat) (k X : Nat) : adO O k X k = X := if_pos rfl
theorem adO_lt (O : Nat → Nat) (k X : Nat) {i : Nat} (h : i < k) : adO O k X i = O i := if_neg (by omega)
theorem rsl_succ (O : Nat → Nat) (n k X : Nat) : rsl (adO O k X) n (k + 1) = rsl O n k ++ [.slice (some ⟨X, 0, none⟩) n n] := by
  unfold rsl
  rw [List.range_succ, List.map_append]
  simp only [List.map_cons, List.map_nil, adO_at]
  congr 1
  refine List.map_congr_left fun i hi => ?_
  rw [adO_lt O k X (List.mem_range.1 hi)]

/-- k rows, gathered in a row of the call's own -/
structure Rws (w0 : World) (es : List Eg) (n k : Nat) (O : Nat → Nat) (t : Value) (wr : World) : Prop where
  own : wr.ownsRow w0.heap.size 170 1 t k (rsl O n k)
  row : ∀ i, i < k → Er wr (O i) n (tb es i)
  ap : ∀ i, i < k → O i < wr.heap.size ∧ t.ownBlock ≠ some (O i)
  below : Below w0.heap.size w0 wr
theorem own_any {wr w1 : World} {base e s : Nat} {t : Value} {n : Nat} {xs : List Value} (h : wr.ownsRow base e s t n xs) (b : Below wr.heap.size wr w1) : w1.ownsRow base e s t n xs := by
  obtain ⟨hl, h2⟩ := h
  refine ⟨hl, ?_⟩
  rcases h2 with e | ⟨g, cap, cur, e, hg, hh, r⟩
  · exact .inl e
  · refine .inr ⟨g, cap, cur, e, hg, ?_, r⟩
    have : g < wr.heap.size := lt_of_block hh
    rw [b.block g this]; exact hh
theorem Rws.kept {w0 : World} {es : List Eg} {n k : Nat} {O : Nat → Nat} {t : Value} {wr w' : World} (h : Rws w0 es n k O t wr) (b : Below wr.heap.size wr w') : Rws w0 es n k O t w' :=
  ⟨own_any h.own b, fun i hi => (h.row i hi).kept b, fun i hi => ⟨Nat.lt_of_lt_of_le (h.ap i hi).1 b.size, (h.ap i hi).2⟩, h.below.trans (b.mono h.below.size)⟩
/-- one row more -/
theorem Rws.next {w0 : World} {es : List Eg} {n k : Nat} {O : Nat → Nat} {t t' : Value} {w1 w2 : World} {X : Nat} (h : Rws w0 es n k O t w1) (hX : X < w1.heap.size) (hE : Er w1 X n (tb es k)) (hXt : t.ownBlock ≠ some X) {o : Obj}
    (ho : w2.ownsRow w0.heap.size 170 1 t' (k + 1) (rsl O n k ++ [.slice (some ⟨X, 0, none⟩) n n])) (hg : (w1.alloc o).grownBy w2 t.ownBlock) (hat : t'.ownBlock = t.ownBlock ∨ t'.ownBlock = some (w1.alloc o).heap.size) : Rws w0 es n (k + 1) (adO O k X) t' w2 := by
  have hsz : (w1.alloc o).heap.size = w1.heap.size + 1 := by simp
  have blk : ∀ B, B < w1.heap.size → t.ownBlock ≠ some B → w2.heap[B]? = w1.heap[B]? := fun B hB hn => by
    rw [hg.block B (by omega) (fun q => hn q.symm)]
    exact (balloc (Below.refl w1.heap.size w1) o).block B hB
  have each : ∀ i, i < k + 1 → (adO O k X i < w1.heap.size ∧ t.ownBlock ≠ some (adO O k X i)) ∧ Er w1 (adO O k X i) n (tb es i) := fun i hi => by
    rcases Nat.lt_succ_iff_lt_or_eq.1 hi with hi | rfl
    · rw [adO_lt O k X hi]; exact ⟨h.ap i hi, h.row i hi⟩
    · rw [adO_at]; exact ⟨⟨hX, hXt⟩, hE⟩
  refine ⟨by rw [rsl_succ]; exact ho, fun i hi => ?_, fun i hi => ?_, ?_⟩
  · obtain ⟨⟨a1, a2⟩, a3⟩ := each i hi
    exact Pr.block a3 (blk _ a1 a2)
  · obtain ⟨⟨a1, a2⟩, a3⟩ := each i hi
    refine ⟨?_, ?_⟩
    · have := hg.size; omega
    · rcases hat with q | q
      · rw [q]; exact a2
      · rw [q]; intro q; injection q with q; omega
  · have b1 : Below w0.heap.size w0 (w1.alloc o) := h.below.alloc h.below.size o
    exact b1.grown hg b1.size (fun q hq => (h.own.lt q hq).1)

/-- all rows, to be read -/
structure Tbl (w : World) (g c n : Nat) (O : Nat → Nat) (es : List Eg) : Prop where
  cap : n + 1 ≤ c
  top : ∀ i, i ≤ n → w.cell? ⟨g, i, none⟩ = some (.slice (some ⟨O i, 0, none⟩) n n)
  row : ∀ i, i ≤ n → Er w (O i) n (tb es i)
theorem Tbl.kept {w w' : World} {g c n : Nat} {O : Nat → Nat} {es : List Eg} (h : Tbl w g c n O es) (b : Below w.heap.size w w') : Tbl w' g c n O es :=
  ⟨h.cap, fun i hi => (b.cell (p := ⟨g, i, none⟩) (block_lt (h.top i hi))).trans (h.top i hi), fun i hi => (h.row i hi).kept b⟩
theorem Tbl.alloc {w : World} {g c n : Nat} {O : Nat → Nat} {es : List Eg} (h : Tbl w g c n O es) (o : Obj) : Tbl (w.alloc o) g c n O es := h.kept (balloc (Below.refl _ _) o)
theorem Tbl.drewN {w : World} {g c n : Nat} {O : Nat → Nat} {es : List Eg} (h : Tbl w g c n O es) (q : Nat) : Tbl (w.drewN q) g c n O es := h.kept (below_drewN (Below.refl _ _) q)
theorem Rws.tbl {w0 : World} {es : List Eg} {n : Nat} {O : Nat → Nat} {t : Value} {wr : World} (h : Rws w0 es n (n + 1) O t wr) : ∃ g c, t = .slice (some ⟨g, 0, none⟩) (n + 1) c ∧ Tbl wr g c n O es := by
  obtain ⟨hl, ⟨_, e2⟩ | ⟨g, cap, cur, e, hg, hh, hc, _, _, htk⟩⟩ := h.own
  · omega
  · refine ⟨g, cap, e, hc, fun i hi => ?_, fun i hi => h.row i (by omega)⟩
    have : (rsl O n (n + 1))[i]? = some (.slice (some ⟨O i, 0, none⟩) n n) := by simp [rsl, show i < n + 1 by omega]
    rw [← htk, List.getElem?_take_of_lt (by omega)] at this
    simp [World.cell?, hh]
    simpa using this

theorem Tryz.info55 : (Tryz.prog.info? 170).map (fun i => (i.zero, i.size, i.bytes)) = some (some (.slice none 0 0), 1, 24) := by kernel_rfl

set_option maxHeartbeats 3200000 in
theorem heaviest_any (n : Nat) (es : List Eg) (hG : Gph n es) (a : Option Addr) (cap m : Nat) (hm : es.length = m) (w : World) (hE : GRow w a es) :
    Calls Tryz.prog 62 #[.agg #[.int .i64 n, .slice a m cap]] w fun e w' => ∃ g c O, e = .returned (.slice (some ⟨g, 0, none⟩) (n + 1 : Nat) c) ∧ Tbl w' g c n O es ∧ Below w.heap.size w w' := by
  obtain ⟨i0, hi, hz0, hz1, hz2⟩ := info_parts Tryz.info55
  have n3 := hG.n3
  have hmk := made_ends n n3
  have B0 : Below w.heap.size w (w.alloc (.cells #[.int .i64 n, .slice a m cap] 52)) := balloc (Below.refl _ _) _
  have K := Gb.new w n a m cap
  have hE0 := hE.kept B0
  obtain ⟨w0, hw0⟩ : ∃ w0, w.alloc (.cells #[.int .i64 n, .slice a m cap] 52) = w0 := ⟨_, rfl⟩
  rw [hw0] at B0 K hE0
  have hlon : Hid (∀ (k b : Nat) (v : World), k ≤ 300 → GRow v a es → Er v b n (tb es k) → Calls Tryz.prog 100 #[.agg #[.int .i64 n, .slice a m cap], .slice (some ⟨b, 0, none⟩) n n] v fun e w' => ∃ O, e = .returned (.slice (some ⟨O, 0, none⟩) n n) ∧ v.heap.size ≤ O ∧ Er w' O n (tb es (k + 1)) ∧ O < w'.heap.size ∧ Below v.heap.size v w') := fun k b v hk h1 h2 => by
    refine (longer_any n es hG (tb es k) (fun u y h => by have := tb_range hG.wgt h; omega) a cap m hm b n v h1 h2).mono ?_
    rintro e w' ⟨O, q1, q2, q3, q4, q5⟩
    refine ⟨O, q1, q2, ?_, q4, q5⟩
    rw [← hm] at q3; exact q3
  have hst : Rws w0 es n 1 (fun _ => w0.heap.size) (.slice (some ⟨w0.heap.size + 1, 0, none⟩) 1 1) ((w0.alloc (.cells (madeCells #[.int .i64 0, .int .i64 0] (n * 2)) 175)).alloc (.cells #[.slice (some ⟨w0.heap.size, 0, none⟩) n n] 170)) := by
    have s1 : (w0.alloc (.cells (madeCells #[.int .i64 0, .int .i64 0] (n * 2)) 175)).heap.size = w0.heap.size + 1 := by simp
    refine ⟨?_, fun i hi => ?_, fun i hi => ⟨by simp; omega, by simp [Value.ownBlock]⟩, balloc (balloc (Below.refl _ _) _) _⟩
    · have := World.ownsRow_lit (base := w0.heap.size) (e := 170) (size := 1) (w0.alloc (.cells (madeCells #[.int .i64 0, .int .i64 0] (n * 2)) 175)) #[.slice (some ⟨w0.heap.size, 0, none⟩) n n] 1 (by omega) (by unfold maxLen; omega) rfl
      rw [s1] at this
      exact this
    · obtain rfl : i = 0 := by omega
      exact Pr.alloc (Pr.new w0 n) _
  clear hm hG hE
  have K1 := (K.alloc (.cells (madeCells #[.int .i64 0, .int .i64 0] (n * 2)) 175)).alloc (.cells #[.slice (some ⟨w0.heap.size, 0, none⟩) n n] 170)
  obtain ⟨W1, hW1⟩ : ∃ W1, (w0.alloc (.cells (madeCells #[.int .i64 0, .int .i64 0] (n * 2)) 175)).alloc (.cells #[.slice (some ⟨w0.heap.size, 0, none⟩) n n] 170) = W1 := ⟨_, rfl⟩
  rw [hW1] at hst K1
  obtain ⟨g0, g1⟩ := id K
  obtain ⟨k0, k1⟩ := id K1
  go_enter Tryz.func62, Tryz.ntmps62
  go_wp2
  clear g0 g1 k0 k1
  go_loopw [3, 4, 12] (fun r t i wr => ∃ k : Nat, k ≤ n ∧ i = .int .i64 k ∧ ∃ O : Nat → Nat, r = .slice (some ⟨O k, 0, none⟩) n n ∧ Rws w0 es n (k + 1) O t wr) (fun _ _ i _ => n - (intOf i).toNat)
  case atStart => exact ⟨0, Nat.zero_le _, rfl, _, rfl, hst⟩
  case round =>
    obtain ⟨k, hk, rfl, O, rfl, hR⟩ := hrel
    clear hst hW1 K1 hmk
    by_cases hlt : k < n
    · have hki : (k : Int) < (n : Int) := by omega
      have E1 := hE0.kept hR.below
      have K1 := K.kept hR.below
      have hrow := hR.row k (by omega)
      generalize O k = Ok at hrow ⊢
      obtain ⟨k0, k1⟩ := id K1
      have hown := hR.own
      go_wp2_with (first
        | (go_at_call 100; refine (hlon.out k Ok _ (by omega) E1 hrow).mono ?_; rintro e v1 ⟨X, rfl, hX0, hX1, hX2, bb⟩; have hXt : u4.ownBlock ≠ some X := (fun q => by have := (hR.own.lt X q).2; omega); replace hR := hR.kept bb; clear k0 k1 hown hrow; have hown := hR.own)
        | (at_builtin; refine wpList_append_own_at _ rfl _ _ 140 rfl w0.heap.size 170 i0 (.slice none 0 0) 1 24 Tryz.underlying140 hi hz0 hz1 hz2 rfl (by decide) _ _ _ rfl (own_any hown (balloc (Below.refl _ _) _)) ⟨v1.heap.size, 0, none⟩ 1 1 [.slice (some ⟨X, 0, none⟩) n n] rfl rfl (cell_one_new v1 _ 170) (by simp [Value.oneCell']) (by unfold maxLen; omega) (by omega) (by have := hR.below.size; simp; omega) ?_; intro t' w2 hown' hgrow _ hat; have hS := hR.next hX2 hX1 hXt hown' hgrow hat; clear hown' hgrow hown hat))
      go_wp2
      go_roundw
      case rel => exact ⟨k + 1, by omega, by go_num, _, by rw [adO_at], hS⟩
      case measure => simp [intOf]; omega
    · obtain rfl : k = n := by omega
      obtain ⟨g, c, rfl, hT⟩ := hR.tbl
      have hB := hR.below
      clear hR
      go_wp2
      go_ret
      exact ⟨g, c, O, rfl, hT, bthen B0 hB⟩

end Go.Proofs.YtjageagnclmnjaaGreatDoor.Q

end

section
namespace Go.Proofs.YtjageagnclmnjaaGreatDoor.Q
set_option maxRecDepth 100000
open Go.RowKit

/-- n numbers that may be written, in block O from o on -/
structure Cto (w : World) (O o n : Nat) (V : Nat → Int) : Prop where
  c : ∀ j, j < n → w.cell? ⟨O, o + j, none⟩ = some (.int .i64 (V j))
  fz : ∀ j, j < n → w.frozen? ⟨O, o + j, none⟩ = false
theorem Cto.put {w : World} {O o n : Nat} {V V' : Nat → Int} (h : Cto w O o n V) {k : Nat} (hk : k < n) {v : Int} (hv : V' k = v) (hj : ∀ j, j < n → j ≠ k → V' j = V j) : Cto (w.setCell ⟨O, o + k, none⟩ (.int .i64 v)) O o n V' := by
  refine ⟨fun j hjn => ?_, fun j hjn => ?_⟩
  · by_cases e : j = k
    · subst e; subst hv
      exact World.cell?_setCell_same _ _ _ (h.c j hk)
    · rw [World.cell?_setCell_other _ _ _ _ (fun q => e (by injection q with _ q _; omega)), hj j hjn e]
      exact h.c j hjn
  · rw [World.frozen?_setCell]; exact h.fz j hjn
theorem Cto.ext {w : World} {O o n : Nat} {V V' : Nat → Int} (h : Cto w O o n V) (e : ∀ j, j < n → V' j = V j) : Cto w O o n V' := ⟨fun j hj => by rw [e j hj]; exact h.c j hj, h.fz⟩
theorem Cto.drew {w : World} {O o n : Nat} {V : Nat → Int} (h : Cto w O o n V) : Cto w.drew O o n V := ⟨h.c, h.fz⟩
theorem Cells.from {w : World} {O n : Nat} {V : Nat → Int} (h : Cells w O n V) (o p : Nat) (hp : o + p ≤ n) : Cto w O o p (fun j => V (o + j)) := ⟨fun j hj => h.c (o + j) (by omega), fun j hj => h.fz (o + j) (by omega)⟩
/-- two numbers change places -/
theorem Cto.swap {w : World} {O o p : Nat} {V : Nat → Int} {k q : Nat} (h : Cto w O o p (rv V p k)) (hq : k + q + 1 = p) (hlt : k < q) : Cto ((w.setCell ⟨O, o + k, none⟩ (.int .i64 (V q))).setCell ⟨O, o + q, none⟩ (.int .i64 (V k))) O o p (rv V p (k + 1)) := by
  have h1 := h.put (V' := fun j => if j = k then V q else rv V p k j) (k := k) (by omega) (v := V q) (by simp) (fun j _ hj => by simp [hj])
  refine h1.put (k := q) (by omega) ?_ fun j hj hjq => ?_
  · unfold rv; rw [if_pos (by omega), show p - 1 - q = k by omega]
  · show _ = (if j = k then V q else rv V p k j)
    by_cases e : j = k
    · subst e; rw [if_pos rfl]; unfold rv; rw [if_pos (by omega), show p - 1 - j = q by omega]
    · rw [if_neg e]; exact rv_other V p k j e (by omega)

set_option maxHeartbeats 1600000 in
theorem rev_at (O o p cap B : Nat) (V : Nat → Int) (w : World) (h : Cto w O o p V) (hB : B ≤ O) (hp : 1 ≤ p) (hp3 : p ≤ 300) :
    Calls Tryz.prog 86 #[.slice (some ⟨O, o, none⟩) p cap] w fun e w' => e = .returned (.tuple #[]) ∧ Cto w' O o p (fun j => V (p - 1 - j)) ∧ Below B w w' := by
  obtain ⟨q0, hq0⟩ : ∃ q0, p = q0 + 1 := ⟨p - 1, by omega⟩
  have hqI : (p : Int) - 1 = (q0 : Int) := by omega
  have hst : Cto w O o p (rv V p 0) := h.ext fun j hj => rv_zero V p j hj
  replace hq0 : Hid _ := hq0
  go_enter Tryz.func86, Tryz.ntmps86
  go_wp2
  go_loopw [2, 3] (fun i j wr => ∃ k q : Nat, k + q + 1 = p ∧ 2 * k ≤ p ∧ i = .int .i64 k ∧ j = .int .i64 q ∧ Cto wr O o p (rv V p k) ∧ Below B w wr) (fun i _ _ => p - (intOf i).toNat)
  case atStart => exact ⟨0, q0, by have := hq0.out; omega, by omega, rfl, rfl, hst, Below.refl _ _⟩
  case round =>
    obtain ⟨k, q, hkq, hk2, rfl, rfl, hC, hBl⟩ := hrel
    clear hst hqI
    by_cases hlt : k < q
    · have d : decide ((k : Int) < (q : Int)) = true := decide_eq_true (by omega)
      have ck := hC.c k (by omega)
      have cq := hC.c q (by omega)
      have fk := hC.fz k (by omega)
      have fq := hC.fz q (by omega)
      rw [rv_mid V p k k (by omega) (by omega)] at ck
      rw [rv_mid V p k q (by omega) (by omega)] at cq
      have i1 : (k : Int) < (p : Int) := by omega
      have i2 : (q : Int) < (p : Int) := by omega
      obtain ⟨q1, hq1⟩ : ∃ q1, q = q1 + 1 := ⟨q - 1, by omega⟩
      have hS := hC.drew.swap hkq hlt
      have hBs : Below B w ((wr.drew.setCell ⟨O, o + k, none⟩ (.int .i64 (V q))).setCell ⟨O, o + q, none⟩ (.int .i64 (V k))) := Below.setCell (Below.setCell hBl.drew (by exact hB) _) (by exact hB) _
      have hqJ : (q : Int) - 1 = (q1 : Int) := by omega
      generalize V k = x at *
      generalize V q = y at *
      replace hq1 : Hid _ := hq1
      replace hkq : Hid _ := hkq
      replace hS : Hid _ := hS
      have hlt2 : Hid (k < q) := hlt
      clear hC hlt
      go_wp2
      go_region
      all_goals
        go_wp2
        go_roundw
        case rel => exact ⟨k + 1, q1, by have := hq1.out; have := hkq.out; omega, by have := hq1.out; have := hkq.out; have := hlt2.out; omega, by go_num, by first | rfl | go_num, hS.out, hBs⟩
        case measure => simp [intOf]; omega
    · have d : decide ((k : Int) < (q : Int)) = false := decide_eq_false (by omega)
      have hF : Cto wr O o p (fun j => V (p - 1 - j)) := hC.ext fun j hj => (rv_all V p k j (by omega) hj).symm
      clear hC
      go_wp2
      go_end0
      exact ⟨rfl, hF, hBl⟩

end Go.Proofs.YtjageagnclmnjaaGreatDoor.Q

end

section
namespace Go.Proofs.YtjageagnclmnjaaGreatDoor.Q
set_option maxRecDepth 100000
open Go.RowKit

/-- a fraction of the call's own, in block C -/
structure Fr (w : World) (C : Nat) (a b : Int) : Prop where
  c0 : w.cell? ⟨C, 0, none⟩ = some (.int .i64 a)
  c1 : w.cell? ⟨C, 1, none⟩ = some (.int .i64 b)
  f0 : w.frozen? ⟨C, 0, none⟩ = false
  f1 : w.frozen? ⟨C, 1, none⟩ = false
theorem Fr.new (w : World) (C : Nat) (hC : C = w.heap.size) (a b : Int) : Fr (w.alloc (.cells #[.int .i64 a, .int .i64 b] 56)) C a b := by
  subst hC
  constructor
  all_goals first
    | (rw [World.cell?_alloc_at _ _ _ _ rfl]; rfl)
    | (rw [World.frozen?_alloc_at _ _ _ _ rfl])
theorem Fr.kept {w w' : World} {C : Nat} {a b : Int} (h : Fr w C a b) (g : Below w.heap.size w w') : Fr w' C a b := by
  have hl : C < w.heap.size := block_lt h.c0
  have e : ∀ o, w'.cell? ⟨C, o, none⟩ = w.cell? ⟨C, o, none⟩ := fun o => g.cell (p := ⟨C, o, none⟩) hl
  have f : ∀ o, w'.frozen? ⟨C, o, none⟩ = w.frozen? ⟨C, o, none⟩ := fun o => g.frozen (p := ⟨C, o, none⟩) hl
  exact ⟨(e 0).trans h.c0, (e 1).trans h.c1, (f 0).trans h.f0, (f 1).trans h.f1⟩
theorem Fr.alloc {w : World} {C : Nat} {a b : Int} (h : Fr w C a b) (o : Obj) : Fr (w.alloc o) C a b := h.kept (balloc (Below.refl _ _) o)
theorem Fr.drewN {w : World} {C : Nat} {a b : Int} (h : Fr w C a b) (m : Nat) : Fr (w.drewN m) C a b := h.kept (below_drewN (Below.refl _ _) m)
theorem Fr.put {w : World} {C : Nat} {a b : Int} (h : Fr w C a b) (x y : Int) : Fr ((w.setCell ⟨C, 0, none⟩ (.int .i64 x)).setCell ⟨C, 1, none⟩ (.int .i64 y)) C x y :=
  have c1 : (w.setCell ⟨C, 0, none⟩ (.int .i64 x)).cell? ⟨C, 1, none⟩ = some (.int .i64 b) := (World.cell?_setCell_other _ _ _ _ (by simp)).trans h.c1
  ⟨(World.cell?_setCell_other _ _ _ _ (by simp)).trans (World.cell?_setCell_same _ _ _ h.c0), World.cell?_setCell_same _ _ _ c1,
    (World.frozen?_setCell _ _ _ _).trans ((World.frozen?_setCell _ _ _ _).trans h.f0), (World.frozen?_setCell _ _ _ _).trans ((World.frozen?_setCell _ _ _ _).trans h.f1)⟩

end Go.Proofs.YtjageagnclmnjaaGreatDoor.Q

end

section
namespace Go.Proofs.YtjageagnclmnjaaGreatDoor.Q
set_option maxRecDepth 100000
open Go.RowKit
set_option linter.unusedVariables false

/-- mean.Greatest, where there is a cycle | where there is none | of a wrong graph -/
def GSome : Prop := ∀ (n : Nat) (es : List Eg), Gph n es → ∀ (a : Option Addr) (cap m : Nat), es.length = m → ∀ (p : Int) (q : Nat), 1 ≤ q → q ≤ n → (-1048576 * (q : Int) ≤ p ∧ p ≤ 1048576 * (q : Int)) → Lam es p q → ∀ v, GRow v a es →
  Calls Tryz.prog 18 #[.agg #[.int .i64 n, .slice a m cap]] v fun e w' => ∃ P Q : Int, e = .returned (.tuple #[.agg #[.int .i64 P, .int .i64 Q], .int .i64 0]) ∧ Low P Q ∧ P * (q : Int) = p * Q ∧ Below v.heap.size v w'
def GNone : Prop := ∀ (n : Nat) (es : List Eg), Gph n es → ∀ (a : Option Addr) (cap m : Nat), es.length = m → (¬ ∃ l, Cyc es l) → ∀ v, GRow v a es →
  Calls Tryz.prog 18 #[.agg #[.int .i64 n, .slice a m cap]] v fun e w' => e = .returned (.tuple #[.agg #[.int .i64 0, .int .i64 0], .int .i64 3]) ∧ Below v.heap.size v w'
/-- the numbers of a cycle that weighs p through q by the edge -/
structure Rbe (n : Nat) (es : List Eg) (p : Int) (q : Nat) (R : Nat → Nat) (k : Nat) : Prop where
  k1 : 1 ≤ k
  kn : k ≤ n
  wok : Wok es R k
  ends : (eg es (R 0)).f = (eg es (R (k - 1))).t
  just : (q : Int) * nsum es R k = p * (k : Int)
/-- k numbers, from place o of block g on -/
structure Cat (w : World) (g o k : Nat) (V : Nat → Int) : Prop where
  c : ∀ j, j < k → w.cell? ⟨g, o + j, none⟩ = some (.int .i64 (V j))
theorem Cat.kept {w w' : World} {g o k : Nat} {V : Nat → Int} (h : Cat w g o k V) (b : Below w.heap.size w w') : Cat w' g o k V := ⟨fun j hj => (b.cell (p := ⟨g, o + j, none⟩) (block_lt (h.c j hj))).trans (h.c j hj)⟩
theorem Cat.row {w : World} {g o k : Nat} {V : Nat → Int} (h : Cat w g o k V) : Row w (some ⟨g, o, none⟩) (outs V k) := .inr ⟨g, o, rfl, fun j hj => by
  rw [outs_len] at hj
  rw [outs_getD _ _ _ hj]; exact h.c j hj⟩
/-- mean.Best, likewise -/
def BSome : Prop := ∀ (n : Nat) (es : List Eg), Gph n es → ∀ (a : Option Addr) (cap m : Nat), es.length = m → ∀ (p : Int) (q : Nat), 1 ≤ q → q ≤ n → (-1048576 * (q : Int) ≤ p ∧ p ≤ 1048576 * (q : Int)) → Lam es p q → ∀ v, GRow v a es →
  Calls Tryz.prog 39 #[.agg #[.int .i64 n, .slice a m cap]] v fun e w' => ∃ g o k c R, e = .returned (.tuple #[.slice (some ⟨g, o, none⟩) k c, .int .i64 0]) ∧ Rbe n es p q R k ∧ k ≤ c ∧ Cat w' g o k (fun j => (R j : Int)) ∧ Below v.heap.size v w'
def BNone : Prop := ∀ (n : Nat) (es : List Eg), Gph n es → ∀ (a : Option Addr) (cap m : Nat), es.length = m → (¬ ∃ l, Cyc es l) → ∀ v, GRow v a es →
  Calls Tryz.prog 39 #[.agg #[.int .i64 n, .slice a m cap]] v fun e w' => e = .returned (.tuple #[.slice none 0 0, .int .i64 3]) ∧ Below v.heap.size v w'
end Go.Proofs.YtjageagnclmnjaaGreatDoor.Q

end
