/- PROVED: what mean.longer answers. CONDITIONS: none beyond each theorem's own. -/
import Derived.Test.YtdbpgcaodgkcjaaEn
import Derived.Test.YtdbpgcaodgkcjaaTb
import Derived.Test.YtdbpgcaodgkcjaaEdg
namespace Go.Proofs.Ytdbpgcaodgkcjaa
open Go.RowKit
set_option linter.unusedVariables false

/-- a row of ends that holds d -/
def Er (w : World) (O n : Nat) (d : Nat → Option (Int × Nat)) : Prop := Pr w O n (fun v => wv (d v)) (fun v => lv (d v))
theorem Er.kept {w w' : World} {O n : Nat} {d : Nat → Option (Int × Nat)} (h : Er w O n d) (b : Below w.heap.size w w') : Er w' O n d := Pr.kept h b

theorem lr_no {es : List Eg} {d : Nat → Option (Int × Nat)} {i : Nat} (h : d (eg es i).f = none ∨ (wv (d (eg es i).f) + (eg es i).x ≤ wv (lr es d i (eg es i).t) ∧ ∃ z, lr es d i (eg es i).t = some z)) (v : Nat) : lr es d (i + 1) v = lr es d i v := by
  show tke d i (eg es i) v (lr es d i v) = _
  unfold tke
  by_cases e : (eg es i).t = v
  · rw [if_pos e]
    rcases h with h | ⟨h, z, hz⟩
    · rw [h]
    · rw [e] at h hz
      cases hd : d (eg es i).f with
      | none => rfl
      | some y =>
        rw [hd, hz] at h
        rw [hz]
        simp only
        rw [if_neg (by unfold wv at h; simp only at h; omega)]
  · rw [if_neg e]
theorem lr_yes {es : List Eg} {d : Nat → Option (Int × Nat)} {i : Nat} {y : Int × Nat} (hy : d (eg es i).f = some y) (h : lr es d i (eg es i).t = none ∨ wv (lr es d i (eg es i).t) < y.1 + (eg es i).x) : lr es d (i + 1) (eg es i).t = some (y.1 + (eg es i).x, i) ∧ ∀ v, v ≠ (eg es i).t → lr es d (i + 1) v = lr es d i v := by
  constructor
  · show tke d i (eg es i) _ (lr es d i _) = _
    unfold tke
    rw [if_pos rfl, hy]
    rcases h with h | h
    · rw [h]
    · cases hz : lr es d i (eg es i).t with
      | none => rfl
      | some z =>
        rw [hz] at h
        simp only
        rw [if_pos (by unfold wv at h; simp only at h; omega)]
  · intro v hv
    show tke d i (eg es i) v (lr es d i v) = _
    unfold tke
    rw [if_neg (fun e => hv e.symm)]
/-- entries are far above what stands for none -/
theorem lr_range {es : List Eg} {d : Nat → Option (Int × Nat)} {B : Int} (hd : ∀ v y, d v = some y → -B ≤ y.1 ∧ y.1 ≤ B) (hw : Wgt es) {i : Nat} (hi : i ≤ es.length) {v : Nat} {z : Int × Nat} (h : lr es d i v = some z) : -(B + 1048576) ≤ z.1 ∧ z.1 ≤ B + 1048576 := by
  obtain ⟨⟨g1, g2, y, g3, g4⟩, _⟩ := (lr_is es d i v).1 z.1 z.2 h
  have a1 := hd _ _ g3
  have a2 := hw _ (eg_mem (es := es) (i := z.2) (by omega))
  omega

set_option maxHeartbeats 3200000 in
theorem longer_any (n : Nat) (es : List Eg) (hG : Gph n es) (d : Nat → Option (Int × Nat)) (hd : ∀ v y, d v = some y → -314572800 ≤ y.1 ∧ y.1 ≤ 314572800) (a : Option Addr) (cap m : Nat) (hm : es.length = m) (b c : Nat) (w : World) (hE : GRow w a es) (hR : Er w b n d) :
    Calls Try.prog 28 #[.agg #[.int .i64 n, .slice a m cap], .slice (some ⟨b, 0, none⟩) n c] w fun e w' => ∃ O, e = .returned (.slice (some ⟨O, 0, none⟩) n n) ∧ w.heap.size ≤ O ∧ Er w' O n (lr es d m) ∧ O < w'.heap.size ∧ Below w.heap.size w w' := by
  have n3 := hG.n3
  have m4 := hG.m4
  rw [hm] at m4
  have B0 : Below w.heap.size w (w.alloc (.cells #[.int .i64 n, .slice a m cap] 24)) := balloc (Below.refl _ _) _
  have B1 := balloc B0 (.cells #[.int .i64 (-1152921504606846976), .int .i64 0] 60)
  have K := (Gb.new w n a m cap).alloc (.cells #[.int .i64 (-1152921504606846976), .int .i64 0] 60)
  obtain ⟨w0, hw0⟩ : ∃ w0, w.alloc (.cells #[.int .i64 n, .slice a m cap] 24) = w0 := ⟨_, rfl⟩
  rw [hw0] at B0 B1 K
  have hrep := repeatE_any w0.heap.size 0 1 n (-1152921504606846976) 0 (w0.alloc (.cells #[.int .i64 (-1152921504606846976), .int .i64 0] 60)) (by rw [World.cell?_alloc_at _ _ _ _ rfl]; rfl) (by rw [World.cell?_alloc_at _ _ _ _ rfl]; rfl) n3
  obtain ⟨w1, hw1⟩ : ∃ w1, w0.alloc (.cells #[.int .i64 (-1152921504606846976), .int .i64 0] 60) = w1 := ⟨_, rfl⟩
  rw [hw1] at B1 K hrep
  have hlm : Hid (es.length = m) := hm
  have hgh : Hid (Gph n es) := hG
  have hdd : Hid (∀ v y, d v = some y → -314572800 ≤ y.1 ∧ y.1 ≤ 314572800) := hd
  obtain ⟨g0, g1⟩ := id K
  clear hm hG hd
  go_enter Try.func28, Try.ntmps28
  go_wp2_with (go_at_call 35; refine hrep.mono ?_; rintro e w2 ⟨rfl, P0, hO, bb⟩; clear hrep; replace B1 := bthen B1 bb; replace K := K.kept bb; have hO1 : w.heap.size ≤ w1.heap.size := (by rw [← hw1, ← hw0]; simp; omega); clear bb g0 g1; obtain ⟨g0, g1⟩ := id K; generalize w1.heap.size = O at *)
  have hst : Er w2 O n (lr es d 0) := P0
  clear g0 g1 P0
  go_loopw [18] (fun i wr => ∃ j : Nat, j ≤ m ∧ i = .int .i64 j ∧ Er wr O n (lr es d j) ∧ O < wr.heap.size ∧ Below w.heap.size w wr) (fun i _ => m - (intOf i).toNat)
  case atStart => exact ⟨0, Nat.zero_le _, rfl, hst, hO, B1⟩
  case round =>
    obtain ⟨j, hj, rfl, hC, hOw, hB⟩ := hrel
    clear hst hO
    by_cases hlt : j < m
    · have q1 := hlm.out
      have G := hgh.out
      have hi := G.inn _ (eg_mem (es := es) (i := j) (by omega))
      have hx := G.wgt _ (eg_mem (es := es) (i := j) (by omega))
      obtain ⟨be, off, rfl, e1⟩ := (hE.kept hB).at (by omega)
      obtain ⟨cx, cy, cz⟩ := e1 j (by omega)
      have hjI : (j : Int) < m := by omega
      have rt := fun z => lr_range (B := 314572800) hdd.out G.wgt (i := j) (by omega) (v := (eg es j).t) (z := z)
      have lno := fun h => lr_no (es := es) (d := d) (i := j) h
      have lyes := fun y h1 h2 => lr_yes (es := es) (d := d) (i := j) (y := y) h1 h2
      obtain ⟨⟨f, t, x⟩, he⟩ : ∃ e, eg es j = e := ⟨_, rfl⟩
      rw [he] at cx cy cz hi hx rt lno lyes
      simp only at cx cy cz hi hx rt lno lyes
      clear e1 q1 G he
      have hC1 : Pr (wr.alloc (.cells #[.int .i64 (f : Int), .int .i64 (t : Int), .int .i64 x] 36)) O n _ _ := Pr.alloc hC (.cells #[.int .i64 (f : Int), .int .i64 (t : Int), .int .i64 x] 36)
      have hB2 : Below w.heap.size w (wr.alloc (.cells #[.int .i64 (f : Int), .int .i64 (t : Int), .int .i64 x] 36)) := balloc hB _
      have x0 : (wr.alloc (.cells #[.int .i64 (f : Int), .int .i64 (t : Int), .int .i64 x] 36)).cell? ⟨wr.heap.size, 0, none⟩ = some (.int .i64 f) := by rw [World.cell?_alloc_at _ _ _ _ rfl]; rfl
      have x1 : (wr.alloc (.cells #[.int .i64 (f : Int), .int .i64 (t : Int), .int .i64 x] 36)).cell? ⟨wr.heap.size, 1, none⟩ = some (.int .i64 t) := by rw [World.cell?_alloc_at _ _ _ _ rfl]; rfl
      have x2 : (wr.alloc (.cells #[.int .i64 (f : Int), .int .i64 (t : Int), .int .i64 x] 36)).cell? ⟨wr.heap.size, 2, none⟩ = some (.int .i64 x) := by rw [World.cell?_alloc_at _ _ _ _ rfl]; rfl
      have hEO : wr.heap.size ≠ O := by omega
      have hOx : O < (wr.alloc (.cells #[.int .i64 (f : Int), .int .i64 (t : Int), .int .i64 x] 36)).heap.size := by simp; omega
      obtain ⟨W1, hW1⟩ : ∃ W1, wr.alloc (.cells #[.int .i64 (f : Int), .int .i64 (t : Int), .int .i64 x] 36) = W1 := ⟨_, rfl⟩
      obtain ⟨E, hEE⟩ : ∃ E, wr.heap.size = E := ⟨_, rfl⟩
      rw [hW1] at hC1 hB2 x0 x1 x2 hOx
      rw [hEE] at x0 x1 x2 hEO
      have cf := ((Er.kept hR hB2).c f hi.1).1
      obtain ⟨⟨ct, ct'⟩, ⟨ft, ft'⟩⟩ := And.intro (hC1.c t hi.2) (hC1.fz t hi.2)
      have fI : (f : Int) < (n : Int) := by omega
      have tI : (t : Int) < (n : Int) := by omega
      have gk := K.kept (show Below w2.heap.size w2 w2 from Below.refl _ _)
      clear hC hB hE gk
      have hW2 : W1.heap.size = W1.heap.size := rfl
      cases hdf : d f with
      | none =>
        have hn := lno (.inl hdf)
        have hN : Er W1 O n (lr es d (j + 1)) := Pr.ext hC1 fun v _ => ⟨congrArg wv (hn v), congrArg lv (hn v)⟩
        rw [hdf] at cf
        simp only [wv] at cf
        clear lno lyes hn hC1 ct ct' ft ft' rt hdf
        go_wp2
        go_roundw
        case rel => exact ⟨j + 1, by omega, by go_num, hN, hOx, hB2⟩
        case measure => simp [intOf]; omega
      | some y =>
        have ry := hdd.out f y hdf
        rw [hdf] at cf
        simp only [wv] at cf
        have dn : (y.1 == -1152921504606846976) = false := beq_eq_false_iff_ne.2 (by omega)
        obtain ⟨W, hW⟩ : ∃ W, y.1 + x = W := ⟨_, rfl⟩
        have hWv : wrap64 (y.1 + x) = W := by rw [← hW]; exact IntWalk.wrap64_in _ (by omega)
        have hrW : -314572800 - 1048576 ≤ W ∧ W ≤ 314572800 + 1048576 := by omega
        by_cases hr : wv (lr es d j t) < W
        · obtain ⟨l1, l2⟩ := lyes y hdf (.inr (by rw [hW]; exact hr))
          rw [hW] at l1
          have hN : Er ((W1.setCell ⟨O, t * 2, none⟩ (.int .i64 W)).setCell ⟨O, t * 2 + 1, none⟩ (.int .i64 (j : Int))) O n (lr es d (j + 1)) := Pr.put hC1 hi.2 (by simp only [l1]; rfl) (by simp only [l1]; rfl) (fun v _ hv => by simp only [l2 v hv]) (fun v _ hv => by simp only [l2 v hv])
          have hBn : Below w.heap.size w ((W1.setCell ⟨O, t * 2, none⟩ (.int .i64 W)).setCell ⟨O, t * 2 + 1, none⟩ (.int .i64 (j : Int))) := Below.setCell (Below.setCell hB2 hO1 _) hO1 _
          have dd : decide (wv (lr es d j t) < W) = true := decide_eq_true hr
          generalize wv (lr es d j t) = V at *
          generalize lv (lr es d j t) = V2 at *
          replace hN : Hid _ := hN
          replace hBn : Hid _ := hBn
          clear lno lyes l1 l2 hC1 rt hdf hW ry
          generalize y.1 = yy at *
          go_wp2
          go_roundw
          case rel => exact ⟨j + 1, by omega, by go_num, hN.out, by simpa using hOx, hBn.out⟩
          case measure => simp [intOf]; omega
        · have hsm : ∃ z, lr es d j t = some z := by
            cases hz : lr es d j t with
            | none => rw [hz] at hr; simp only [wv] at hr; omega
            | some z => exact ⟨z, rfl⟩
          have hn := lno (.inr ⟨by rw [hdf]; simp only [wv]; simp only [wv] at hr; rw [hW]; omega, hsm⟩)
          have hN : Er W1 O n (lr es d (j + 1)) := Pr.ext hC1 fun v _ => ⟨congrArg wv (hn v), congrArg lv (hn v)⟩
          have dd : decide (wv (lr es d j t) < W) = false := decide_eq_false hr
          generalize wv (lr es d j t) = V at *
          replace hN : Hid _ := hN
          clear lno lyes hn hsm hC1 rt hdf hW ry ct' ft ft'
          generalize y.1 = yy at *
          go_wp2
          go_roundw
          case rel => exact ⟨j + 1, by omega, by go_num, hN.out, hOx, hB2⟩
          case measure => simp [intOf]; omega
    · obtain rfl : m = j := by omega
      go_wp2
      go_ret
      exact ⟨O, rfl, hO1, hC, hOw, hB⟩

end Go.Proofs.Ytdbpgcaodgkcjaa
