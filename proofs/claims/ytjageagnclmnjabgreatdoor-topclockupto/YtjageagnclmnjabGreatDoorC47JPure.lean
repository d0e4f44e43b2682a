/- PROVED: what clock.Ways answers. what window.Base and clock.Waits answer. packets that are gathered, or copied; what slices.Clone answers. rows of numbers from 0 to Inf, on plain integers: sums, steps, curves, what two rows have together. CONDITIONS: none beyond each theorem's own. -/
import Derived.Test.YtjageagnclmnjabGreatDoorC46YRight
section
namespace Go.Proofs.YtjageagnclmnjabGreatDoor.Y
set_option maxRecDepth 100000
open Go.RowKit

set_option maxHeartbeats 1600000 in
theorem ways_any (a : Option Addr) (cap : Nat) (ps : Rs) (w : World) (hz : PRow w a ps) (hl : ps.length ≤ 8796093022206) :
    Calls Tryz.prog 35 #[.slice a ps.length cap] w (Ans w (ways ps)) := by
  have hr := right_any a cap ps w hz (by omega)
  by_cases h : cright ps
  · rw [ways_yes h]
    rw [decide_eq_true h] at hr
    have hin : Hid (∀ k, k < ps.length → -1099511627776 ≤ (ps.getD k (0, 0)).1 ∧ (ps.getD k (0, 0)).1 ≤ 1099511627776 ∧ -1099511627776 ≤ (ps.getD k (0, 0)).2 ∧ (ps.getD k (0, 0)).2 ≤ 1099511627776) := fun k hk => ⟨(h k hk).1.1, (h k hk).1.2, (h k hk).2.1, (h k hk).2.2⟩
    obtain ⟨n, hn⟩ : ∃ n, ps.length = n := ⟨_, rfl⟩
    have hlt1 : ∀ j, j < n → j < ps.length := fun j hj => by omega
    rw [hn] at hr hl hin ⊢
    replace hlt1 : Hid _ := hlt1
    clear h hn
    have hmk := run_make_row' (P := Tryz.prog) 24 3 (.int .i64 0) 8 Tryz.underlying24 Tryz.info3 rfl .i64 .i64 n (by omega) (by omega)
    go_enter Tryz.func35, Tryz.ntmps35
    go_wp2_with (go_at_call 50; refine hr.mono ?_; rintro e w1 ⟨rfl, b1⟩; clear hr)
    have hst : Cells (w1.alloc (.cells (madeCells #[.int .i64 0] n) 3)) w1.heap.size n (fill (wy ps) 0) := Cells.start w1 n _ fun j _ => rfl
    have hB0 : Below w.heap.size w (w1.alloc (.cells (madeCells #[.int .i64 0] n) 3)) := balloc b1 _
    have hs1 := b1.size
    go_loopw [14] (fun i wr => ∃ k : Nat, k ≤ n ∧ i = .int .i64 k ∧ Cells wr w1.heap.size n (fill (wy ps) k) ∧ Below w.heap.size w wr) (fun i _ => n - (intOf i).toNat)
    case atStart => exact ⟨0, Nat.zero_le _, rfl, hst, hB0⟩
    case round =>
      obtain ⟨k, hk, rfl, hC, hB⟩ := hrel
      clear hst hB0 hmk
      by_cases hlt : k < n
      · have hA := hin.out k hlt
        have p1 := hlt1.out k hlt
        obtain ⟨g, o, rfl, k1⟩ := (hz.kept hB).at (by omega)
        obtain ⟨cx, cy⟩ := k1 k p1
        have hv : wy ps k = (ps.getD k (0, 0)).2 - (ps.getD k (0, 0)).1 := rfl
        obtain ⟨⟨x, y⟩, hxy⟩ : ∃ p, ps.getD k (0, 0) = p := ⟨_, rfl⟩
        rw [hxy] at cx cy hA hv
        simp only at cx cy hA hv
        have hD := hC.alloc (.cells #[.int .i64 x, .int .i64 y] 40)
        have cc := hD.c k hlt
        have cf := hD.fz k hlt
        have hN := hD.put (V' := fill (wy ps) (k + 1)) hlt (fill_new (wy ps) k) (fun j _ hj => fill_old (wy ps) k j hj)
        rw [hv] at hN
        replace hN : Hid _ := hN
        have hltI : (k : Int) < n := by omega
        have hB2 := (balloc hB (.cells #[.int .i64 x, .int .i64 y] 40)).setCell (p := ⟨w1.heap.size, k, none⟩) hs1 (.int .i64 (y - x))
        clear k1 hin hlt1 p1 hz hC hD hv hxy
        go_wp2
        go_roundw
        case rel => exact ⟨k + 1, by omega, by go_num, hN.out, hB2⟩
        case measure => simp [intOf]; omega
      · obtain rfl : n = k := by omega
        go_wp2
        go_ret
        exact ⟨some ⟨w1.heap.size, 0, none⟩, n, by rw [outs_len]; rfl, by rw [outs_len]; exact Nat.le_refl _, (hC.ext fun j hj => (fill_all (wy ps) n j hj).symm).row, hB⟩
  · rw [ways_no h]
    rw [decide_eq_false h] at hr
    generalize ps.length = n at *
    clear h
    go_enter Tryz.func35, Tryz.ntmps35
    go_wp2_with (go_at_call 50; refine hr.mono ?_; rintro e w1 ⟨rfl, b1⟩; clear hr)
    go_ret
    exact ⟨none, 0, rfl, Nat.le_refl _, .inl rfl, b1⟩

end Go.Proofs.YtjageagnclmnjabGreatDoor.Y

end

section
namespace Go.Proofs.YtjageagnclmnjabGreatDoor.Y
set_option maxRecDepth 100000
open Go.RowKit

set_option maxHeartbeats 800000 in
theorem base_some (ao : Option Addr) (cap : Nat) (zs : List Int) (u v : Int) (w : World) (hz : Row w ao zs) (hk : zs.length ≤ 8796093022206) (hu : 1 ≤ u) (hu2 : u ≤ 9223372036854775807) (hv : 1 ≤ v) (hv2 : v ≤ 9223372036854775807) :
    Calls Tryz.prog 23 #[.slice ao zs.length cap, .int .i64 u, .int .i64 v] w (Ans w (base zs u v)) := by
  have hsm : ∀ k, k < zs.length → k + 1 - frB u v k ≤ 8796093022206 := fun k hk => by omega
  have b1 : Below w.heap.size w ((w.alloc (.cells #[.int .i64 u] 3)).alloc (.cells #[.int .i64 v] 3)) := balloc (balloc (Below.refl _ _) _) _
  have hz1 := hz.kept b1
  have hb : ((w.alloc (.cells #[.int .i64 u] 3)).alloc (.cells #[.int .i64 v] 3)).cell? ⟨w.heap.size, 0, none⟩ = some (.int .i64 u) := by
    rw [World.cell?_alloc_past _ _ _ (by simp), World.cell?_alloc_at _ _ _ _ rfl]; rfl
  have hc : ((w.alloc (.cells #[.int .i64 u] 3)).alloc (.cells #[.int .i64 v] 3)).cell? ⟨w.heap.size + 1, 0, none⟩ = some (.int .i64 v) := by rw [World.cell?_alloc_at _ _ _ _ (by simp)]; rfl
  have d1 : decide (u < 1) = false := by simp; omega
  have d2 : decide (v < 1) = false := by simp; omega
  have hS := slide_parts ao cap zs u v w.heap.size (w.heap.size + 1) _ hz1 (by omega) hsm hb hc hu hu2 hv hv2
  have hD : ∀ e w', Slid ((w.alloc (.cells #[.int .i64 u] 3)).alloc (.cells #[.int .i64 v] 3)) zs true (frB u v) e w' → Ans w (base zs u v) e w' := by
    rintro e w' ⟨R, h1, h2, h3, h4, h5⟩
    have hR := base_is hu hv h1 h4
    subst hR
    exact ⟨_, zs.length, by rw [h1]; exact h2, by rw [h1]; exact Nat.le_refl _, h3, bthen b1 h5⟩
  replace hD : Hid _ := hD
  generalize zs.length = n at *
  generalize base zs u v = R at *
  clear hsm hz1 hb hc hz
  go_enter Tryz.func23, Tryz.ntmps23
  go_wp2_with (first
    | (go_at_call 38; refine (partsOf_any _ _ _).mono ?_; rintro e w' ⟨rfl, rfl⟩)
    | (go_at_call 36; refine hS.mono ?_; intro e w' hq; clear hS; obtain ⟨ao1, c1, rfl, hc1, g1, g2⟩ := hD.out _ _ hq; clear hq hD))
  go_ret
  exact ⟨ao1, c1, rfl, hc1, g1, g2⟩

theorem base_none (ao : Option Addr) (n cap : Nat) (u v : Int) (w : World) (h : u < 1 ∨ v < 1) :
    Calls Tryz.prog 23 #[.slice ao n cap, .int .i64 u, .int .i64 v] w fun e w' => e = .returned (.slice none 0 0) ∧ w' = w := by
  by_cases hu : u < 1
  · have d1 : decide (u < 1) = true := by simpa using hu
    go_enter Tryz.func23, Tryz.ntmps23
    go_wp2
    go_ret
    exact ⟨rfl, rfl⟩
  · have hv : v < 1 := by omega
    have d1 : decide (u < 1) = false := by simpa using hu
    have d2 : decide (v < 1) = true := by simpa using hv
    go_enter Tryz.func23, Tryz.ntmps23
    go_wp2
    go_ret
    exact ⟨rfl, rfl⟩

theorem base_any (ao : Option Addr) (cap : Nat) (zs : List Int) (u v : Int) (w : World) (hz : Row w ao zs) (hk : zs.length ≤ 8796093022206) (hu2 : u ≤ 9223372036854775807) (hv2 : v ≤ 9223372036854775807) :
    Calls Tryz.prog 23 #[.slice ao zs.length cap, .int .i64 u, .int .i64 v] w (Ans w (base zs u v)) := by
  by_cases h : 1 ≤ u ∧ 1 ≤ v
  · exact base_some ao cap zs u v w hz hk h.1 hu2 h.2 hv2
  · rw [base_no zs (by omega)]
    exact (base_none ao zs.length cap u v w (by omega)).mono fun e w' ⟨a, b⟩ => ⟨none, 0, a, Nat.le_refl _, .inl rfl, b ▸ Below.refl _ _⟩

set_option maxHeartbeats 1600000 in
theorem waits_any (a : Option Addr) (cap : Nat) (ps : Rs) (u v : Int) (w : World) (hz : PRow w a ps) (hl : ps.length ≤ 8796093022206) (hu2 : u ≤ 9223372036854775807) (hv2 : v ≤ 9223372036854775807) :
    Calls Tryz.prog 21 #[.slice a ps.length cap, .int .i64 u, .int .i64 v] w (Ans w (waits ps u v)) := by
  have hy := ways_any a cap ps w hz hl
  have h1 := ways_le ps
  have h2 := base_le (ways ps) u v
  have hin : Hid (∀ k, k < (base (ways ps) u v).length → (-2199023255552 ≤ (ways ps).getD k 0 ∧ (ways ps).getD k 0 ≤ 2199023255552) ∧ -2199023255552 ≤ (base (ways ps) u v).getD k 0 ∧ (base (ways ps) u v).getD k 0 ≤ 2199023255552) := fun k hk => ⟨ways_in ps k (by omega), base_in (ways_in ps) k hk⟩
  have hb := fun ao c w1 (hq : Row w1 ao (ways ps)) => base_any ao c (ways ps) u v w1 hq (by omega) hu2 hv2
  unfold waits
  obtain ⟨m, hm⟩ : ∃ m, (base (ways ps) u v).length = m := ⟨_, rfl⟩
  obtain ⟨q, hq⟩ : ∃ q, (ways ps).length = q := ⟨_, rfl⟩
  obtain ⟨H, hH⟩ : ∃ H : Nat → Int, H = fun k => (ways ps).getD k 0 - (base (ways ps) u v).getD k 0 := ⟨_, rfl⟩
  rw [← hH]
  replace hH : Hid (∀ k, H k = (ways ps).getD k 0 - (base (ways ps) u v).getD k 0) := fun k => by rw [hH]
  unfold Ans at hy hb
  generalize base (ways ps) u v = B at *
  generalize ways ps = Y at *
  generalize ps.length = n at *
  rw [hm] at h2 hin ⊢
  simp only [hm] at hb
  rw [hq] at h1 h2 hb
  simp only [hq] at hy
  have hm' : Hid (∀ k, k < m → k < B.length ∧ k < Y.length) := fun k hk => ⟨by omega, by omega⟩
  replace hb : Hid _ := hb
  clear hm hq hz
  have hmk := run_make_row' (P := Tryz.prog) 24 3 (.int .i64 0) 8 Tryz.underlying24 Tryz.info3 rfl .i64 .i64 m (by omega) (by omega)
  go_enter Tryz.func21, Tryz.ntmps21
  go_wp2_with (first
    | (go_at_call 35; refine hy.mono ?_; rintro e w1 ⟨ay, cy, rfl, _, ry, b1⟩; clear hy)
    | (go_at_call 23; refine (hb.out ay cy w1 ry).mono ?_; rintro e w2 ⟨ab, cb, rfl, _, rb, b2⟩; clear hb; replace ry := ry.kept b2; replace b1 := bthen b1 b2; clear b2))
  have hst : Cells (w2.alloc (.cells (madeCells #[.int .i64 0] m) 3)) w2.heap.size m (fill H 0) := Cells.start w2 m _ fun j _ => rfl
  have hB0 : Below w.heap.size w (w2.alloc (.cells (madeCells #[.int .i64 0] m) 3)) := balloc b1 _
  have hB1 : Below w2.heap.size w2 (w2.alloc (.cells (madeCells #[.int .i64 0] m) 3)) := balloc (Below.refl _ _) _
  have hs1 := b1.size
  go_loopw [22] (fun i wr => ∃ k : Nat, k ≤ m ∧ i = .int .i64 k ∧ Cells wr w2.heap.size m (fill H k) ∧ Below w.heap.size w wr ∧ Below w2.heap.size w2 wr) (fun i _ => m - (intOf i).toNat)
  case atStart => exact ⟨0, Nat.zero_le _, rfl, hst, hB0, hB1⟩
  case round =>
    obtain ⟨k, hk, rfl, hC, hB, hB2⟩ := hrel
    clear hst hB0 hmk hB1
    by_cases hlt : k < m
    · obtain ⟨p1, p2⟩ := hm'.out k hlt
      obtain ⟨g1, o1, rfl, k1⟩ := (ry.kept hB2).at (by omega)
      obtain ⟨g2, o2, rfl, k2⟩ := (rb.kept hB2).at (by omega)
      have cx := k1 k p2
      have cy := k2 k p1
      have hA := hin.out k hlt
      have cc := hC.c k hlt
      have cf := hC.fz k hlt
      have hN := fun q => (hC.drewN q).put (V' := fill H (k + 1)) hlt (fill_new H k) (fun j _ hj => fill_old H k j hj)
      have hX : Hid (H k = Y.getD k 0 - B.getD k 0) := hH.out k
      generalize H k = X at hN hX
      generalize Y.getD k 0 = x at cx hX hA
      generalize B.getD k 0 = y at cy hX hA
      have hw : IntKind.i64.wrap (x - y) = x - y := wrap_in (by omega)
      replace hN : Hid _ := hN
      have hl1 : (k : Int) < m := by omega
      have hl2 : (k : Int) < q := by omega
      clear k1 k2 ry rb hH hC hin hm' p1 p2
      go_wp2
      go_region
      all_goals
        go_wp2
        go_roundw
        case rel => exact ⟨k + 1, by omega, by go_num, hX.out ▸ hN.out 1, (below_drewN hB 1).setCell (p := ⟨w2.heap.size, k, none⟩) hs1 _, (below_drewN hB2 1).setCell (p := ⟨w2.heap.size, k, none⟩) (Nat.le_refl _) _⟩
        case measure => simp [intOf]; omega
    · obtain rfl : m = k := by omega
      go_wp2
      go_ret
      exact ⟨some ⟨w2.heap.size, 0, none⟩, m, by rw [outs_len]; rfl, by rw [outs_len]; exact Nat.le_refl _, (hC.ext fun j hj => (fill_all H m j hj).symm).row, hB⟩

end Go.Proofs.YtjageagnclmnjabGreatDoor.Y

end

section
namespace Go.Proofs.YtjageagnclmnjabGreatDoor.Y
set_option maxRecDepth 100000
open Go.RowKit

theorem Tryz.info31 : (Tryz.prog.info? 40).map (fun i => (i.zero, i.size, i.bytes)) = some (some (.agg #[.int .i64 0, .int .i64 0]), 2, 16) := by kernel_rfl

/-- packets that may be written, in block g -/
structure PCells (w : World) (g : Nat) (ps : Rs) : Prop where
  c : ∀ j, j < ps.length → w.cell? ⟨g, j * 2, none⟩ = some (.int .i64 (ps.getD j (0, 0)).1) ∧ w.cell? ⟨g, j * 2 + 1, none⟩ = some (.int .i64 (ps.getD j (0, 0)).2)
  fz : ∀ i, i < ps.length * 2 → w.frozen? ⟨g, i, none⟩ = false
theorem PCells.row {w : World} {g : Nat} {ps : Rs} (h : PCells w g ps) : PRow w (some ⟨g, 0, none⟩) ps := .inr ⟨g, 0, rfl, fun j hj => by rw [Nat.zero_add]; exact h.c j hj⟩

/-- the cells of a row of packets, one after another -/
theorem PRow.flat {w : World} {b off : Nat} {ps : Rs} (h : ∀ j, j < ps.length → w.cell? ⟨b, off + j * 2, none⟩ = some (.int .i64 (ps.getD j (0, 0)).1) ∧ w.cell? ⟨b, off + j * 2 + 1, none⟩ = some (.int .i64 (ps.getD j (0, 0)).2))
    (j : Nat) (u : Value) (hu : (flat ps)[j]? = some u) : w.cell? ⟨b, off + j, none⟩ = some u := by
  have hj : j < ps.length * 2 := by
    have := (List.getElem?_eq_some_iff.1 hu).1
    rw [flat_len] at this; exact this
  obtain ⟨h1, h2⟩ := h (j / 2) (by omega)
  obtain ⟨f1, f2⟩ := flat_get ps (j / 2) (by omega)
  rcases Nat.mod_two_eq_zero_or_one j with e | e
  · have e2 : j / 2 * 2 = j := by omega
    rw [e2] at f1 h1
    rw [f1] at hu
    rw [h1]; exact hu
  · have e2 : j / 2 * 2 + 1 = j := by omega
    rw [e2] at f2
    rw [f2] at hu
    rw [show off + j / 2 * 2 + 1 = off + j by omega] at h2
    rw [h2]; exact hu

theorem powned {w : World} {base : Nat} {t : Value} {n : Nat} {ps : Rs} (hn : ps.length = n) (h : w.ownsRow base 40 2 t n (flat ps)) : (t = .slice none 0 0 ∧ ps = []) ∨ ∃ g cap, t = .slice (some ⟨g, 0, none⟩) n cap ∧ n ≤ cap ∧ base ≤ g ∧ PCells w g ps := by
  subst hn
  obtain ⟨hl, ⟨e, e2⟩ | ⟨g, cap, cur, e, hg, hh, hnc, _, hcs, htk⟩⟩ := h
  · exact .inl ⟨e, List.eq_nil_of_length_eq_zero e2⟩
  · refine .inr ⟨g, cap, e, hnc, hg, ⟨fun j hj => ?_, fun i hi => ?_⟩⟩
    · obtain ⟨f1, f2⟩ := flat_get ps j hj
      rw [← htk, List.getElem?_take_of_lt (by omega)] at f1 f2
      simp [World.cell?, hh]
      exact ⟨by simpa using f1, by simpa using f2⟩
    · simp [World.frozen?, hh]
/-- what has been gathered so far, in a row of the call's own -/
structure PGath (w : World) (t : Value) (wr : World) (R : Rs) : Prop where
  own : wr.ownsRow w.heap.size 40 2 t R.length (flat R)
  below : Below w.heap.size w wr
theorem PGath.start (w : World) : PGath w (.slice none 0 0) w [] := ⟨World.ownsRow_nil _ _ _ _, Below.refl _ _⟩
theorem PGath.next {w : World} {t t' : Value} {wr w1 w2 : World} {R : Rs} (h : PGath w t wr R) {x y : Int}
    (hb : Below wr.heap.size wr w1) (ho : w2.ownsRow w.heap.size 40 2 t' (R.length + 1) (flat R ++ [.int .i64 x, .int .i64 y])) {o : Obj} (hg : (w1.alloc o).grownBy w2 t.ownBlock) : PGath w t' w2 (R ++ [(x, y)]) := by
  refine ⟨by rw [flat_append, List.length_append]; exact ho, ?_⟩
  have b1 := balloc (bthen h.below hb) o
  exact b1.grown hg b1.size (fun q hq => (h.own.lt q hq).1)
theorem PGath.done {w : World} {t : Value} {wr : World} {R : Rs} (h : PGath w t wr R) : ∃ ao cap, t = .slice ao R.length cap ∧ PRow wr ao R := by
  rcases powned rfl h.own with ⟨e, e2⟩ | ⟨g, cap, e, _, _, hc⟩
  · subst e2; exact ⟨none, 0, e, .inl rfl⟩
  · exact ⟨_, cap, e, hc.row⟩
theorem cell_two_new (w : World) (x y : Int) (j : Nat) (u : Value) (h : [Value.int .i64 x, .int .i64 y][j]? = some u) : (w.alloc (.cells #[.int .i64 x, .int .i64 y] 40)).cell? ((⟨w.heap.size, 0, none⟩ : Addr).add j) = some u := by
  rw [Addr.add_lit, Nat.zero_add]
  exact (World.cell?_alloc_at (w := w) #[.int .i64 x, .int .i64 y] 40 w.heap.size j rfl).trans (by simpa using h)

end Go.Proofs.YtjageagnclmnjabGreatDoor.Y

end

section
namespace Go.Proofs.YtjageagnclmnjabGreatDoor.J
set_option maxRecDepth 100000

/-- a number from 0 to Inf -/
def fit (x : Int) : Int := min (max x 0) 1152921504606846976
def plus (a b : Int) : Int := fit (fit a + fit b)
def less (a b : Int) : Int :=
  if fit b = 1152921504606846976 ∨ fit a < fit b then 0 else if fit a = 1152921504606846976 then 1152921504606846976 else fit a - fit b
theorem fit_lo (x : Int) : 0 ≤ fit x := by unfold fit; omega
theorem fit_hi (x : Int) : fit x ≤ 1152921504606846976 := by unfold fit; omega
theorem fit_of (a : Int) (h0 : 0 ≤ a) (h1 : a ≤ 1152921504606846976) : fit a = a := by unfold fit; omega
theorem fit_fit (a : Int) : fit (fit a) = fit a := fit_of _ (fit_lo a) (fit_hi a)
theorem fit_mono {a b : Int} (h : a ≤ b) : fit a ≤ fit b := by unfold fit; omega
theorem plus_lo (a b : Int) : 0 ≤ plus a b := fit_lo _
/-- the first k of what f tells -/
def outs (f : Nat → Int) (k : Nat) : List Int := (List.range k).map f
theorem outs_len (f : Nat → Int) (k : Nat) : (outs f k).length = k := by simp [outs]
theorem outs_succ (f : Nat → Int) (k : Nat) : outs f (k + 1) = outs f k ++ [f k] := by simp [outs, List.range_succ]
theorem outs_getD (f : Nat → Int) (k j : Nat) (h : j < k) : (outs f k).getD j 0 = f j := by
  simp [outs, List.getD_eq_getElem?_getD, h]
theorem list_ext {xs ys : List Int} (hl : xs.length = ys.length) (h : ∀ j, j < xs.length → xs.getD j 0 = ys.getD j 0) : xs = ys := by
  apply List.ext_getElem hl
  intro j h1 h2
  have := h j h1
  rw [List.getD_eq_getElem?_getD, List.getD_eq_getElem?_getD, List.getElem?_eq_getElem h1, List.getElem?_eq_getElem h2] at this
  exact this
/-- what has come in all when k numbers have come -/
def psum (f : Nat → Int) : Nat → Int
  | 0 => 0
  | k + 1 => plus (psum f k) (f k)
def of (z : List Int) : List Int := outs (psum fun j => z.getD j 0) (z.length + 1)
theorem drop_getD (f : List Int) (d j : Nat) : (f.drop d).getD j 0 = f.getD (d + j) 0 := by
  rw [List.getD_eq_getElem?_getD, List.getD_eq_getElem?_getD, List.getElem?_drop]
/-- never falls -/
def up (f : List Int) : Prop := ∀ j, j < f.length - 1 → f.getD j 0 ≤ f.getD (j + 1) 0
instance (f : List Int) : Decidable (up f) := inferInstanceAs (Decidable (∀ j, j < f.length - 1 → f.getD j 0 ≤ f.getD (j + 1) 0))
def right (f : List Int) : Prop := 0 < f.length ∧ f.getD 0 0 = 0 ∧ up f ∧ f.getD (f.length - 1) 0 ≤ 1152921504606846976
instance (f : List Int) : Decidable (right f) := inferInstanceAs (Decidable (_ ∧ _ ∧ _ ∧ _))

/-- nowhere above -/
def below (f g : List Int) : Prop := ∀ t, t < min f.length g.length → fit (f.getD t 0) ≤ fit (g.getD t 0)
instance (f g : List Int) : Decidable (below f g) := inferInstanceAs (Decidable (∀ t, t < min f.length g.length → fit (f.getD t 0) ≤ fit (g.getD t 0)))

def att (f : List Int) (t : Int) : Int := if f.length = 0 ∨ t < 0 then 0 else fit (f.getD (min t (f.length - 1)).toNat 0)

/-! What the promises say of one another. -/

end Go.Proofs.YtjageagnclmnjabGreatDoor.J

end
