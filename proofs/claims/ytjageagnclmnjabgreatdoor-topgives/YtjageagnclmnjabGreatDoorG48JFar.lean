/- PROVED: what jitter.Pass and jitter.Delays answer. what is known of a slice of integers that came in, of whatever size. CONDITIONS: none beyond each theorem's own. -/
import Derived.Test.YtjageagnclmnjabGreatDoorG47JRight
import Derived.Test.YtjageagnclmnjabGreatDoorG46JLate
import Derived.ProofKit
import Derived.OpenShut
import Derived.ShutString
import Derived.ChangeOld
import Derived.Below
import Derived.SizedLaws
namespace Go.Proofs.YtjageagnclmnjabGreatDoor.J
set_option maxRecDepth 100000
open Go.RowKit

set_option maxHeartbeats 1600000 in
theorem pass_any (a1 a2 : Option Addr) (c1 c2 : Nat) (t l : List Int) (w : World) (ht : Row w a1 t) (hl : Row w a2 l) (b1 : t.length ≤ 17592186044416) (b2 : l.length ≤ 17592186044416) :
    Calls Tryz.prog 17 #[.slice a1 t.length c1, .slice a2 l.length c2] w (Ans w (pass t l)) := by
  have hr := right_any a1 a2 c1 c2 t l w ht hl b1 b2
  by_cases h : jright t l
  · rw [pass_yes h]
    rw [decide_eq_true h] at hr
    have h1 := h.1
    have hin : Hid (∀ k, k < t.length → 0 ≤ passed t l k ∧ passed t l k ≤ 2199023255552) := fun k hk => passed_in h k hk
    have hpk : Hid (∀ k, k < t.length → 0 ≤ pk t l k ∧ pk t l k ≤ 2199023255552) := fun k hk => pk_in h k (by omega)
    have hti : Hid (∀ k, k < t.length → (0 ≤ t.getD k 0 ∧ t.getD k 0 ≤ 1099511627776) ∧ 0 ≤ l.getD k 0 ∧ l.getD k 0 ≤ 1099511627776) := fun k hk => ⟨h.2.2.1 k hk, h.2.2.2 k (by omega)⟩
    obtain ⟨n, hn⟩ : ∃ n, t.length = n := ⟨_, rfl⟩
    rw [← h1] at hr b2 ⊢
    have hlt1 : ∀ j, j < n → j < t.length := fun j hj => by omega
    have hlt2 : ∀ j, j < n → j < l.length := fun j hj => by omega
    rw [hn] at hr b2 hin hpk hti ⊢
    replace hlt1 : Hid _ := hlt1
    replace hlt2 : Hid _ := hlt2
    clear h h1 b1 hn
    have hmk := run_make_row' (P := Tryz.prog) 24 3 (.int .i64 0) 8 Tryz.underlying24 Tryz.info3 rfl .i64 .i64 n (by omega) (by omega)
    have hst : Hid (∀ q, Cells ((w.drewN q).alloc (.cells (madeCells #[.int .i64 0] n) 3)) w.heap.size n (fill (passed t l) 0)) := fun q => Cells.start (w.drewN q) n _ fun j _ => rfl
    have hB0 : Hid (∀ q, Below w.heap.size w ((w.drewN q).alloc (.cells (madeCells #[.int .i64 0] n) 3))) := fun q => balloc (below_drewN (Below.refl _ _) q) _
    go_enter Tryz.func17, Tryz.ntmps17
    go_wp2_with (go_at_call 18; refine hr.mono ?_; rintro e w1 ⟨rfl, q, rfl⟩; clear hr)
    go_loopw [6, 18] (fun v i wr => ∃ k : Nat, k ≤ n ∧ i = .int .i64 k ∧ v = .int .i64 (pk t l k) ∧ Cells wr w.heap.size n (fill (passed t l) k) ∧ Below w.heap.size w wr) (fun _ i _ => n - (intOf i).toNat)
    case atStart => exact ⟨0, Nat.zero_le _, rfl, rfl, hst.out q, hB0.out q⟩
    case round =>
      obtain ⟨k, hk, rfl, rfl, hC, hB⟩ := hrel
      clear hst hB0 hmk
      by_cases hlt : k < n
      · have hA := hti.out k hlt
        have hX := hin.out k hlt
        have hY := hpk.out k hlt
        have p1 := hlt1.out k hlt
        have p2 := hlt2.out k hlt
        obtain ⟨g1, o1, rfl, k1⟩ := ht.at (by omega)
        obtain ⟨g2, o2, rfl, k2⟩ := hl.at (by omega)
        have cx := (hB.cell (p := ⟨g1, o1 + k, none⟩) (block_lt (k1 k p1))).trans (k1 k p1)
        have cy := (hB.cell (p := ⟨g2, o2 + k, none⟩) (block_lt (k2 k p2))).trans (k2 k p2)
        have cc := hC.c k hlt
        have cf := hC.fz k hlt
        have hN := hC.put (V' := fill (passed t l) (k + 1)) hlt (fill_new (passed t l) k) (fun j _ hj => fill_old (passed t l) k j hj)
        have hs : Hid (pk t l (k + 1) = passed t l k) := rfl
        have hm : max (pk t l k) (t.getD k 0 + l.getD k 0) = passed t l k := rfl
        generalize passed t l k = X at hX hN hm hs
        generalize pk t l k = Y at hY hm ⊢
        generalize t.getD k 0 = x at cx hA hm
        generalize l.getD k 0 = y at cy hA hm
        replace hN : Hid _ := hN
        have hltI : (k : Int) < n := by omega
        clear k1 k2 hti hin hpk hlt1 hlt2 p1 p2 ht hl hC
        go_wp2
        go_roundw
        case rel => exact ⟨k + 1, by omega, by go_num, by rw [hs.out], hN.out, hB.setCell (p := ⟨w.heap.size, k, none⟩) (Nat.le_refl _) _⟩
        case measure => simp [intOf]; omega
      · obtain e : k = n := by omega
        subst e
        go_wp2
        go_ret
        exact (hC.ext fun j hj => (fill_all (passed t l) k j hj).symm).done hB
  · rw [pass_no h]
    rw [decide_eq_false h] at hr
    generalize t.length = n at *
    generalize l.length = m at *
    clear h
    go_enter Tryz.func17, Tryz.ntmps17
    go_wp2_with (go_at_call 18; refine hr.mono ?_; rintro e w1 ⟨rfl, q, rfl⟩; clear hr)
    go_ret
    exact ⟨none, 0, rfl, Nat.le_refl _, .inl rfl, below_drewN (Below.refl _ _) q⟩

set_option maxHeartbeats 1600000 in
theorem delays_any (a1 a2 : Option Addr) (c1 c2 : Nat) (f g : List Int) (w : World) (hf : Row w a1 f) (hg : Row w a2 g) (h1 : f.length ≤ 17592186044416) (h2 : g.length ≤ 17592186044416) :
    Calls Tryz.prog 22 #[.slice a1 f.length c1, .slice a2 g.length c2] w (Ans w (dl f g)) := by
  unfold dl
  obtain ⟨m, hm⟩ : ∃ m, min f.length g.length = m := ⟨_, rfl⟩
  have hmi : min (f.length : Int) (g.length : Int) = (m : Int) := by omega
  have hm1 : m ≤ f.length := by omega
  have hm2 : m ≤ g.length := by omega
  rw [hm]
  clear hm
  generalize hH : (fun k => wrap64 (g.getD k 0 - f.getD k 0)) = H
  have HH : Hid (∀ k, wrap64 (g.getD k 0 - f.getD k 0) = H k) := fun k => congrFun hH k
  clear hH
  have hmk := run_make_row' (P := Tryz.prog) 24 3 (.int .i64 0) 8 Tryz.underlying24 Tryz.info3 rfl .i64 .i64 m (by omega) (by omega)
  have hst : Cells (w.alloc (.cells (madeCells #[.int .i64 0] m) 3)) w.heap.size m (fill H 0) := Cells.start w m _ fun j _ => rfl
  have hB0 : Below w.heap.size w (w.alloc (.cells (madeCells #[.int .i64 0] m) 3)) := balloc (Below.refl _ _) _
  go_enter Tryz.func22, Tryz.ntmps22
  go_wp2
  go_loopw [15] (fun i wr => ∃ k : Nat, k ≤ m ∧ i = .int .i64 k ∧ Cells wr w.heap.size m (fill H k) ∧ Below w.heap.size w wr) (fun i _ => m - (intOf i).toNat)
  case atStart => exact ⟨0, Nat.zero_le _, rfl, hst, hB0⟩
  case round =>
    obtain ⟨k, hk, rfl, hC, hB⟩ := hrel
    clear hst hB0 hmk
    by_cases hlt : k < m
    · obtain ⟨b1, o1, rfl, k1⟩ := hf.at (by omega)
      obtain ⟨b2, o2, rfl, k2⟩ := hg.at (by omega)
      have cx := (hB.cell (p := ⟨b1, o1 + k, none⟩) (block_lt (k1 k (by omega)))).trans (k1 k (by omega))
      have cy := (hB.cell (p := ⟨b2, o2 + k, none⟩) (block_lt (k2 k (by omega)))).trans (k2 k (by omega))
      have cc := hC.c k hlt
      have cf := hC.fz k hlt
      have hN := fun q => (hC.drewN q).put (V' := fill H (k + 1)) hlt (fill_new H k) (fun j _ hj => fill_old H k j hj)
      have hX : Hid (wrap64 (g.getD k 0 - f.getD k 0) = H k) := HH.out k
      have hl1 : (k : Int) < f.length := by omega
      have hl2 : (k : Int) < g.length := by omega
      have hl3 : (k : Int) < m := by omega
      generalize H k = X at hN hX
      generalize f.getD k 0 = x at cx hX
      generalize g.getD k 0 = y at cy hX
      replace hN : Hid _ := hN
      clear k1 k2 hf hg HH hC
      go_wp2
      go_region
      all_goals
        go_wp2
        go_roundw
        case rel => exact ⟨k + 1, by omega, by go_num, by rw [hX.out]; exact hN.out 1, (below_drewN hB 1).setCell (p := ⟨w.heap.size, k, none⟩) (Nat.le_refl _) _⟩
        case measure => simp [intOf]; omega
    · obtain e : k = m := by omega
      subst e
      go_wp2
      go_ret
      exact (hC.ext fun j hj => (fill_all H k j hj).symm).done hB

end Go.Proofs.YtjageagnclmnjabGreatDoor.J

namespace Go.Proofs.YtjageagnclmnjabGreatDoor.J
set_option maxRecDepth 100000
open Go.ChangeShapes Go.WideShapes Go.ChangeAt Go.RowKit

theorem fits {n : Int} (h : (Lit.int .i64 n).wf = true) : -9223372036854775808 ≤ n ∧ n ≤ 9223372036854775807 := by
  simpa [Lit.wf, IntKind.min, IntKind.max, IntKind.signed, IntKind.bits] using h

theorem own : ownKnob Tryz.prog.godebug = none := by kernel_rfl
theorem laidOut : laidOutB Tryz.prog = true := by kernel_rfl
theorem Tryz.bytes3 : Tryz.prog.bytesOf 3 = 8 := by kernel_rfl

/-- a slice of integers that came in, of whatever size -/
def FarIn (w : World) (ao : Option Addr) (cap : Nat) (zs : List Int) : Prop := Row w ao zs ∧ zs.length ≤ 17592186043904 ∧ zs.length ≤ cap ∧ ∀ n ∈ zs, -9223372036854775808 ≤ n ∧ n ≤ 9223372036854775807

theorem farIn {H : Type} {enc : TypeId × Value → H} {W : World} {a : Option Addr} {len cap : Nat} {d : DataW H} {p : List MemPlace}
    (h : DataW.Trod enc Tryz.prog W 0 (fun _ => true) true 24 (.slice a len cap) d p) (hb : ∀ elems spare, d = .slice elems spare → (elems.length + spare.length) * 8 ≤ 140737488351232) : ∃ zs, zs.length = len ∧ FarIn W a cap zs := by
  obtain ⟨fuel, hf⟩ := h
  rcases Go.ChangeShapes.open_ints Tryz.underlying24 Tryz.underlying3 (by kernel_rfl) hf with ⟨hcs, _⟩ | ⟨x, l, c, zs, hcs, _, hl, hm, hz, hx, hcell, hwz⟩
  · simp [Value.cells] at hcs
    obtain ⟨rfl, rfl, rfl⟩ := hcs
    exact ⟨[], rfl, .inl rfl, by simp, by simp, fun n hn => by cases hn⟩
  · simp [Value.cells] at hcs
    obtain ⟨rfl, rfl, rfl⟩ := hcs
    have hzl : zs.length = cap := by simpa using hz
    have hlt : (zs.take len).length = len := by simp; omega
    injection hx with hx _
    have hb1 := hb _ _ hx
    simp only [Go.ChangeShapes.lits, List.length_map, List.length_take, List.length_drop] at hb1
    refine ⟨zs.take len, hlt, ?_, by omega, by omega, fun n hn => fits (hwz n (List.mem_of_mem_take hn))⟩
    by_cases h0 : len = 0
    · exact .inl (List.eq_nil_of_length_eq_zero (by omega))
    · have c0 := hcell 0 (by omega)
      obtain ⟨b, o, sp⟩ := x
      have hsp : sp = none := by
        cases sp with
        | none => rfl
        | some q =>
          have : W.cell? ((⟨b, o, some q⟩ : Addr).add 0) = none := by
            show W.cell? ⟨b, o, some q⟩ = none
            simp only [World.cell?]
            split <;> simp
          rw [this] at c0; cases c0
      subst hsp
      refine .inr ⟨b, o, rfl, fun j hj => ?_⟩
      have := hcell j (by omega)
      rw [Addr.add_lit] at this
      rw [this, List.getD_eq_getElem?_getD, List.getD_eq_getElem?_getD, List.getElem?_take_of_lt (by omega)]

end Go.Proofs.YtjageagnclmnjabGreatDoor.J
