/- PROVED: what steady's lates gives, round by round: all that may be late, by numbers. on plain lists: what steady's search gathers in the rounds of one state. what holds between two rounds of steady's search. a region that draws its order, walked within a round of a range over a function, from what holds of it outside of one. CONDITIONS: none beyond each theorem's own. -/
import Derived.Test.YtjageagnclmnjabGreatDoorB03DOwn
import Derived.Test.YtjageagnclmnjabGreatDoorB00Pw
import Derived.RangeFuncBox
import Derived.RangeFuncNested
import Derived.RangeFuncBound
import Derived.RangeFuncCalls
import Derived.RangeFuncLeaves
import Derived.Shelf.Abstract
import Derived.Shelf.RegionOpen
import Derived.WalkKit
import Derived.OwnWalkIn
import Derived.TacticsInMore
import Derived.LoopNIn
import Derived.LoopIn
import Derived.Test.YtjageagnclmnjabGreatDoorB11Fnd
import Derived.Test.YtjageagnclmnjabGreatDoorB13Sr
import Derived.Test.YtjageagnclmnjabGreatDoorB09Chn
import Derived.OrdersIn
namespace Go.Proofs.YtjageagnclmnjabGreatDoor.D
open Go.RowKit Go.Shelf
set_option linter.unusedVariables false

attribute [local go_sem] Oper.semAt_some

/-- what is late, by its number -/
def lxn (J n : Nat) : Int := ((n / J : Nat) : Int)
def lyn (J n : Nat) : Int := ((n % J : Nat) : Int)
abbrev enc {J : Nat} (x : Fin (J * J)) : Array Value := #[.agg #[.int .i64 (lxn J x.1), .int .i64 (lyn J x.1)]]
def KeepB (B : Nat) (W W' : World) : Prop := ∀ o, W'.cell? ⟨B, o, none⟩ = W.cell? ⟨B, o, none⟩
theorem KeepB.refl (B : Nat) (W : World) : KeepB B W W := fun _ => rfl
theorem KeepB.trans {B : Nat} {W1 W2 W3 : World} (h : KeepB B W1 W2) (k : KeepB B W2 W3) : KeepB B W1 W3 := fun o => (k o).trans (h o)
theorem keepB_b {B : Nat} {w : World} (h1 : B < w.heap.size) (W : World) (l : Nat) (o o' : Obj) (hl : w.heap.size ≤ l) (h : W.heap[l]? = some o) (hc : o.isCells = false) (hw : o.isWalk = false) : KeepB B W (W.putObj l o') := by
  have hb := belowK_b (w := w) (Nat.le_refl _) W l o o' hl h hc hw
  exact fun j => hb.cell (p := ⟨B, j, none⟩) h1
def allL (J : Nat) (m : Nat) (ys : List (Fin (J * J))) : Prop := ys.map Fin.val = List.range m
theorem allL_len {J m : Nat} {ys : List (Fin (J * J))} (h : allL J m ys) : ys.length = m := by
  have := congrArg List.length h
  simpa using this
theorem allL_snoc {J m : Nat} {ys : List (Fin (J * J))} (h : allL J m ys) {x : Fin (J * J)} (hx : x.1 = m) : allL J (m + 1) (ys ++ [x]) := by
  unfold allL at *
  rw [List.map_append, h, List.range_succ]
  simp [hx]

theorem lates_any (j : Int) (w : World) : Calls Tryz.prog 92 #[.int .i64 j] w fun e w' => e = .returned (.func (.func 116) #[] #[.pointer (some ⟨w.heap.size, 0, none⟩)]) ∧ w' = w.alloc (.cells #[.int .i64 j] 3) := by
  go_enter Tryz.func92, Tryz.ntmps92
  go_wp2
  refine bodyPost_ret (by simp [results, Tryz.results92, go_sem]) rfl ⟨rfl, rfl⟩

set_option maxRecDepth 100000 in
set_option maxHeartbeats 4000000 in
theorem lates1_in (n : Nat) (hn : 1 ≤ n) (l B J : Nat) (hJ : J ≤ 4) (j : Int) (hj : j + 1 = (J : Int)) (Jv Jx : List (Fin (J * J)) → World → Prop)
    (hY : ∀ pre x W, Jv pre W → pre.length < 17 → YieldAt Fence.wide (n - 1) Tryz.prog l (enc x) W fun e W' =>
      (e = .returned (.bool true) ∧ Jv (pre ++ [x]) W' ∧ KeepB B W W') ∨ (e = .returned (.bool false) ∧ Jx (pre ++ [x]) W'))
    (W : World) (c0 : W.cell? ⟨B, 0, none⟩ = some (.int .i64 j)) (h0 : Jv [] W) :
    CallsIn Fence.wide n Tryz.prog 116 #[.func (.yield l) #[] #[], .pointer (some ⟨B, 0, none⟩)] W fun e W' => (∃ v, e = .returned v) ∧
      ((∃ ys, allL J (J * J) ys ∧ Jv ys W') ∨ (∃ pre, (∃ m, m ≤ J * J ∧ allL J m pre) ∧ Jx pre W')) := by
  refine callsIn_of_wp Tryz.func116 rfl trivial ?_ rfl
  simp only [Tryz.ntmps116, List.size_toArray, List.length_cons, List.length_nil, Nat.reduceAdd, Nat.reduceSub, Array.replicate_succ, Array.replicate_zero, List.push_toArray, List.append_toArray, List.nil_append, List.cons_append]
  have hJJ : J * J ≤ 16 := Nat.mul_le_mul hJ hJ
  gi_wp2
  gi_loopw [7] (fun i wr => ∃ a : Nat, a ≤ J ∧ i = .int .i64 a ∧ (∃ pre, allL J (a * J) pre ∧ Jv pre wr) ∧ KeepB B W wr)
    (fun i _ => J - (intOf i).toNat)
  case atStart => exact ⟨0, Nat.zero_le _, rfl, ⟨[], by simp [allL], h0⟩, KeepB.refl _ _⟩
  case round =>
    obtain ⟨a, ha, rfl, hJs, hnx⟩ := hrel
    by_cases hlt : a < J
    · have haI : (a : Int) < (J : Int) := by omega
      have e0 := (hnx 0).trans c0
      have haJ : a * J + J ≤ J * J := by
        have := Nat.mul_le_mul_right J (show a + 1 ≤ J by omega)
        rw [Nat.add_mul, Nat.one_mul] at this; exact this
      obtain ⟨aJ, hAJ⟩ : ∃ aJ, a * J = aJ := ⟨_, rfl⟩
      have hs1 : (a + 1) * J = aJ + J := by rw [Nat.add_mul, Nat.one_mul, hAJ]
      rw [hAJ] at hJs haJ
      have hdm : Hid (∀ q, q < J → (aJ + q) / J = a ∧ (aJ + q) % J = q) := fun q hq => by
        rw [← hAJ, Nat.mul_comm]
        exact ⟨by rw [Nat.mul_add_div (by omega), Nat.div_eq_of_lt hq, Nat.add_zero], by rw [Nat.mul_add_mod, Nat.mod_eq_of_lt hq]⟩
      replace hs1 : Hid _ := hs1
      clear hAJ
      gi_wp2
      clear e0
      gi_loopw [12] (fun i wr => ∃ q : Nat, q ≤ J ∧ i = .int .i64 q ∧ (∃ pre, allL J (aJ + q) pre ∧ Jv pre wr) ∧ KeepB B W wr)
        (fun i _ => J - (intOf i).toNat)
      case atStart => exact ⟨0, Nat.zero_le _, rfl, hJs, hnx⟩
      case round =>
        clear hJs hnx
        obtain ⟨q, hq, rfl, ⟨pre, hpre, hJq⟩, hnq⟩ := hrel
        by_cases hlq : q < J
        · have hqI : (q : Int) < (J : Int) := by omega
          obtain ⟨d1, d2⟩ := hdm.out q hlq
          have hx : aJ + q < J * J := by omega
          obtain ⟨fn, tmps, assign, body, hy, hR⟩ := hY pre ⟨aJ + q, hx⟩ wr hJq (by rw [allL_len hpre]; omega)
          simp only [enc, lxn, lyn, d1, d2] at hy
          have hsn : Hid (allL J (aJ + (q + 1)) (pre ++ [⟨aJ + q, hx⟩])) := allL_snoc hpre rfl
          clear d1 d2
          replace hpre : Hid _ := hpre
          gi_wp2
          refine hR.mono ?_
          rintro e W3 (⟨rfl, hJ3, hk3⟩ | ⟨rfl, hJx3⟩)
          · gi_wp2
            go_roundw
            case rel => exact ⟨q + 1, by omega, by simp, ⟨_, hsn.out, hJ3⟩, hnq.trans hk3⟩
            case measure => simp [intOf]; omega
          · gi_wp2
            refine bodyPost_ret (results_none rfl _ _ _) rfl ?_
            exact ⟨⟨_, rfl⟩, .inr ⟨_, ⟨_, by omega, hsn.out⟩, hJx3⟩⟩
        · obtain rfl : q = J := by omega
          gi_wp2
          go_roundw
          case rel => exact ⟨a + 1, by omega, by simp, ⟨pre, by rw [hs1.out]; exact hpre, hJq⟩, hnq⟩
          case measure => simp [intOf]; omega
    · obtain rfl : a = J := by omega
      obtain ⟨pre, hpre, hJq⟩ := hJs
      gi_wp2
      go_end0
      exact ⟨⟨_, rfl⟩, .inl ⟨pre, hpre, hJq⟩⟩

theorem lates_stops (n : Nat) (hn : 1 ≤ n) (B J : Nat) (hJ : J ≤ 4) (j : Int) (hj : j + 1 = (J : Int)) (w : World) (h1 : w.cell? ⟨B, 0, none⟩ = some (.int .i64 j)) :
    SeqStopsK Fence.wide n Tryz.prog 116 #[.pointer (some ⟨B, 0, none⟩)] enc (KeepB B) (fun ys => allL J (J * J) ys) (fun pre => ∃ m, m ≤ J * J ∧ allL J m pre) 17 w := fun l Jv Jx W hW _ _ hY h0 =>
  lates1_in n hn l B J hJ j hj Jv Jx hY W ((hW.cell (p := ⟨B, 0, none⟩) (block_lt h1)).trans h1) h0

end Go.Proofs.YtjageagnclmnjabGreatDoor.D

namespace Go.Proofs.YtjageagnclmnjabGreatDoor.D
open Go.RowKit K
set_option linter.unusedVariables false

/-- behind the rounds of pre -/
def gx (r : Ru) (k : Nat) (x : Sx) (G : Gs) (pre : List (Fin (jj r * jj r))) : Gs := (pre.map Fin.val).foldl (g1 r k x) G
theorem gx_snoc (r : Ru) (k : Nat) (x : Sx) (G : Gs) (pre : List (Fin (jj r * jj r))) (n : Fin (jj r * jj r)) : gx r k x G (pre ++ [n]) = g1 r k x (gx r k x G pre) n.1 := by
  unfold gx
  rw [List.map_append, List.foldl_append]; rfl
theorem gx_all {r : Ru} {k : Nat} {x : Sx} (h : (ga r (k * ee r)).L[k]? = some x) {m : Nat} (hm : m ≤ ee r) {pre : List (Fin (jj r * jj r))} (hp : allL (jj r) m pre) : gx r k x (ga r (k * ee r)) pre = ga r (k * ee r + m) := by
  unfold gx
  rw [hp]
  exact (ga_range h m hm).1
structure Gk (r : Ru) (k : Nat) (x : Sx) (G : Gs) : Prop where
  nd : G.L.Nodup
  rt : ∀ s ∈ G.L, pright r s
  fl : G.F.length = G.L.length
  xk : G.L[k]? = some x
theorem Gk.step {r : Ru} {k : Nat} {x : Sx} {G : Gs} (h : Gk r k x G) {n : Nat} (hn : n < ee r) (hr : ranges r) : Gk r k x (g1 r k x G n) := by
  refine ⟨nx_nodup h.nd _, fun s hs => ?_, ?_, nx_old h.xk⟩
  · have hs : s ∈ YtjageagnclmnjabGreatDoor.nx G.L (sp r x n) := hs
    unfold YtjageagnclmnjabGreatDoor.nx at hs
    split at hs
    · exact h.rt s hs
    · rcases List.mem_append.1 hs with q | q
      · exact h.rt s q
      · obtain rfl : s = sp r x n := by simpa using q
        exact step_right (h.rt x (List.mem_of_getElem? h.xk)) (sp_lates hr hn)
  · show (if _ then _ else _ : List Nat).length = (YtjageagnclmnjabGreatDoor.nx _ _).length
    unfold YtjageagnclmnjabGreatDoor.nx
    split
    · exact h.fl
    · simp [h.fl]
theorem g1_in {r : Ru} {k n : Nat} {x : Sx} {G : Gs} (h : sp r x n ∈ G.L) : g1 r k x G n = ⟨G.L, G.S ++ [⟨k, ix G.L (sp r x n), n, (K.round r x).c0, (K.round r x).c1⟩], G.F⟩ := by
  unfold g1 YtjageagnclmnjabGreatDoor.nx
  rw [if_pos h, if_pos h]
theorem g1_out {r : Ru} {k n : Nat} {x : Sx} {G : Gs} (h : sp r x n ∉ G.L) : g1 r k x G n = ⟨G.L ++ [sp r x n], G.S ++ [⟨k, G.L.length, n, (K.round r x).c0, (K.round r x).c1⟩], G.F ++ [G.S.length]⟩ := by
  unfold g1 YtjageagnclmnjabGreatDoor.nx
  rw [if_neg h, if_neg h, ix_not h]
theorem gx_len (r : Ru) (k : Nat) (x : Sx) (G : Gs) (pre : List (Fin (jj r * jj r))) : (gx r k x G pre).S.length = G.S.length + pre.length := by
  unfold gx
  induction pre generalizing G with
  | nil => rfl
  | cons n pre ih => rw [List.map_cons, List.foldl_cons, ih]; simp [g1]; omega
theorem Live.more {r : Ru} {k : Nat} {x : Sx} (hL : Live (sp r) (ee r) (K.start r) (k * ee r)) (h : (ga r (k * ee r)).L[k]? = some x) : ∀ m, m ≤ ee r → Live (sp r) (ee r) (K.start r) (k * ee r + m) := by
  intro m
  induction m with
  | zero => intro _; exact hL
  | succ m ih =>
    intro hm t ht
    rcases Nat.lt_or_ge t (k * ee r + m) with q | q
    · exact ih (by omega) t q
    · have et : t = k * ee r + m := by omega
      subst et
      have hx := (ga_range h m (by omega)).2
      rw [ga_L] at hx
      have hk : k < (xp r (k * ee r + m)).1.length := (List.getElem?_eq_some_iff.1 hx).1
      have : (k + 1) * ee r ≤ (xp r (k * ee r + m)).1.length * ee r := Nat.mul_le_mul_right _ hk
      rw [Nat.add_mul, Nat.one_mul] at this
      show k * ee r + m < ee r * (xp r (k * ee r + m)).1.length
      rw [Nat.mul_comm (ee r)]
      omega
theorem Gk.start {r : Ru} {k : Nat} {x : Sx} (h : kinds r ∧ ranges r) (hL : Live (sp r) (ee r) (K.start r) (k * ee r)) (hx : (ga r (k * ee r)).L[k]? = some x) : Gk r k x (ga r (k * ee r)) := by
  refine ⟨by rw [ga_L]; exact ex_nodup hL, by rw [ga_L]; exact xp_right h _, by rw [ga_L]; exact (ga_F hL).1, hx⟩

end Go.Proofs.YtjageagnclmnjabGreatDoor.D

namespace Go.Proofs.YtjageagnclmnjabGreatDoor.D
set_option maxRecDepth 100000
open Go.RowKit K
set_option linter.unusedVariables false

def kI (w : World) (C M Fr B : Nat) (g : Nat) : Prop := kS w C M g ∨ g = Fr ∨ g = B
section
variable {w : World} {r : Ru} {C M : Nat} {K' : Nat → Prop} {Ds : List Nat} {v : Nat → Value} {G : Gs} {W W' : World}
/-- .. and so is a pair -/
theorem Sr.pair (h : Sr w r C M K' Ds v G W) {g1 : Nat} {cs : Array Value} {fr : Nat × Nat} (hg : W.heap[g1]? = some (.cells cs 67 fr)) : Sr w r C M (fun g => K' g ∨ g = g1) Ds v G W := by
  refine ⟨h.rul, h.res, h.er, ⟨h.fnd.cf, h.fnd.cm, h.fnd.f, ⟨h.fnd.fam.own, h.fnd.fam.ap, fun g q => ?_, h.fnd.fam.sz⟩, .inl h.fnd.kC, .inl h.fnd.kM, h.fnd.map, h.fnd.b0⟩, fun g q => .inl (h.kin g q), h.cc, h.nd, h.df, h.below⟩
  rcases q with q | rfl
  · exact h.fnd.fam.kb g q
  · refine ⟨(Array.getElem?_eq_some_iff.1 hg).1, fun c hc e => ?_⟩
    obtain ⟨_, ⟨q, _⟩ | ⟨g', cap, cu, q, _, hh, _⟩⟩ := h.fnd.fam.own c hc
    · rw [q] at e; cases e
    · rw [q] at e
      have : g' = g := by simpa [Value.ownBlock] using e
      subst this
      rw [hg] at hh
      injection hh with hh
      injection hh with _ hh _
      rcases (show c = 0 ∨ c = 1 ∨ c = 2 by omega) with rfl | rfl | rfl <;> cases hh
theorem Sr.mark (h : Sr w r C M K' Ds v G W) {D : Nat} (h1 : D ≠ M) (h2 : w.heap.size ≤ D) (h3 : W.heap[D]? = some (.deferred (some []))) (h4 : D ∉ Ds) : Sr w r C M K' (D :: Ds) v G W :=
  ⟨h.rul, h.res, h.er, h.fnd, h.kin, h.cc, List.nodup_cons.2 ⟨h4, h.nd⟩, fun D' hD => by
    rcases List.mem_cons.1 hD with rfl | q
    · exact ⟨h1, h2, h3⟩
    · exact h.df D' q, h.below⟩
end
/-- between two rounds -/
structure Ir (w : World) (r : Ru) (C M Fr B k : Nat) (x : Sx) (Ds : List Nat) (v : Nat → Value) (G : Gs) (W : World) : Prop where
  s : Sr w r C M (kI w C M Fr B) Ds v G W
  fr : Bx1 W Fr (.int .i64 (k : Int))
  bj : Bx1 W B (.int .i64 r.j)
  g : Gk r k x G
  l : G.L.length ≤ 300
theorem Ir.kept {w : World} {r : Ru} {C M Fr B k : Nat} {x : Sx} {Ds : List Nat} {v : Nat → Value} {G : Gs} {W W' : World} (h : Ir w r C M Fr B k x Ds v G W) (b : Below W.heap.size W W') : Ir w r C M Fr B k x Ds v G W' :=
  ⟨h.s.kept b, h.fr.same (b.block _ h.fr.lt), h.bj.same (b.block _ h.bj.lt), h.g, h.l⟩
/-- a round has told that there are too many -/
structure Jr (w : World) (r : Ru) (M k : Nat) (x : Sx) (Ds : List Nat) (pre : List (Fin (jj r * jj r))) (W : World) : Prop where
  res : Res4 W (w.heap.size + 1) nil4
  er : Bx1 W (w.heap.size + 2) (.int .i64 4)
  fl : ∃ p0 x0, pre = p0 ++ [x0] ∧ (gx r k x (ga r (k * ee r)) p0).L.length = 300 ∧ sp r x x0.1 ∉ (gx r k x (ga r (k * ee r)) p0).L
  df : ∀ D ∈ Ds, w.heap.size ≤ D ∧ W.heap[D]? = some (.deferred (some []))
  below : Below w.heap.size w W
theorem Ir.own (w : World) (r : Ru) (C M Fr B k : Nat) (x : Sx) (Ds : List Nat) (N : Nat) (hw : w.heap.size ≤ N) (hM : M < N) (hD : ∀ D ∈ Ds, D < N) (G : List (Fin (jj r * jj r)) → Gs) : OwnFrom N (fun pre W => ∃ v, Ir w r C M Fr B k x Ds v (G pre) W) := by
  rintro pre W W' row ⟨v, h⟩ hg hr
  have hr2 : ∀ y, row = some y → ∃ o : Obj, W.heap[y]? = some o ∧ o.isCells = false := fun y e => (hr y e).2
  refine ⟨v, h.s.turn hg (fun y e => ⟨⟨fun q => ?_, fun q => ?_, ?_⟩, (hr y e).2⟩), h.fr.same (block_turn hg hr2 (a := ⟨Fr, 0, none⟩) h.fr.c), h.bj.same (block_turn hg hr2 (a := ⟨B, 0, none⟩) h.bj.c), h.g, h.l⟩
  · have := (hr y e).1; omega
  · have := (hr y e).1; have := hD y q; omega
  · have := (hr y e).1; omega
theorem Jr.own (w : World) (r : Ru) (M k : Nat) (x : Sx) (Ds : List Nat) (c : Code) (N : Nat) (hw : w.heap.size ≤ N) (hD : ∀ D ∈ Ds, D < N) : OwnFrom N (fun pre W => c = .ret ∧ Jr w r M k x Ds pre W) := by
  rintro pre W W' row ⟨hc, h⟩ hg hr
  have hr2 : ∀ y, row = some y → ∃ o : Obj, W.heap[y]? = some o ∧ o.isCells = false := fun y e => (hr y e).2
  refine ⟨hc, h.res.same (block_turn hg hr2 (a := ⟨w.heap.size + 1, 0, none⟩) (h.res.c 0 (by omega)).1), h.er.same (block_turn hg hr2 (a := ⟨w.heap.size + 2, 0, none⟩) h.er.c), h.fl, fun D hd => ⟨(h.df D hd).1, ?_⟩, h.below.grown hg h.below.size (fun y e => by have := (hr y e).1; omega)⟩
  have := (h.df D hd).2
  exact (hg.block D (Array.getElem?_eq_some_iff.1 this).1 (fun q => by have := (hr D q.symm).1; have := hD D hd; omega)).trans this
/-- the late pair of a round -/
def Lp (W : World) (Bl : Nat) (a b : Int) : Prop := W.heap[Bl]? = some (.cells #[.int .i64 a, .int .i64 b] 67 (0, 0))
theorem Lp.cells {W : World} {Bl : Nat} {a b : Int} (h : Lp W Bl a b) : W.cell? ⟨Bl, 0, none⟩ = some (.int .i64 a) ∧ W.cell? ⟨Bl, 1, none⟩ = some (.int .i64 b) := by
  unfold Lp at h
  simp [World.cell?, h]
theorem Lp.turn {W W' : World} {Bl : Nat} {a b : Int} (h : Lp W Bl a b) {row : Option Nat} (hg : W.grownBy W' row) (hr : ∀ x, row = some x → ∃ o : Obj, W.heap[x]? = some o ∧ o.isCells = false) : Lp W' Bl a b := cell_turn hg hr h rfl
theorem Lp.new (W : World) (a b : Int) : Lp (W.alloc (.cells #[.int .i64 a, .int .i64 b] 67)) W.heap.size a b := by
  show (W.heap.push _)[W.heap.size]? = _; simp
/-- where the loop stands -/
def frOf (a : Act) (W : World) : Nat := match a.tmps.getD 7 undef with
  | .pointer (some p) => ((W.cell? p).map fun u => (intOf u).toNat).getD 0
  | _ => 0

end Go.Proofs.YtjageagnclmnjabGreatDoor.D

namespace Go.Proofs.YtjageagnclmnjabGreatDoor.D
set_option maxRecDepth 100000
open Go.RowKit K
set_option linter.unusedVariables false
section
variable {P : Program} {ops : Array Oper} {Q : Exit → Act → World → Prop} {md : Region.Mode}
theorem wpOp_in {l n i : Nat} {K : Act → World → Prop} {a : Act} {w : World} (hnd : ∀ (i : Nat) (o : Oper), ops[i]? = some o → ∀ c, o.op ≠ .defer c) (hno : ¬ LetsOut Q) (h : wpOp P ops Q i K a w) : wpOpIn (Fence.wide.inRound l) n P ops Q i K a w := by
  unfold wpOp at h
  unfold wpOpIn
  cases ho : ops[i]? with
  | none => rw [ho] at h; exact h
  | some o =>
    rw [ho] at h
    simp only at h ⊢
    split
    · rename_i hw
      rw [if_pos hw] at h
      have h := h.resolve_right fun q => hno q.2
      unfold Oper.wp at h
      unfold Oper.wpIn
      refine ⟨fun f _ => trivial, ?_⟩
      rw [Fence.inRound_round, Oper.semAt_some l _ _ (hnd i o ho)]
      generalize (execOp a.eval o).run P w = r at *
      cases r with
      | ok x w' =>
        cases x <;> simp only [Oper.upon, Oper.uponIn] at h ⊢
        case value v => exact h
        case skip => exact h
        case defer d => exact h
        case enter f args =>
          refine ⟨fun q => (by cases q), CallsIn.inRound l (callsIn_wide.2 ?_)⟩
          exact h
        case row row args =>
          refine ⟨fun q => (by cases q), ?_⟩
          intro c cs hr
          obtain ⟨v, w', r1, r2⟩ := h c cs
          exact ⟨v, w', r1, stepsIn_wide.2 r2⟩
      | halt x w' => cases x <;> simp only [Oper.upon, Oper.uponIn] at h ⊢ <;> exact h
    · rename_i hw
      rw [if_neg hw] at h
      exact ⟨fun f _ => trivial, h⟩
theorem wpAny_in {l n : Nat} (hnd : ∀ (i : Nat) (o : Oper), ops[i]? = some o → ∀ c, o.op ≠ .defer c) (hno : ¬ LetsOut Q) : ∀ (fuel : Nat) (L : Array Bool) (a : Act) (w : World), wpAny P md ops Q fuel L a w → wpAnyIn (Fence.wide.inRound l) n P md ops Q fuel L a w := by
  intro fuel
  induction fuel with
  | zero => intro L a w h; exact h
  | succ fuel ih =>
    intro L a w h
    exact ⟨h.1, fun i hi => wpOpIn_mono (fun a w q => ih _ a w q) (wpOp_in hnd hno (h.2 i hi))⟩
theorem wpIn_region_slots {l' n : Nat} {id : Nat} {a0 : Act} {w : World} (hnd : ∀ (i : Nat) (o : Oper), ops[i]? = some o → ∀ c, o.op ≠ .defer c) (hno : ¬ LetsOut Q) (hm : P.follows .mixedOrders = true) (l : List Nat) (J : Array Bool → (Nat → Value) → World → Prop) (h0 : J (Array.replicate ops.size false) (fun s => a0.tmps.getD s undef) w.drew)
    (hstep : ∀ L y w', J L y w' → ∀ i, i ∈ Region.ready .any ops L → wpOp P ops Q i (fun a' w'' => ∃ y', a' = tA a0 l y' ∧ J (L.setIfInBounds i true) y' w'') (tA a0 l y) w')
    (hend : ∀ L y w', J L y w' → Region.ready .any ops L = [] → Q .normal (tA a0 l y) w') : (Code.region id ops true).wpIn (Fence.wide.inRound l') n P Q a0 w := by
  refine wpIn_region_any hm (wpAny_in hnd hno _ _ _ _ (wpAny_inv (fun L a w' => ∃ y, a = tA a0 l y ∧ J L y w') (fun L a w' ⟨y, ha, hJ⟩ i hi => ?_) (fun L a w' ⟨y, ha, hJ⟩ hr => ?_) _ _ _ _ (left_all ops) ⟨_, tA_id a0 l, h0⟩))
  · subst ha; exact hstep L y w' hJ i hi
  · subst ha; exact hend L y w' hJ hr
end
end Go.Proofs.YtjageagnclmnjabGreatDoor.D
