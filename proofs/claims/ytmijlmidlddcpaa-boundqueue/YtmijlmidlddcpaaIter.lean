/- PROVED: what both hands back, and what it gives round by round. CONDITIONS: none beyond each theorem's own. -/
import Derived.Test.YtmijlmidlddcpaaSmall
import Derived.RangeFuncBox
import Derived.RangeFuncNested
import Derived.RangeFuncBound
import Derived.RangeFuncCalls
import Derived.RangeFuncLeaves
import Derived.Shelf.Abstract
import Derived.Shelf.RegionOpen
import Derived.WalkKit
import Derived.OwnWalkIn
import Derived.TacticsInMore
import Derived.LoopNIn
import Derived.LoopIn
import Derived.Maps.AppendAt
namespace Go.Proofs.Ytmijlmidlddcpaa
open Go.RowKit Go.Shelf

attribute [local go_sem] Oper.semAt_some

/-- both numbers at each of the first k ticks -/
def prs (f g : List Int) (k : Nat) : List (Int × Int) := (List.range k).map fun t => (f.getD t 0, g.getD t 0)
theorem prs_len (f g : List Int) (k : Nat) : (prs f g k).length = k := by simp [prs]
theorem prs_succ (f g : List Int) (k : Nat) : prs f g (k + 1) = prs f g k ++ [(f.getD k 0, g.getD k 0)] := by simp [prs, List.range_succ]
abbrev two (p : Int × Int) : Array Value := #[.int .i64 p.1, .int .i64 p.2]

theorem both_any (a1 a2 : Option Addr) (n1 n2 c1 c2 : Nat) (w : World) :
    Calls Try.prog 47 #[.slice a1 n1 c1, .slice a2 n2 c2] w fun e w' => e = .returned (.func (.func 53) #[] #[.pointer (some ⟨w.heap.size, 0, none⟩), .pointer (some ⟨w.heap.size + 1, 0, none⟩)]) ∧ w' = (w.alloc (.cells #[.slice a1 n1 c1] 22)).alloc (.cells #[.slice a2 n2 c2] 22) := by
  go_enter Try.func47, Try.ntmps47
  go_wp2
  go_ret
  exact ⟨rfl, rfl⟩

theorem told {e : Ending} {A C : Prop} (h : (e = .returned (.bool true) ∧ A) ∨ (e = .returned (.bool false) ∧ C)) : ∃ bb, e = .returned (.bool bb) ∧ ((bb = true ∧ A) ∨ (bb = false ∧ C)) := by
  rcases h with ⟨rfl, h⟩ | ⟨rfl, h⟩
  · exact ⟨true, rfl, .inl ⟨rfl, h⟩⟩
  · exact ⟨false, rfl, .inr ⟨rfl, h⟩⟩

/-- a slice that holds zs, below block n₀ -/
def RowB (n₀ : Nat) (w : World) (ao : Option Addr) (zs : List Int) : Prop :=
  zs = [] ∨ ∃ b off, ao = some ⟨b, off, none⟩ ∧ b < n₀ ∧ ∀ j, j < zs.length → w.cell? ⟨b, off + j, none⟩ = some (.int .i64 (zs.getD j 0))
theorem RowB.at {n₀ : Nat} {w : World} {ao : Option Addr} {zs : List Int} (h : RowB n₀ w ao zs) (hp : 0 < zs.length) : ∃ b off, ao = some ⟨b, off, none⟩ ∧ b < n₀ ∧ ∀ j, j < zs.length → w.cell? ⟨b, off + j, none⟩ = some (.int .i64 (zs.getD j 0)) := by
  rcases h with e | e
  · subst e; simp at hp
  · exact e
theorem Row.rowB {w w' : World} {ao : Option Addr} {zs : List Int} (h : Row w ao zs) (hb : Below w.heap.size w w') : RowB w.heap.size w' ao zs := by
  rcases h with e | ⟨b, off, rfl, k⟩
  · exact .inl e
  · by_cases hz : zs.length = 0
    · exact .inl (List.eq_nil_of_length_eq_zero hz)
    · have hl := block_lt (k 0 (by omega))
      exact .inr ⟨b, off, rfl, hl, fun j hj => (hb.cell (p := ⟨b, off + j, none⟩) hl).trans (k j hj)⟩

theorem RowB.below {n₀ : Nat} {w w' : World} {ao : Option Addr} {zs : List Int} (h : RowB n₀ w ao zs) (hn : n₀ ≤ w.heap.size) (hb : Below w.heap.size w w') : RowB n₀ w' ao zs := by
  rcases h with e | ⟨b, off, rfl, hl, k⟩
  · exact .inl e
  · exact .inr ⟨b, off, rfl, hl, fun j hj => (hb.cell (p := ⟨b, off + j, none⟩) (Nat.lt_of_lt_of_le hl hn)).trans (k j hj)⟩

/-- what a round keeps: all below n₀, and the two boxes -/
def Keep2 (n₀ B1 B2 : Nat) (W W' : World) : Prop := Below n₀ W W' ∧ W'.cell? ⟨B1, 0, none⟩ = W.cell? ⟨B1, 0, none⟩ ∧ W'.cell? ⟨B2, 0, none⟩ = W.cell? ⟨B2, 0, none⟩
theorem Keep2.refl (n₀ B1 B2 : Nat) (W : World) : Keep2 n₀ B1 B2 W W := ⟨Below.refl _ _, rfl, rfl⟩
theorem Keep2.trans {n₀ B1 B2 : Nat} {A B C : World} (h : Keep2 n₀ B1 B2 A B) (k : Keep2 n₀ B1 B2 B C) : Keep2 n₀ B1 B2 A C := ⟨h.1.trans k.1, k.2.1.trans h.2.1, k.2.2.trans h.2.2⟩
theorem Keep2.drew (n₀ B1 B2 : Nat) (W : World) : Keep2 n₀ B1 B2 W W.drew := ⟨(Below.refl _ _).drew, rfl, rfl⟩
theorem keep2_b {n₀ B1 B2 : Nat} {w : World} (hn : n₀ ≤ w.heap.size) (h1 : B1 < w.heap.size) (h2 : B2 < w.heap.size) (W : World) (l : Nat) (o o' : Obj) (hl : w.heap.size ≤ l) (h : W.heap[l]? = some o) (hc : o.isCells = false) (hw : o.isWalk = false) : Keep2 n₀ B1 B2 W (W.putObj l o') := by
  have hb := belowK_b (w := w) (Nat.le_refl _) W l o o' hl h hc hw
  exact ⟨hb.mono hn, hb.cell (p := ⟨B1, 0, none⟩) h1, hb.cell (p := ⟨B2, 0, none⟩) h2⟩

set_option maxRecDepth 100000 in
set_option maxHeartbeats 2000000 in
theorem both1_in (n : Nat) (hn : 1 ≤ n) (l B1 B2 n₀ : Nat) (a1 a2 : Option Addr) (c1 c2 : Nat) (f g : List Int) (hf : f.length ≤ 17592186044416) (hg : g.length ≤ 17592186044416) (J Jx : List (Int × Int) → World → Prop)
    (hJd : ∀ pre W, J pre W → J pre W.drew)
    (hY : ∀ pre x W, J pre W → pre.length < min f.length g.length → YieldAt Fence.wide (n - 1) Try.prog l (two x) W fun e W' =>
      (e = .returned (.bool true) ∧ J (pre ++ [x]) W' ∧ Keep2 n₀ B1 B2 W W') ∨ (e = .returned (.bool false) ∧ Jx (pre ++ [x]) W'))
    (W : World) (h1 : W.cell? ⟨B1, 0, none⟩ = some (.slice a1 f.length c1)) (h2 : W.cell? ⟨B2, 0, none⟩ = some (.slice a2 g.length c2))
    (k1 : RowB n₀ W a1 f) (k2 : RowB n₀ W a2 g) (h0 : J [] W) :
    CallsIn Fence.wide n Try.prog 53 #[.func (.yield l) #[] #[], .pointer (some ⟨B1, 0, none⟩), .pointer (some ⟨B2, 0, none⟩)] W fun e W' => (∃ v, e = .returned v) ∧
      ((∃ ys, ys = prs f g (min f.length g.length) ∧ J ys W') ∨ (∃ pre, (∃ k, k < min f.length g.length ∧ pre = prs f g (k + 1)) ∧ Jx pre W')) := by
  refine callsIn_of_wp Try.func53 rfl trivial ?_ rfl
  simp only [Try.ntmps53, List.size_toArray, List.length_cons, List.length_nil, Nat.reduceAdd, Nat.reduceSub, Array.replicate_succ, Array.replicate_zero, List.push_toArray, List.append_toArray, List.nil_append, List.cons_append]
  have hm : min (f.length : Int) g.length = ((min f.length g.length : Nat) : Int) := by omega
  have hmx : Try.prog.follows .mixedOrders = true := by kernel_rfl
  obtain ⟨m, hmm⟩ : ∃ m, min f.length g.length = m := ⟨_, rfl⟩
  rw [hmm] at hm hY ⊢
  gi_wp2
  gi_loopw [10] (fun i wr => ∃ k : Nat, k ≤ m ∧ i = .int .i64 k ∧ J (prs f g k) wr ∧ Keep2 n₀ B1 B2 W wr)
    (fun i _ => m - (intOf i).toNat)
  case atStart => exact ⟨0, Nat.zero_le _, rfl, h0, Keep2.refl _ _ _ _⟩
  case round =>
    obtain ⟨k, hk, rfl, hJs, hnx⟩ := hrel
    by_cases hlt : k < m
    · obtain ⟨b1, o1, rfl, hb1, k1⟩ := k1.at (by omega)
      obtain ⟨b2, o2, rfl, hb2, k2⟩ := k2.at (by omega)
      have h1' := hnx.2.1.trans h1
      have h2' := hnx.2.2.trans h2
      have hlf : (k : Int) < f.length := by omega
      have hlg : (k : Int) < g.length := by omega
      have k1' : wr.cell? ⟨b1, o1 + k, none⟩ = some (.int .i64 (f.getD k 0)) := (hnx.1.cell (p := ⟨b1, o1 + k, none⟩) hb1).trans (k1 k (by omega))
      have k2' : wr.cell? ⟨b2, o2 + k, none⟩ = some (.int .i64 (g.getD k 0)) := (hnx.1.cell (p := ⟨b2, o2 + k, none⟩) hb2).trans (k2 k (by omega))
      have hts : Hid (prs f g (k + 1) = prs f g k ++ [(f.getD k 0, g.getD k 0)]) := prs_succ f g k
      generalize f.getD k 0 = x at k1' hts
      generalize g.getD k 0 = y at k2' hts
      obtain ⟨fn, tmps, assign, body, hy, hR⟩ := hY _ (x, y) wr.drew (hJd _ _ hJs) (by rw [prs_len]; exact hlt)
      dsimp only [two] at hy
      clear k1 k2 hY h1 h2
      gi_wp2
      gi_region_with_o (refine hR.mono ?_; intro e W3 hW3; obtain ⟨bb, rfl, hbb⟩ := told hW3; clear hW3 hy hR)
      all_goals
        rcases hbb with ⟨rfl, hJ3, hk3⟩ | ⟨rfl, hJx3⟩
        · gi_wp2
          go_roundw
          case rel => exact ⟨k + 1, by omega, by simp, by rw [hts.out]; exact hJ3, hnx.trans ((Keep2.drew _ _ _ _).trans hk3)⟩
          case measure => simp [intOf]; omega
        · gi_wp2
          refine bodyPost_ret (results_none rfl _ _ _) rfl ?_
          exact ⟨⟨_, rfl⟩, .inr ⟨_, ⟨k, hlt, rfl⟩, by rw [hts.out]; exact hJx3⟩⟩
    · obtain rfl : k = m := by omega
      gi_wp2
      go_end0
      exact ⟨⟨_, rfl⟩, .inl ⟨_, rfl, hJs⟩⟩

theorem both_stops (n : Nat) (hn : 1 ≤ n) (B1 B2 n₀ : Nat) (a1 a2 : Option Addr) (c1 c2 : Nat) (f g : List Int) (hf : f.length ≤ 17592186044416) (hg : g.length ≤ 17592186044416) (w : World) (hB1 : B1 < w.heap.size) (hB2 : B2 < w.heap.size) (hn₀ : n₀ ≤ w.heap.size)
    (h1 : w.cell? ⟨B1, 0, none⟩ = some (.slice a1 f.length c1)) (h2 : w.cell? ⟨B2, 0, none⟩ = some (.slice a2 g.length c2)) (k1 : RowB n₀ w a1 f) (k2 : RowB n₀ w a2 g) :
    SeqStopsK Fence.wide n Try.prog 53 #[.pointer (some ⟨B1, 0, none⟩), .pointer (some ⟨B2, 0, none⟩)] two (Keep2 n₀ B1 B2) (fun ys => ys = prs f g (min f.length g.length)) (fun pre => ∃ k, k < min f.length g.length ∧ pre = prs f g (k + 1)) (min f.length g.length) w := fun l J Jx W hW hJ _ hY h0 =>
  both1_in n hn l B1 B2 n₀ a1 a2 c1 c2 f g hf hg J Jx (fun pre V hV => hJ pre V _ none hV ⟨rfl, rfl, rfl, Nat.le_refl _, fun _ _ _ => rfl⟩ (fun r e => by cases e)) hY W ((hW.cell (p := ⟨B1, 0, none⟩) hB1).trans h1) ((hW.cell (p := ⟨B2, 0, none⟩) hB2).trans h2)
    (k1.below hn₀ hW) (k2.below hn₀ hW) h0

end Go.Proofs.Ytmijlmidlddcpaa
