/- PROVED: what the function that flowsInRow hands back gives, round by round: the row of packets. CONDITIONS: none beyond each theorem's own. -/
import Derived.Test.YtobgjnjndkfjoaaKRight
import Derived.RangeFuncBox
import Derived.RangeFuncNested
import Derived.RangeFuncBound
import Derived.RangeFuncCalls
import Derived.RangeFuncLeaves
import Derived.Shelf.Abstract
import Derived.Shelf.RegionOpen
import Derived.WalkKit
import Derived.OwnWalkIn
import Derived.TacticsInMore
import Derived.LoopNIn
import Derived.LoopIn
namespace Go.Proofs.Ytobgjnjndkfjoaa.K
open Go.RowKit Go.Shelf

attribute [local go_sem] Oper.semAt_some idx0 idx1

abbrev num (x : Bool) : Array Value := #[.int .i64 (if x then 1 else 0)]

/-- what a round keeps: both boxes -/
def Keep (B1 B2 : Nat) (W W' : World) : Prop := (∀ o, W'.cell? ⟨B1, o, none⟩ = W.cell? ⟨B1, o, none⟩) ∧ ∀ o, W'.cell? ⟨B2, o, none⟩ = W.cell? ⟨B2, o, none⟩
theorem Keep.refl (B1 B2 : Nat) (W : World) : Keep B1 B2 W W := ⟨fun _ => rfl, fun _ => rfl⟩
theorem Keep.trans {B1 B2 : Nat} {A B C : World} (h : Keep B1 B2 A B) (k : Keep B1 B2 B C) : Keep B1 B2 A C := ⟨fun o => (k.1 o).trans (h.1 o), fun o => (k.2 o).trans (h.2 o)⟩
theorem keep_b {B1 B2 : Nat} {w : World} (h1 : B1 < w.heap.size) (h2 : B2 < w.heap.size) (W : World) (l : Nat) (o o' : Obj) (hl : w.heap.size ≤ l) (h : W.heap[l]? = some o) (hc : o.isCells = false) (hw : o.isWalk = false) : Keep B1 B2 W (W.putObj l o') := by
  have hb := belowK_b (w := w) (Nat.le_refl _) W l o o' hl h hc hw
  exact ⟨fun j => hb.cell (p := ⟨B1, j, none⟩) h1, fun j => hb.cell (p := ⟨B2, j, none⟩) h2⟩

theorem hidden {p : Prop} (h : p) : Hid p := h
theorem rep_succ (x : Bool) (q : Nat) : List.replicate (q + 1) x = List.replicate q x ++ [x] := List.replicate_succ'

set_option maxRecDepth 100000 in
set_option maxHeartbeats 4000000 in
theorem flows1_in (n : Nat) (hn : 1 ≤ n) (l B1 B2 : Nat) (a b s t : Nat) (ha : a ≤ 16) (hb : b ≤ 16) (hs : s ≤ 16) (ht : t ≤ 16) (J Jx : List Bool → World → Prop)
    (hY : ∀ pre x W, J pre W → pre.length < 100 → YieldAt Fence.wide (n - 1) Try.prog l (num x) W fun e W' =>
      (e = .returned (.bool true) ∧ J (pre ++ [x]) W' ∧ Keep B1 B2 W W') ∨ (e = .returned (.bool false) ∧ Jx (pre ++ [x]) W'))
    (W : World) (c0 : W.cell? ⟨B1, 0, none⟩ = some (.int .i64 a)) (c1 : W.cell? ⟨B1, 1, none⟩ = some (.int .i64 b))
    (d0 : W.cell? ⟨B2, 0, none⟩ = some (.int .i64 s)) (d1 : W.cell? ⟨B2, 1, none⟩ = some (.int .i64 t)) (h0 : J [] W) :
    CallsIn Fence.wide n Try.prog 59 #[.func (.yield l) #[] #[], .pointer (some ⟨B1, 0, none⟩), .pointer (some ⟨B2, 0, none⟩)] W fun e W' => (∃ v, e = .returned v) ∧
      ((∃ ys, ys = pk a b s t ∧ J ys W') ∨ (∃ pre, True ∧ Jx pre W')) := by
  refine callsIn_of_wp Try.func59 rfl trivial ?_ rfl
  simp only [Try.ntmps59, List.size_toArray, List.length_cons, List.length_nil, Nat.reduceAdd, Nat.reduceSub, Array.replicate_succ, Array.replicate_zero, List.push_toArray, List.append_toArray, List.nil_append, List.cons_append]
  gi_wp2
  gi_loopw [10] (fun i wr => (i = .int .i64 0 ∧ J [] wr ∨ i = .int .i64 1 ∧ J (List.replicate a false) wr ∨ i = .int .i64 2 ∧ J (List.replicate a false ++ List.replicate b true) wr) ∧ Keep B1 B2 W wr)
    (fun i _ => 2 - (intOf i).toNat)
  case atStart => exact ⟨.inl ⟨rfl, h0⟩, Keep.refl _ _ _⟩
  case round =>
    obtain ⟨⟨rfl, hJs⟩ | ⟨rfl, hJs⟩ | ⟨rfl, hJs⟩, hnx⟩ := hrel
    · gi_wp2
      gi_loopw [15] (fun j wr => ∃ q : Nat, q ≤ a ∧ j = .int .i64 q ∧ J (List.replicate q false) wr ∧ Keep B1 B2 W wr)
        (fun j _ => a - (intOf j).toNat)
      case atStart => exact ⟨0, Nat.zero_le _, rfl, by simpa using hJs, hnx⟩
      case round =>
        obtain ⟨q, hq, rfl, hJq, hnq⟩ := hrel
        by_cases hlt : q < a
        · have hts : Hid (List.replicate (q + 1) false = List.replicate q false ++ [false]) := rep_succ false q
          obtain ⟨fn, tmps, assign, body, hy, hR⟩ := hY _ false wr hJq (by simp; omega)
          simp only [num, Bool.false_eq_true, if_false] at hy
          gi_wp2
          refine hR.mono ?_
          rintro e W3 (⟨rfl, hJ3, hk3⟩ | ⟨rfl, hJx3⟩)
          · gi_wp2
            go_roundw
            case rel => exact ⟨q + 1, by omega, by simp, by rw [hts.out]; exact hJ3, hnq.trans hk3⟩
            case measure => simp [intOf]; omega
          · gi_wp2
            refine bodyPost_ret (results_none rfl _ _ _) rfl ?_
            exact ⟨⟨_, rfl⟩, .inr ⟨_, trivial, hJx3⟩⟩
        · obtain rfl : q = a := by omega
          gi_wp2
          go_roundw
          case rel => exact ⟨.inr (.inl ⟨rfl, hJq⟩), hnq⟩
          case measure => simp [intOf]
    · gi_wp2
      gi_loopw [15] (fun j wr => ∃ q : Nat, q ≤ b ∧ j = .int .i64 q ∧ J (List.replicate a false ++ List.replicate q true) wr ∧ Keep B1 B2 W wr)
        (fun j _ => b - (intOf j).toNat)
      case atStart => exact ⟨0, Nat.zero_le _, rfl, by simpa using hJs, hnx⟩
      case round =>
        obtain ⟨q, hq, rfl, hJq, hnq⟩ := hrel
        by_cases hlt : q < b
        · have hts : Hid (List.replicate (q + 1) true = List.replicate q true ++ [true]) := rep_succ true q
          obtain ⟨fn, tmps, assign, body, hy, hR⟩ := hY _ true wr hJq (by simp; omega)
          simp only [num, if_true] at hy
          gi_wp2
          refine hR.mono ?_
          rintro e W3 (⟨rfl, hJ3, hk3⟩ | ⟨rfl, hJx3⟩)
          · gi_wp2
            go_roundw
            case rel => exact ⟨q + 1, by omega, by simp, by rw [hts.out]; rw [← List.append_assoc]; exact hJ3, hnq.trans hk3⟩
            case measure => simp [intOf]; omega
          · gi_wp2
            refine bodyPost_ret (results_none rfl _ _ _) rfl ?_
            exact ⟨⟨_, rfl⟩, .inr ⟨_, trivial, hJx3⟩⟩
        · obtain rfl : q = b := by omega
          gi_wp2
          go_roundw
          case rel => exact ⟨.inr (.inr ⟨rfl, hJq⟩), hnq⟩
          case measure => simp [intOf]
    · have e0 := (hnx.2 0).trans d0
      have e1 := (hnx.2 1).trans d1
      have hmx : max (s : Int) t = ((max s t : Nat) : Int) := by omega
      obtain ⟨P, hP⟩ : ∃ P, List.replicate a false ++ List.replicate b true = P := ⟨_, rfl⟩
      have hPl : P.length ≤ 32 := by rw [← hP]; simp; omega
      have hpk : Hid (pk a b s t = P ++ turns s t (max s t)) := by rw [← hP]; rfl
      rw [hP] at hJs
      obtain ⟨M, hM⟩ : ∃ M, max s t = M := ⟨_, rfl⟩
      rw [hM] at hmx hpk
      have hM1 : M ≤ 16 := by omega
      gi_wp2
      clear e0 e1
      gi_loopw [28] (fun i wr => ∃ k : Nat, k ≤ M ∧ i = .int .i64 k ∧ J (P ++ turns s t k) wr ∧ Keep B1 B2 W wr)
        (fun i _ => M - (intOf i).toNat)
      case atStart => exact ⟨0, Nat.zero_le _, rfl, by simpa [turns] using hJs, hnx⟩
      case round =>
        clear hJs hnx
        obtain ⟨k, hk, rfl, hJk, hnk⟩ := hrel
        by_cases hlt : k < M
        · have e0 := (hnk.2 0).trans d0
          have e1 := (hnk.2 1).trans d1
          have hTl : (P ++ turns s t k).length ≤ 64 := by rw [List.length_append, turns_len]; omega
          have hts : Hid (P ++ turns s t (k + 1) = (P ++ turns s t k) ++ turn (decide (k < s)) (decide (k < t))) := by rw [turns, List.append_assoc]; exact rfl
          obtain ⟨R, hR0⟩ : ∃ R, P ++ turns s t k = R := ⟨_, rfl⟩
          rw [hR0] at hJk hTl hts
          have hR1 : Hid (P ++ turns s t (k + 1) = (R ++ if k < s then [false] else []) ++ if k < t then [true] else []) := hidden (by
            rw [hts.out, turn, List.append_assoc]; simp)
          clear hts
          gi_wp2
          clear e0 e1
          gi_loopw [32] (fun j wr => (j = .int .i64 0 ∧ J R wr ∨ j = .int .i64 1 ∧ J (R ++ if k < s then [false] else []) wr ∨ j = .int .i64 2 ∧ J (P ++ turns s t (k + 1)) wr) ∧ Keep B1 B2 W wr)
            (fun j _ => 2 - (intOf j).toNat)
          case atStart => exact ⟨.inl ⟨rfl, hJk⟩, hnk⟩
          case round =>
            obtain ⟨⟨rfl, hJs⟩ | ⟨rfl, hJs⟩ | ⟨rfl, hJs⟩, hnx⟩ := hrel
            · by_cases hks : k < s
              · have hki : (k : Int) < s := by omega
                obtain ⟨fn, tmps, assign, body, hy, hR⟩ := hY _ false wr hJs (by omega)
                simp only [num, Bool.false_eq_true, if_false] at hy
                gi_wp2
                refine hR.mono ?_
                rintro e W3 (⟨rfl, hJ3, hk3⟩ | ⟨rfl, hJx3⟩)
                · gi_wp2
                  go_roundw
                  case rel => exact ⟨.inr (.inl ⟨rfl, by rw [if_pos hks]; exact hJ3⟩), hnx.trans hk3⟩
                  case measure => simp [intOf]
                · gi_wp2
                  refine bodyPost_ret (results_none rfl _ _ _) rfl ?_
                  exact ⟨⟨_, rfl⟩, .inr ⟨_, trivial, hJx3⟩⟩
              · have hki : decide ((k : Int) < s) = false := decide_eq_false (by omega)
                gi_wp2
                refine ⟨fun _ h => (by cases h), ?_⟩
                gi_wp2
                go_roundw
                case rel => exact ⟨.inr (.inl ⟨rfl, by rw [if_neg hks, List.append_nil]; exact hJs⟩), hnx⟩
                case measure => simp [intOf]
            · by_cases hks : k < t
              · have hki : (k : Int) < t := by omega
                obtain ⟨fn, tmps, assign, body, hy, hR⟩ := hY _ true wr hJs (by rw [List.length_append]; split <;> simp <;> omega)
                simp only [num, if_true] at hy
                gi_wp2
                refine hR.mono ?_
                rintro e W3 (⟨rfl, hJ3, hk3⟩ | ⟨rfl, hJx3⟩)
                · gi_wp2
                  go_roundw
                  case rel => exact ⟨.inr (.inr ⟨rfl, by rw [hR1.out, if_pos hks]; exact hJ3⟩), hnx.trans hk3⟩
                  case measure => simp [intOf]
                · gi_wp2
                  refine bodyPost_ret (results_none rfl _ _ _) rfl ?_
                  exact ⟨⟨_, rfl⟩, .inr ⟨_, trivial, hJx3⟩⟩
              · have hki : decide ((k : Int) < t) = false := decide_eq_false (by omega)
                gi_wp2
                refine ⟨fun _ h => (by cases h), ?_⟩
                gi_wp2
                go_roundw
                case rel => exact ⟨.inr (.inr ⟨rfl, by rw [hR1.out, if_neg hks, List.append_nil]; exact hJs⟩), hnx⟩
                case measure => simp [intOf]
            · gi_wp2
              go_roundw
              case rel => exact ⟨k + 1, by omega, by simp, hJs, hnx⟩
              case measure => simp [intOf]; omega
        · obtain rfl : k = M := by omega
          gi_wp2
          go_end0
          exact ⟨⟨_, rfl⟩, .inl ⟨_, hpk.out.symm, hJk⟩⟩

theorem flows_stops (n : Nat) (hn : 1 ≤ n) (B1 B2 : Nat) (a b s t : Nat) (ha : a ≤ 16) (hb : b ≤ 16) (hs : s ≤ 16) (ht : t ≤ 16) (w : World) (h1 : Arr w B1 a b) (h2 : Arr w B2 s t) :
    SeqStopsK Fence.wide n Try.prog 59 #[.pointer (some ⟨B1, 0, none⟩), .pointer (some ⟨B2, 0, none⟩)] num (Keep B1 B2) (fun ys => ys = pk a b s t) (fun _ => True) 100 w := fun l J Jx W hW _ _ hY h0 =>
  have k1 := h1.kept hW
  have k2 := h2.kept hW
  flows1_in n hn l B1 B2 a b s t ha hb hs ht J Jx hY W k1.c0 k1.c1 k2.c0 k2.c1 h0

end Go.Proofs.Ytobgjnjndkfjoaa.K
