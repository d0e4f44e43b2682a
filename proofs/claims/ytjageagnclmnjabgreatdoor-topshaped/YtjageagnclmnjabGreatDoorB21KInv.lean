/- PROVED: what the function that flowsInRow hands back gives, round by round: the row of packets. what lies in memory while link.Pass goes along the row of packets. CONDITIONS: none beyond each theorem's own. -/
import Derived.Test.YtjageagnclmnjabGreatDoorB20KRight
import Derived.RangeFuncBox
import Derived.RangeFuncNested
import Derived.RangeFuncBound
import Derived.RangeFuncCalls
import Derived.RangeFuncLeaves
import Derived.Shelf.Abstract
import Derived.Shelf.RegionOpen
import Derived.WalkKit
import Derived.OwnWalkIn
import Derived.TacticsInMore
import Derived.LoopNIn
import Derived.LoopIn
namespace Go.Proofs.YtjageagnclmnjabGreatDoor.K
open Go.RowKit Go.Shelf

attribute [local go_sem] Oper.semAt_some idx0 idx1

abbrev num (x : Bool) : Array Value := #[.int .i64 (if x then 1 else 0)]

/-- what a round keeps: both boxes -/
def Keep (B1 B2 : Nat) (W W' : World) : Prop := (∀ o, W'.cell? ⟨B1, o, none⟩ = W.cell? ⟨B1, o, none⟩) ∧ ∀ o, W'.cell? ⟨B2, o, none⟩ = W.cell? ⟨B2, o, none⟩
theorem Keep.refl (B1 B2 : Nat) (W : World) : Keep B1 B2 W W := ⟨fun _ => rfl, fun _ => rfl⟩
theorem Keep.trans {B1 B2 : Nat} {A B C : World} (h : Keep B1 B2 A B) (k : Keep B1 B2 B C) : Keep B1 B2 A C := ⟨fun o => (k.1 o).trans (h.1 o), fun o => (k.2 o).trans (h.2 o)⟩
theorem keep_b {B1 B2 : Nat} {w : World} (h1 : B1 < w.heap.size) (h2 : B2 < w.heap.size) (W : World) (l : Nat) (o o' : Obj) (hl : w.heap.size ≤ l) (h : W.heap[l]? = some o) (hc : o.isCells = false) (hw : o.isWalk = false) : Keep B1 B2 W (W.putObj l o') := by
  have hb := belowK_b (w := w) (Nat.le_refl _) W l o o' hl h hc hw
  exact ⟨fun j => hb.cell (p := ⟨B1, j, none⟩) h1, fun j => hb.cell (p := ⟨B2, j, none⟩) h2⟩

theorem hidden {p : Prop} (h : p) : Hid p := h
theorem rep_succ (x : Bool) (q : Nat) : List.replicate (q + 1) x = List.replicate q x ++ [x] := List.replicate_succ'

set_option maxRecDepth 100000 in
set_option maxHeartbeats 4000000 in
theorem flows1_in (n : Nat) (hn : 1 ≤ n) (l B1 B2 : Nat) (a b s t : Nat) (ha : a ≤ 16) (hb : b ≤ 16) (hs : s ≤ 16) (ht : t ≤ 16) (J Jx : List Bool → World → Prop)
    (hY : ∀ pre x W, J pre W → pre.length < 100 → YieldAt Fence.wide (n - 1) Tryz.prog l (num x) W fun e W' =>
      (e = .returned (.bool true) ∧ J (pre ++ [x]) W' ∧ Keep B1 B2 W W') ∨ (e = .returned (.bool false) ∧ Jx (pre ++ [x]) W'))
    (W : World) (c0 : W.cell? ⟨B1, 0, none⟩ = some (.int .i64 a)) (c1 : W.cell? ⟨B1, 1, none⟩ = some (.int .i64 b))
    (d0 : W.cell? ⟨B2, 0, none⟩ = some (.int .i64 s)) (d1 : W.cell? ⟨B2, 1, none⟩ = some (.int .i64 t)) (h0 : J [] W) :
    CallsIn Fence.wide n Tryz.prog 153 #[.func (.yield l) #[] #[], .pointer (some ⟨B1, 0, none⟩), .pointer (some ⟨B2, 0, none⟩)] W fun e W' => (∃ v, e = .returned v) ∧
      ((∃ ys, ys = pk a b s t ∧ J ys W') ∨ (∃ pre, True ∧ Jx pre W')) := by
  refine callsIn_of_wp Tryz.func153 rfl trivial ?_ rfl
  simp only [Tryz.ntmps153, List.size_toArray, List.length_cons, List.length_nil, Nat.reduceAdd, Nat.reduceSub, Array.replicate_succ, Array.replicate_zero, List.push_toArray, List.append_toArray, List.nil_append, List.cons_append]
  gi_wp2
  gi_loopw [10] (fun i wr => (i = .int .i64 0 ∧ J [] wr ∨ i = .int .i64 1 ∧ J (List.replicate a false) wr ∨ i = .int .i64 2 ∧ J (List.replicate a false ++ List.replicate b true) wr) ∧ Keep B1 B2 W wr)
    (fun i _ => 2 - (intOf i).toNat)
  case atStart => exact ⟨.inl ⟨rfl, h0⟩, Keep.refl _ _ _⟩
  case round =>
    obtain ⟨⟨rfl, hJs⟩ | ⟨rfl, hJs⟩ | ⟨rfl, hJs⟩, hnx⟩ := hrel
    · gi_wp2
      gi_loopw [15] (fun j wr => ∃ q : Nat, q ≤ a ∧ j = .int .i64 q ∧ J (List.replicate q false) wr ∧ Keep B1 B2 W wr)
        (fun j _ => a - (intOf j).toNat)
      case atStart => exact ⟨0, Nat.zero_le _, rfl, by simpa using hJs, hnx⟩
      case round =>
        obtain ⟨q, hq, rfl, hJq, hnq⟩ := hrel
        by_cases hlt : q < a
        · have hts : Hid (List.replicate (q + 1) false = List.replicate q false ++ [false]) := rep_succ false q
          obtain ⟨fn, tmps, assign, body, hy, hR⟩ := hY _ false wr hJq (by simp; omega)
          simp only [num, Bool.false_eq_true, if_false] at hy
          gi_wp2
          refine hR.mono ?_
          rintro e W3 (⟨rfl, hJ3, hk3⟩ | ⟨rfl, hJx3⟩)
          · gi_wp2
            go_roundw
            case rel => exact ⟨q + 1, by omega, by simp, by rw [hts.out]; exact hJ3, hnq.trans hk3⟩
            case measure => simp [intOf]; omega
          · gi_wp2
            refine bodyPost_ret (results_none rfl _ _ _) rfl ?_
            exact ⟨⟨_, rfl⟩, .inr ⟨_, trivial, hJx3⟩⟩
        · obtain rfl : q = a := by omega
          gi_wp2
          go_roundw
          case rel => exact ⟨.inr (.inl ⟨rfl, hJq⟩), hnq⟩
          case measure => simp [intOf]
    · gi_wp2
      gi_loopw [15] (fun j wr => ∃ q : Nat, q ≤ b ∧ j = .int .i64 q ∧ J (List.replicate a false ++ List.replicate q true) wr ∧ Keep B1 B2 W wr)
        (fun j _ => b - (intOf j).toNat)
      case atStart => exact ⟨0, Nat.zero_le _, rfl, by simpa using hJs, hnx⟩
      case round =>
        obtain ⟨q, hq, rfl, hJq, hnq⟩ := hrel
        by_cases hlt : q < b
        · have hts : Hid (List.replicate (q + 1) true = List.replicate q true ++ [true]) := rep_succ true q
          obtain ⟨fn, tmps, assign, body, hy, hR⟩ := hY _ true wr hJq (by simp; omega)
          simp only [num, if_true] at hy
          gi_wp2
          refine hR.mono ?_
          rintro e W3 (⟨rfl, hJ3, hk3⟩ | ⟨rfl, hJx3⟩)
          · gi_wp2
            go_roundw
            case rel => exact ⟨q + 1, by omega, by simp, by rw [hts.out]; rw [← List.append_assoc]; exact hJ3, hnq.trans hk3⟩
            case measure => simp [intOf]; omega
          · gi_wp2
            refine bodyPost_ret (results_none rfl _ _ _) rfl ?_
            exact ⟨⟨_, rfl⟩, .inr ⟨_, trivial, hJx3⟩⟩
        · obtain rfl : q = b := by omega
          gi_wp2
          go_roundw
          case rel => exact ⟨.inr (.inr ⟨rfl, hJq⟩), hnq⟩
          case measure => simp [intOf]
    · have e0 := (hnx.2 0).trans d0
      have e1 := (hnx.2 1).trans d1
      have hmx : max (s : Int) t = ((max s t : Nat) : Int) := by omega
      obtain ⟨P, hP⟩ : ∃ P, List.replicate a false ++ List.replicate b true = P := ⟨_, rfl⟩
      have hPl : P.length ≤ 32 := by rw [← hP]; simp; omega
      have hpk : Hid (pk a b s t = P ++ turns s t (max s t)) := by rw [← hP]; rfl
      rw [hP] at hJs
      obtain ⟨M, hM⟩ : ∃ M, max s t = M := ⟨_, rfl⟩
      rw [hM] at hmx hpk
      have hM1 : M ≤ 16 := by omega
      gi_wp2
      clear e0 e1
      gi_loopw [28] (fun i wr => ∃ k : Nat, k ≤ M ∧ i = .int .i64 k ∧ J (P ++ turns s t k) wr ∧ Keep B1 B2 W wr)
        (fun i _ => M - (intOf i).toNat)
      case atStart => exact ⟨0, Nat.zero_le _, rfl, by simpa [turns] using hJs, hnx⟩
      case round =>
        clear hJs hnx
        obtain ⟨k, hk, rfl, hJk, hnk⟩ := hrel
        by_cases hlt : k < M
        · have e0 := (hnk.2 0).trans d0
          have e1 := (hnk.2 1).trans d1
          have hTl : (P ++ turns s t k).length ≤ 64 := by rw [List.length_append, turns_len]; omega
          have hts : Hid (P ++ turns s t (k + 1) = (P ++ turns s t k) ++ turn (decide (k < s)) (decide (k < t))) := by rw [turns, List.append_assoc]; exact rfl
          obtain ⟨R, hR0⟩ : ∃ R, P ++ turns s t k = R := ⟨_, rfl⟩
          rw [hR0] at hJk hTl hts
          have hR1 : Hid (P ++ turns s t (k + 1) = (R ++ if k < s then [false] else []) ++ if k < t then [true] else []) := hidden (by
            rw [hts.out, turn, List.append_assoc]; simp)
          clear hts
          gi_wp2
          clear e0 e1
          gi_loopw [32] (fun j wr => (j = .int .i64 0 ∧ J R wr ∨ j = .int .i64 1 ∧ J (R ++ if k < s then [false] else []) wr ∨ j = .int .i64 2 ∧ J (P ++ turns s t (k + 1)) wr) ∧ Keep B1 B2 W wr)
            (fun j _ => 2 - (intOf j).toNat)
          case atStart => exact ⟨.inl ⟨rfl, hJk⟩, hnk⟩
          case round =>
            obtain ⟨⟨rfl, hJs⟩ | ⟨rfl, hJs⟩ | ⟨rfl, hJs⟩, hnx⟩ := hrel
            · by_cases hks : k < s
              · have hki : (k : Int) < s := by omega
                obtain ⟨fn, tmps, assign, body, hy, hR⟩ := hY _ false wr hJs (by omega)
                simp only [num, Bool.false_eq_true, if_false] at hy
                gi_wp2
                refine hR.mono ?_
                rintro e W3 (⟨rfl, hJ3, hk3⟩ | ⟨rfl, hJx3⟩)
                · gi_wp2
                  go_roundw
                  case rel => exact ⟨.inr (.inl ⟨rfl, by rw [if_pos hks]; exact hJ3⟩), hnx.trans hk3⟩
                  case measure => simp [intOf]
                · gi_wp2
                  refine bodyPost_ret (results_none rfl _ _ _) rfl ?_
                  exact ⟨⟨_, rfl⟩, .inr ⟨_, trivial, hJx3⟩⟩
              · have hki : decide ((k : Int) < s) = false := decide_eq_false (by omega)
                gi_wp2
                refine ⟨fun _ h => (by cases h), ?_⟩
                gi_wp2
                go_roundw
                case rel => exact ⟨.inr (.inl ⟨rfl, by rw [if_neg hks, List.append_nil]; exact hJs⟩), hnx⟩
                case measure => simp [intOf]
            · by_cases hks : k < t
              · have hki : (k : Int) < t := by omega
                obtain ⟨fn, tmps, assign, body, hy, hR⟩ := hY _ true wr hJs (by rw [List.length_append]; split <;> simp <;> omega)
                simp only [num, if_true] at hy
                gi_wp2
                refine hR.mono ?_
                rintro e W3 (⟨rfl, hJ3, hk3⟩ | ⟨rfl, hJx3⟩)
                · gi_wp2
                  go_roundw
                  case rel => exact ⟨.inr (.inr ⟨rfl, by rw [hR1.out, if_pos hks]; exact hJ3⟩), hnx.trans hk3⟩
                  case measure => simp [intOf]
                · gi_wp2
                  refine bodyPost_ret (results_none rfl _ _ _) rfl ?_
                  exact ⟨⟨_, rfl⟩, .inr ⟨_, trivial, hJx3⟩⟩
              · have hki : decide ((k : Int) < t) = false := decide_eq_false (by omega)
                gi_wp2
                refine ⟨fun _ h => (by cases h), ?_⟩
                gi_wp2
                go_roundw
                case rel => exact ⟨.inr (.inr ⟨rfl, by rw [hR1.out, if_neg hks, List.append_nil]; exact hJs⟩), hnx⟩
                case measure => simp [intOf]
            · gi_wp2
              go_roundw
              case rel => exact ⟨k + 1, by omega, by simp, hJs, hnx⟩
              case measure => simp [intOf]; omega
        · obtain rfl : k = M := by omega
          gi_wp2
          go_end0
          exact ⟨⟨_, rfl⟩, .inl ⟨_, hpk.out.symm, hJk⟩⟩

theorem flows_stops (n : Nat) (hn : 1 ≤ n) (B1 B2 : Nat) (a b s t : Nat) (ha : a ≤ 16) (hb : b ≤ 16) (hs : s ≤ 16) (ht : t ≤ 16) (w : World) (h1 : Arr w B1 a b) (h2 : Arr w B2 s t) :
    SeqStopsK Fence.wide n Tryz.prog 153 #[.pointer (some ⟨B1, 0, none⟩), .pointer (some ⟨B2, 0, none⟩)] num (Keep B1 B2) (fun ys => ys = pk a b s t) (fun _ => True) 100 w := fun l J Jx W hW _ _ hY h0 =>
  have k1 := h1.kept hW
  have k2 := h2.kept hW
  flows1_in n hn l B1 B2 a b s t ha hb hs ht J Jx hY W k1.c0 k1.c1 k2.c0 k2.c1 h0

end Go.Proofs.YtjageagnclmnjabGreatDoor.K

namespace Go.Proofs.YtjageagnclmnjabGreatDoor.K
open Go.RowKit Go.Shelf

/-- one number of the call's own, in block C -/
structure One (w : World) (C : Nat) (v : Int) : Prop where
  c : w.cell? ⟨C, 0, none⟩ = some (.int .i64 v)
  f : w.frozen? ⟨C, 0, none⟩ = false
theorem One.new (w : World) (C : Nat) (hC : C = w.heap.size) (v : Int) : One (w.alloc (.cells #[.int .i64 v] 3)) C v := by
  subst hC
  constructor
  all_goals first
    | (rw [World.cell?_alloc_at _ _ _ _ rfl]; rfl)
    | (rw [World.frozen?_alloc_at _ _ _ _ rfl])
theorem One.kept {w w' : World} {C : Nat} {v : Int} (h : One w C v) (g : Below w.heap.size w w') : One w' C v := by
  have hl : C < w.heap.size := block_lt h.c
  exact ⟨(g.cell (p := ⟨C, 0, none⟩) hl).trans h.c, (g.frozen (p := ⟨C, 0, none⟩) hl).trans h.f⟩
theorem One.alloc {w : World} {C : Nat} {v : Int} (h : One w C v) (o : Obj) : One (w.alloc o) C v := h.kept (balloc (Below.refl _ _) o)
theorem One.far {w : World} {C D o : Nat} {v : Int} (h : One w C v) (hD : D ≠ C) (x : Value) : One (w.setCell ⟨D, o, none⟩ x) C v :=
  ⟨(World.cell?_setCell_other _ _ _ _ (fun p => hD (by injection p))).trans h.c, (World.frozen?_setCell _ _ _ _).trans h.f⟩
theorem One.set {w : World} {C : Nat} {v : Int} (h : One w C v) (x : Int) : One (w.setCell ⟨C, 0, none⟩ (.int .i64 x)) C x :=
  ⟨World.cell?_setCell_same _ _ _ h.c, (World.frozen?_setCell _ _ _ _).trans h.f⟩

theorem One.own {β : Type} (C : Nat) (v : β → Int) : Own (fun s W => One W C (v s)) := fun _ _ _ _ h hg hr => ⟨cell_kept h.c hg hr, (frozen_kept h.c hg hr).trans h.f⟩
theorem Arr.own {β : Type} (C : Nat) (a b : β → Int) : Own (fun s W => Arr W C (a s) (b s)) := fun _ _ _ _ h hg hr =>
  ⟨cell_kept h.c0 hg hr, cell_kept h.c1 hg hr, (frozen_kept h.c0 hg hr).trans h.f0, (frozen_kept h.c1 hg hr).trans h.f1⟩
theorem Rnd.own {β : Type} (C : Nat) (a b c d e f : β → Int) : Own (fun s W => Rnd W C (a s) (b s) (c s) (d s) (e s) (f s)) := fun _ _ _ _ h hg hr =>
  ⟨cell_kept h.c0 hg hr, cell_kept h.c1 hg hr, cell_kept h.c2 hg hr, cell_kept h.c3 hg hr, cell_kept h.c4 hg hr, cell_kept h.c5 hg hr,
    (frozen_kept h.c0 hg hr).trans h.f0, (frozen_kept h.c1 hg hr).trans h.f1, (frozen_kept h.c2 hg hr).trans h.f2, (frozen_kept h.c3 hg hr).trans h.f3, (frozen_kept h.c4 hg hr).trans h.f4, (frozen_kept h.c5 hg hr).trans h.f5⟩

/-- what lies there: the rate, the room, the row's place, what is told so far, and where it will be told -/
def At (w : World) (r m s t : Int) (L x0 x1 y0 y1 z0 z1 : Int) (W : World) : Prop :=
  ((One W w.heap.size r ∧ One W (w.heap.size + 1) m) ∧ (One W (w.heap.size + 1 + 1 + 1 + 1 + 1 + 1 + 1 + 1 + 1 + 1) L ∧ (Rnd W (w.heap.size + 1 + 1 + 1 + 1 + 1 + 1 + 1 + 1) s t x0 x1 y0 y1 ∧ (Arr W (w.heap.size + 1 + 1 + 1 + 1 + 1 + 1 + 1 + 1 + 1) z0 z1 ∧
    (Rnd W (w.heap.size + 1 + 1 + 1 + 1) 0 0 0 0 0 0 ∧ Arr W (w.heap.size + 1 + 1 + 1 + 1 + 1) 0 0))))) ∧ Below w.heap.size w W
theorem At.own {β : Type} (w : World) (r m s t : Int) (L x0 x1 y0 y1 z0 z1 : β → Int) (B : Nat) (hB : w.heap.size ≤ B) : OwnFrom B (fun p W => At w r m s t (L p) (x0 p) (x1 p) (y0 p) (y1 p) (z0 p) (z1 p) W) :=
  OwnFrom.and (OwnFrom.and (OwnFrom.and (Own.from (One.own _ (fun _ => r)) _) (Own.from (One.own _ (fun _ => m)) _)) (OwnFrom.and (Own.from (One.own _ L) _) (OwnFrom.and (Own.from (Rnd.own _ (fun _ => s) (fun _ => t) x0 x1 y0 y1) _) (OwnFrom.and (Own.from (Arr.own _ z0 z1) _)
    (OwnFrom.and (Own.from (Rnd.own _ (fun _ => 0) (fun _ => 0) (fun _ => 0) (fun _ => 0) (fun _ => 0) (fun _ => 0)) _) (Own.from (Arr.own _ (fun _ => 0) (fun _ => 0)) _)))))) (ownFrom_below (Nat.le_refl _) hB)

/-- one number more, and one place further -/
theorem At.put {w W : World} {r m s t L x0 x1 y0 y1 z0 z1 x0' x1' y0' y1' z0' z1' : Int} (h : At w r m s t L x0 x1 y0 y1 z0 z1 W) (D o : Nat) (v : Int)
    (hD : D = w.heap.size + 1 + 1 + 1 + 1 + 1 + 1 + 1 + 1 ∨ D = w.heap.size + 1 + 1 + 1 + 1 + 1 + 1 + 1 + 1 + 1)
    (hR : Rnd (W.setCell ⟨D, o, none⟩ (.int .i64 v)) (w.heap.size + 1 + 1 + 1 + 1 + 1 + 1 + 1 + 1) s t x0' x1' y0' y1') (hA : Arr (W.setCell ⟨D, o, none⟩ (.int .i64 v)) (w.heap.size + 1 + 1 + 1 + 1 + 1 + 1 + 1 + 1 + 1) z0' z1') (N : Nat) (u : Int) (hu : u = L + 1) :
    KeepsFrom N W ((W.setCell ⟨D, o, none⟩ (.int .i64 v)).setCell ⟨w.heap.size + 1 + 1 + 1 + 1 + 1 + 1 + 1 + 1 + 1 + 1, 0, none⟩ (.int .i64 u)) ∧
    Keep (w.heap.size + 1 + 1 + 1 + 1 + 1 + 1 + 1 + 1 + 1 + 1 + 1) (w.heap.size + 1 + 1 + 1 + 1 + 1 + 1 + 1 + 1 + 1 + 1 + 1 + 1) W ((W.setCell ⟨D, o, none⟩ (.int .i64 v)).setCell ⟨w.heap.size + 1 + 1 + 1 + 1 + 1 + 1 + 1 + 1 + 1 + 1, 0, none⟩ (.int .i64 u)) ∧
    At w r m s t (L + 1) x0' x1' y0' y1' z0' z1' ((W.setCell ⟨D, o, none⟩ (.int .i64 v)).setCell ⟨w.heap.size + 1 + 1 + 1 + 1 + 1 + 1 + 1 + 1 + 1 + 1, 0, none⟩ (.int .i64 u)) := by
  subst hu
  obtain ⟨⟨⟨h1, h2⟩, h3, h4, h5, h6, h7⟩, hb⟩ := h
  refine ⟨((KeepsOthers.setCell _ _ _).trans (KeepsOthers.setCell _ _ _)).from _, ⟨fun j => ?_, fun j => ?_⟩, ⟨⟨(h1.far (by omega) _).far (by omega) _, (h2.far (by omega) _).far (by omega) _⟩, (h3.far (by omega) _).set _, hR.far (by omega) _, hA.far (by omega) _, (h6.far (by omega) _).far (by omega) _, (h7.far (by omega) _).far (by omega) _⟩, ?_⟩
  · exact (World.cell?_setCell_other _ _ _ _ (fun p => by injection p; omega)).trans (World.cell?_setCell_other _ _ _ _ (fun p => by injection p; omega))
  · exact (World.cell?_setCell_other _ _ _ _ (fun p => by injection p; omega)).trans (World.cell?_setCell_other _ _ _ _ (fun p => by injection p; omega))
  · exact (hb.setCell (p := ⟨D, o, none⟩) (by simp; omega) _).setCell (p := ⟨w.heap.size + 1 + 1 + 1 + 1 + 1 + 1 + 1 + 1 + 1 + 1, 0, none⟩) (by simp; omega) _

/-- the world ahead of the row -/
def begun (w : World) (r m a b s t : Int) : World :=
  ((((((((((((w.alloc (.cells #[.int .i64 r] 3)).alloc (.cells #[.int .i64 m] 3)).alloc (.cells #[.int .i64 a, .int .i64 b] 67)).alloc (.cells #[.int .i64 s, .int .i64 t] 67)).alloc
    (.cells #[.int .i64 0, .int .i64 0, .int .i64 0, .int .i64 0, .int .i64 0, .int .i64 0] 155)).alloc (.cells #[.int .i64 0, .int .i64 0] 67)).alloc (.cells #[.int .i64 a, .int .i64 b] 67)).alloc (.cells #[.int .i64 s, .int .i64 t] 67)).alloc
    (.cells #[.int .i64 s, .int .i64 t, .int .i64 0, .int .i64 0, .int .i64 0, .int .i64 0] 155)).alloc (.cells #[.int .i64 0, .int .i64 0] 67)).alloc (.cells #[.int .i64 0] 3)).alloc (.cells #[.int .i64 a, .int .i64 b] 67)).alloc (.cells #[.int .i64 s, .int .i64 t] 67)
theorem begun_at (w : World) (r m a b s t : Int) :
    (begun w r m a b s t).heap.size = w.heap.size + 13 ∧ At w r m s t 0 0 0 0 0 0 0 (begun w r m a b s t) ∧ Arr (begun w r m a b s t) (w.heap.size + 1 + 1 + 1 + 1 + 1 + 1 + 1 + 1 + 1 + 1 + 1) a b ∧ Arr (begun w r m a b s t) (w.heap.size + 1 + 1 + 1 + 1 + 1 + 1 + 1 + 1 + 1 + 1 + 1 + 1) s t := by
  unfold begun
  refine ⟨?_, ⟨⟨⟨?_, ?_⟩, ?_, ?_, ?_, ?_, ?_⟩, ?_⟩, ?_, ?_⟩
  · simp
  · repeat (first | (refine One.new _ _ ?_ _; simp; done) | refine One.alloc ?_ _)
  · repeat (first | (refine One.new _ _ ?_ _; simp; done) | refine One.alloc ?_ _)
  · repeat (first | (refine One.new _ _ ?_ _; simp; done) | refine One.alloc ?_ _)
  · repeat (first | (refine Rnd.new _ _ ?_ _ _ _ _ _ _; simp; done) | refine Rnd.alloc ?_ _)
  · repeat (first | (refine Arr.new _ _ ?_ _ _; simp; done) | refine Arr.alloc ?_ _)
  · repeat (first | (refine Rnd.new _ _ ?_ _ _ _ _ _ _; simp; done) | refine Rnd.alloc ?_ _)
  · repeat (first | (refine Arr.new _ _ ?_ _ _; simp; done) | refine Arr.alloc ?_ _)
  · repeat (first | exact Below.refl _ _ | refine balloc ?_ _)
  · repeat (first | (refine Arr.new _ _ ?_ _ _; simp; done) | refine Arr.alloc ?_ _)
  · repeat (first | (refine Arr.new _ _ ?_ _ _; simp; done) | refine Arr.alloc ?_ _)

end Go.Proofs.YtjageagnclmnjabGreatDoor.K
