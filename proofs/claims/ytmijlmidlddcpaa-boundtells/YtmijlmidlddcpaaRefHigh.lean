/- PROVED: what the document's own High answers. CONDITIONS: none beyond each theorem's own. -/
import Derived.Test.YtmijlmidlddcpaaBoxes
import Derived.Test.YtmijlmidlddcpaaConv
import Derived.RangeFuncBox
import Derived.Maps.AppendAt
import Derived.Deep.RegionWith
namespace Go.Proofs.Ytmijlmidlddcpaa
open Go.RowKit

/-- append, kept whole -/
def appe (ats : Array TypeId) (ty : TypeId) (args : Array Value) : Sem Value := Builtin.append_ ats ty args
theorem appe_whole (ats : Array TypeId) (ty : TypeId) (args : Array Value) : Builtin.append_ ats ty args = appe ats ty args := rfl

/-- a box with the most so far, and a row that grows beside it -/
structure Hi (w v : World) (M : Nat) (x : Int) (t : Value) (R : List Int) : Prop where
  c : v.cell? ⟨M, 0, none⟩ = some (.int .i64 x)
  z : v.frozen? ⟨M, 0, none⟩ = false
  own : v.ownsRow (M + 1) 3 1 t R.length (R.map (Value.int .i64))
  lo : w.heap.size ≤ M
  below : Below w.heap.size w v
theorem Hi.drewN {w v : World} {M : Nat} {x : Int} {t : Value} {R : List Int} (h : Hi w v M x t R) (q : Nat) : Hi w (v.drewN q) M x t R :=
  ⟨h.c, h.z, own_drew h.own q, h.lo, below_drewN h.below q⟩
theorem Hi.drew {w v : World} {M : Nat} {x : Int} {t : Value} {R : List Int} (h : Hi w v M x t R) : Hi w v.drew M x t R := h.drewN 1
theorem Hi.set {w v : World} {M : Nat} {x : Int} {t : Value} {R : List Int} (h : Hi w v M x t R) (y : Int) : Hi w (v.setCell ⟨M, 0, none⟩ (.int .i64 y)) M y t R :=
  ⟨World.cell?_setCell_same _ _ _ h.c, by rw [World.frozen?_setCell]; exact h.z, own_set h.own _ _ fun q hq => by have := (h.own.lt q hq).1; show q ≠ M; omega, h.lo, h.below.setCell (p := ⟨M, 0, none⟩) h.lo _⟩
theorem Hi.append {w v : World} {M : Nat} {x : Int} {t : Value} {R : List Int} (h : Hi w v M x t R) (hk : R.length + 1 ≤ 17592186044416) (y : Int) :
    ∃ g cap w2, (appe #[22, 22] 22 #[t, .slice (some ⟨v.heap.size, 0, none⟩) 1 1]).run Try.prog (v.alloc (.cells #[.int .i64 y] 3)) = .ok (.slice (some ⟨g, 0, none⟩) (R.length + 1) cap) w2 ∧ Hi w w2 M x (.slice (some ⟨g, 0, none⟩) (R.length + 1) cap) (R ++ [y]) := by
  obtain ⟨i0, hi, hz0, hz1, hz2⟩ := info_parts Try.info3
  have hM : M < v.heap.size := block_lt h.c
  obtain ⟨v', w2, hrun, hown, hg, _⟩ := run_append_own (P := Try.prog) (v.alloc (.cells #[.int .i64 y] 3)) (M + 1) 22 22 3 i0 (.int .i64 0) 1 8 Try.underlying22 hi hz0 hz1 hz2 rfl (by decide) t _ _ (h.own.alloc _) ⟨v.heap.size, 0, none⟩ 1 1 [.int .i64 y] rfl (cell_one_new v _ _) (by simp [Value.oneCell']) (by unfold maxLen; omega) (by omega) (by simp; omega)
  have hs : (v.alloc (.cells #[.int .i64 y] 3)).heap.size = v.heap.size + 1 := by simp
  have hne : some M ≠ t.ownBlock := fun e => by have := (h.own.lt M e.symm).1; omega
  have blk : w2.heap[M]? = v.heap[M]? := (hg.block M (by omega) hne).trans (Below.heap_alloc v _ M hM)
  have b1 := balloc h.below (.cells #[.int .i64 y] 3)
  have hS : ∀ u, u = v' → Hi w w2 M x u (R ++ [y]) := fun u e => by
    subst e
    exact ⟨(World.cell?_of_block blk).trans h.c, (World.frozen?_of_block blk).trans h.z, by simpa using hown, h.lo, b1.grown hg b1.size fun q hq => by have := (h.own.lt q hq).1; have := h.lo; omega⟩
  obtain ⟨g, cap, e⟩ := ownsRow_succ hown
  exact ⟨g, cap, w2, by rw [← e]; exact hrun, hS _ e.symm⟩

set_option maxHeartbeats 800000 in
theorem hi_clo {w W : World} {M : Nat} {x : Int} {t : Value} {R : List Int} (a b : Int) (h : Hi w W M x t R) :
    Calls Try.prog 39 #[.int .i64 a, .int .i64 b, .pointer (some ⟨M, 0, none⟩)] W fun e w' => e = .returned (.int .i64 0) ∧ Hi w w' M (max x (less a b)) t R := by
  have c := h.c
  have z := h.z
  replace h : Hid _ := h
  go_enter Try.func39, Try.ntmps39
  go_wp2
  go_region_with (go_at_call 40; refine (rless_any _ _ _).mono ?_; rintro e w'' ⟨rfl, rfl⟩)
  all_goals
    go_wp2
    go_ret
    exact ⟨rfl, (h.out.drewN 1).set _⟩

attribute [local go_sem ↓] appe_whole
set_option maxHeartbeats 1600000 in
theorem dhigh_any (a1 a2 : Option Addr) (c1 c2 : Nat) (f g : List Int) (hf : f.length ≤ 17592186044415) (hg : g.length ≤ 17592186044415) (w v : World) (p1 : Row w a1 f) (p2 : Row w a2 g) (M : Nat) (h0 : Hi w v M 0 (.slice none 0 0) []) :
    Calls Try.prog 38 #[.slice a1 f.length c1, .slice a2 g.length c2, .func (.func 39) #[] #[.pointer (some ⟨M, 0, none⟩)]] v fun e w' => ∃ u, e = .returned u ∧ w'.cell? ⟨M, 0, none⟩ = some (.int .i64 (mo (fun j => f.getD j 0) (fun j => g.getD j 0) (min f.length g.length))) ∧ Below w.heap.size w w' := by
  obtain ⟨m, hmm⟩ : ∃ m, min f.length g.length = m := ⟨_, rfl⟩
  go_enter Try.func38, Try.ntmps38
  go_wp2
  go_loopw [7, 12] (fun t i wr => ∃ (k : Nat) (R : List Int), k ≤ f.length ∧ R.length ≤ k ∧ i = .int .i64 k ∧ Hi w wr M (mo (fun j => f.getD j 0) (fun j => g.getD j 0) (min k m)) t R) (fun _ i _ => f.length - (intOf i).toNat)
  case atStart => exact ⟨0, [], Nat.zero_le _, Nat.le_refl _, rfl, by rw [Nat.zero_min]; exact h0⟩
  case round =>
    obtain ⟨k, R, hkn, hRk, rfl, hG⟩ := hrel
    by_cases hlt : k < f.length
    · obtain ⟨g0, o0, rfl, k0⟩ := (p1.kept hG.below).at (by omega)
      have hx := k0 k (by omega)
      have hki : (k : Int) < f.length := by omega
      by_cases hlg : k < g.length
      · obtain ⟨g1, o1, rfl, k1⟩ := (p2.kept hG.below).at (by omega)
        have hy := k1 k (by omega)
        have hk1 : (k : Int) < g.length := by omega
        have e1 : min k m = k := by omega
        have e2 : min (k + 1) m = k + 1 := by omega
        rw [e1] at hG
        have hs : Hid (mo (fun j => f.getD j 0) (fun j => g.getD j 0) (k + 1) = max (mo (fun j => f.getD j 0) (fun j => g.getD j 0) k) (less (fit (f.getD k 0)) (fit (g.getD k 0)))) := by show _ = _; rw [less_fit]; rfl
        generalize mo (fun j => f.getD j 0) (fun j => g.getD j 0) k = V at hG hs
        generalize f.getD k 0 = x at hx hs
        generalize g.getD k 0 = y at hy hs
        replace hG : Hid _ := hG
        have hRl : R.length + 1 ≤ 17592186044416 := by omega
        replace e2 : Hid _ := e2
        clear k0 k1 p1 p2 hmm e1 h0
        go_wp2
        go_region_with (first
          | (go_at_call 36; refine (rfit_any _ _).mono ?_; rintro e w' ⟨rfl, rfl⟩)
          | (go_at_call 39; refine (hi_clo _ _ hG.out.drew).mono ?_; rintro e v2 ⟨rfl, hS⟩; obtain ⟨gg, cc, w2, hrun, hT⟩ := hS.append hRl 0; replace hT : Hid _ := hT; clear hS))
        all_goals
          go_wp2
          go_roundw
          case rel => exact ⟨k + 1, R ++ [0], by omega, by simp; omega, by go_num, by rw [e2.out, hs.out]; exact hT.out⟩
          case measure => simp [intOf]; omega
      · have e2 : min (k + 1) m = min k m := by omega
        have hk1 : (g.length : Int) ≤ k := by omega
        have hk2 : ¬ (k : Int) < g.length := by omega
        generalize f.getD k 0 = x at hx
        replace hG : Hid _ := hG
        replace e2 : Hid _ := e2
        clear k0 p1 p2 hmm h0
        go_wp2
        go_roundw
        case rel => exact ⟨k + 1, R, by omega, by omega, by go_num, by rw [e2.out]; exact hG.out⟩
        case measure => simp [intOf]; omega
    · obtain rfl : k = f.length := by omega
      have hP : min f.length m = min f.length g.length := by omega
      rw [hP] at hG
      go_wp2
      go_ret
      exact ⟨_, rfl, hG.c, hG.below⟩

end Go.Proofs.Ytmijlmidlddcpaa
