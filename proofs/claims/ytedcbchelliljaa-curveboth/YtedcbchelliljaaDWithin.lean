/- PROVED: the document's own answer whether a row is nowhere above another. CONDITIONS: none beyond each theorem's own. -/
import Derived.Test.YtedcbchelliljaaDrawn
import Derived.RangeFuncNested
import Derived.Deep.RegionWith
namespace Go.Proofs.Ytedcbchelliljaa
open Go.RowKit

attribute [local go_sem ↓] appe_whole

theorem mark_any (B : Nat) (a b : Int) (ok : Bool) (w : World) (hb : Boxed w B 4 (.bool ok)) :
    Calls Try.prog 33 #[.int .i64 a, .int .i64 b, .pointer (some ⟨B, 0, none⟩)] w fun e w' => e = .returned (.int .i64 0) ∧ w' = w.setCell ⟨B, 0, none⟩ (.bool (ok && decide (a ≤ b))) := by
  have hc := hb.cell
  have hf := hb.frozen
  cases ok
  · go_enter Try.func33, Try.ntmps33
    go_wp2
    go_ret
    exact ⟨rfl, rfl⟩
  · go_enter Try.func33, Try.ntmps33
    go_wp2
    go_ret
    exact ⟨rfl, by rw [Bool.true_and]⟩

/-- what lies in memory: the row that grows, and whether all was well -/
structure GW (w : World) (t : Value) (wr : World) (k : Nat) (ok : Bool) : Prop where
  own : wr.ownsRow w.heap.size 3 1 t k ((outs (fun _ => 0) k).map (Value.int .i64))
  box : Boxed wr w.heap.size 4 (.bool ok)
  below : Below w.heap.size w wr

theorem GW.step {w : World} {t : Value} {wr : World} {k : Nat} {ok : Bool} (h : GW w t wr k ok) (hk : k + 1 ≤ 17592186044416) (ok2 : Bool) :
    ∃ g cap w2, (appe #[22, 22] 22 #[t, .slice (some ⟨wr.heap.size, 0, none⟩) 1 1]).run Try.prog ((wr.setCell ⟨w.heap.size, 0, none⟩ (.bool ok2)).alloc (.cells #[.int .i64 0] 3)).drew = .ok (.slice (some ⟨g, 0, none⟩) (k + 1) cap) w2 ∧ GW w (.slice (some ⟨g, 0, none⟩) (k + 1) cap) w2 (k + 1) ok2 := by
  obtain ⟨i0, hi, hz0, hz1, hz2⟩ := info_parts Try.info3
  obtain ⟨w1, hw1⟩ : ∃ w1, wr.setCell ⟨w.heap.size, 0, none⟩ (.bool ok2) = w1 := ⟨_, rfl⟩
  have box1 : Boxed w1 w.heap.size 4 (.bool ok2) := by rw [← hw1]; exact h.box.set _
  have own1 : w1.ownsRow w.heap.size 3 1 t k ((outs (fun _ => 0) k).map (Value.int .i64)) := by rw [← hw1]; exact h.own.kept (grownBy_setCell' wr w.heap.size (.bool ok2)) (.inr (h.box.not_row (by decide) h.own).symm)
  have bel1 : Below w.heap.size w w1 := by rw [← hw1]; exact h.below.setCell (p := ⟨w.heap.size, 0, none⟩) (Nat.le_refl _) _
  have hsz : w1.heap.size = wr.heap.size := by rw [← hw1]; simp
  rw [hw1, ← hsz]
  have ho : w1.drew.ownsRow w.heap.size 3 1 t k ((outs (fun _ => 0) k).map (Value.int .i64)) := own_kept own1 (Below.drew (Below.refl _ _))
  obtain ⟨v', w2, hrun, hown, hgrow, _⟩ := run_append_own (P := Try.prog) (w1.drew.alloc (.cells #[.int .i64 0] 3)) w.heap.size 22 22 3 i0 (.int .i64 0) 1 8 Try.underlying22 hi hz0 hz1 hz2 rfl (by decide) t _ _ (ho.alloc _) ⟨w1.heap.size, 0, none⟩ 1 1 [.int .i64 0] rfl (cell_one_new w1.drew _ _) (by simp [Value.oneCell']) (by unfold maxLen; omega) (by omega) (by have := bel1.size; simp; omega)
  obtain ⟨g, cap, rfl⟩ := ownsRow_succ hown
  have boxd : Boxed w1.drew w.heap.size 4 (.bool ok2) := box1
  have box2 := (boxd.alloc (.cells #[.int .i64 0] 3)).kept hgrow (boxd.not_row (by decide) ho)
  have bel2 : Below w.heap.size w w2 := (balloc (Below.drew bel1) _).grown hgrow (balloc (Below.drew bel1) _).size (fun q hq => (ho.lt q hq).1)
  refine ⟨g, cap, w2, hrun, ?_, box2, bel2⟩
  rw [outs_succ, List.map_append]
  exact hown

def okk (f g : List Int) (k : Nat) : Bool := decide (∀ t, t < k → fit (f.getD t 0) ≤ fit (g.getD t 0))
theorem okk_succ (f g : List Int) (k : Nat) : okk f g (k + 1) = (okk f g k && decide (fit (f.getD k 0) ≤ fit (g.getD k 0))) := by
  unfold okk
  rw [Bool.eq_iff_iff]
  simp only [Bool.and_eq_true, decide_eq_true_eq]
  constructor
  · exact fun h => ⟨fun t ht => h t (by omega), h k (by omega)⟩
  · rintro ⟨h1, h2⟩ t ht
    by_cases e : t = k
    · subst e; exact h2
    · exact h1 t (by omega)

set_option maxHeartbeats 1600000 in
theorem dboth_mark (a1 a2 : Option Addr) (c1 c2 : Nat) (f g : List Int) (hf : f.length ≤ 17592186044415) (hg : g.length ≤ 17592186044415) (w W : World) (p1 : Row w a1 f) (p2 : Row w a2 g) (hbox : Boxed W w.heap.size 4 (.bool true)) (hbel : Below w.heap.size w W) :
    Calls Try.prog 20 #[.slice a1 f.length c1, .slice a2 g.length c2, .func (.func 33) #[] #[.pointer (some ⟨w.heap.size, 0, none⟩)]] W fun e w' => (∃ v, e = .returned v) ∧ Boxed w' w.heap.size 4 (.bool (decide (below f g))) ∧ Below w.heap.size w w' := by
  obtain ⟨m, hmm⟩ : ∃ m, min f.length g.length = m := ⟨_, rfl⟩
  go_enter Try.func20, Try.ntmps20
  go_wp2
  go_loopw [7, 12] (fun t i wr => ∃ k : Nat, k ≤ f.length ∧ i = .int .i64 k ∧ GW w t wr (min k m) (okk f g (min k m))) (fun _ i _ => f.length - (intOf i).toNat)
  case atStart => exact ⟨0, Nat.zero_le _, rfl, by rw [Nat.zero_min]; exact ⟨World.ownsRow_nil _ _ _ _, hbox, hbel⟩⟩
  case round =>
    obtain ⟨k, hkn, rfl, hG⟩ := hrel
    by_cases hlt : k < f.length
    · obtain ⟨g0, o0, rfl, k0⟩ := (p1.kept hG.below).at (by omega)
      have hx := k0 k (by omega)
      have hki : (k : Int) < f.length := by omega
      by_cases hlg : k < g.length
      · obtain ⟨g1, o1, rfl, k1⟩ := (p2.kept hG.below).at (by omega)
        have hy := k1 k (by omega)
        have hk1 : (k : Int) < g.length := by omega
        have e1 : min k m = k := by omega
        have e2 : min (k + 1) m = k + 1 := by omega
        rw [e1] at hG
        obtain ⟨gg, cc, w2, hrun, hS⟩ := hG.step (by omega) (okk f g (k + 1))
        have hS2 : GW w (.slice (some ⟨gg, 0, none⟩) (k + 1) cc) w2 (min (k + 1) m) (okk f g (min (k + 1) m)) := by rw [e2]; exact hS
        have HS := hide hS2
        have bx : Boxed wr.drew w.heap.size 4 (.bool (okk f g k)) := hG.box
        have hbx := mark_any w.heap.size (fit (f.getD k 0)) (fit (g.getD k 0)) (okk f g k) wr.drew bx
        rw [← okk_succ] at hbx
        generalize okk f g (k + 1) = b2 at hbx hrun
        generalize f.getD k 0 = x at hx hbx
        generalize g.getD k 0 = y at hy hbx
        clear k0 k1 p1 p2 hS hS2 hG hmm e1 e2 bx hbox hbel
        go_wp2
        go_region_with (first
          | (go_at_call 31; refine (rfit_any _ _).mono ?_; rintro e w' ⟨rfl, rfl⟩)
          | (go_at_call 33; refine hbx.mono ?_; rintro e w' ⟨rfl, rfl⟩))
        all_goals
          go_wp2
          go_roundw
          case rel => exact ⟨k + 1, by omega, by go_num, HS.out⟩
          case measure => simp [intOf]; omega
      · have e2 : min (k + 1) m = min k m := by omega
        have hk1 : (g.length : Int) ≤ k := by omega
        have hk2 : ¬ (k : Int) < g.length := by omega
        generalize f.getD k 0 = x at hx
        rw [← e2] at hG
        have HG := hide hG
        clear k0 hG p1 p2 hmm e2 hbox hbel
        go_wp2
        go_roundw
        case rel => exact ⟨k + 1, by omega, by go_num, HG.out⟩
        case measure => simp [intOf]; omega
    · obtain rfl : k = f.length := by omega
      have hE : okk f g (min f.length m) = decide (below f g) := by rw [show min f.length m = min f.length g.length by omega]; exact decide_eq_decide.2 Iff.rfl
      rw [hE] at hG
      go_wp2
      go_ret
      exact ⟨⟨_, rfl⟩, hG.box, hG.below⟩

set_option maxHeartbeats 800000 in
theorem dwithin_any (a1 a2 : Option Addr) (c1 c2 : Nat) (f g : List Int) (hf : f.length ≤ 17592186044415) (hg : g.length ≤ 17592186044415) (w : World) (p1 : Row w a1 f) (p2 : Row w a2 g) :
    Calls Try.prog 18 #[.slice a1 f.length c1, .slice a2 g.length c2] w fun e w' => e = .returned (.bool (decide (below f g))) ∧ Below w.heap.size w w' := by
  have hj := fun W hb hc => dboth_mark a1 a2 c1 c2 f g hf hg w W p1 p2 hb hc
  have hb1 := Boxed.new w 4 (.bool true)
  have hc1 : Below w.heap.size w (w.alloc (.cells #[.bool true] 4)) := balloc (Below.refl _ _) _
  generalize decide (below f g) = bb at hj
  go_enter Try.func18, Try.ntmps18
  go_wp2_with (go_at_call 20; refine (hj _ hb1 hc1).mono ?_; rintro e w' ⟨⟨v, rfl⟩, hb, hb2⟩; have hcl := hb.cell)
  go_ret
  exact ⟨rfl, hb2⟩

end Go.Proofs.Ytedcbchelliljaa
