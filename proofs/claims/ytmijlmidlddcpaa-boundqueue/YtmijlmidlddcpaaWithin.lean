/- PROVED: what Within answers. CONDITIONS: none beyond each theorem's own. -/
import Derived.Test.YtmijlmidlddcpaaIter
namespace Go.Proofs.Ytmijlmidlddcpaa
open Go.RowKit Go.Shelf

attribute [local go_sem] Oper.semAt_some

theorem mem_prs {f g : List Int} {k : Nat} {p : Int × Int} : p ∈ prs f g k ↔ ∃ t, t < k ∧ (f.getD t 0, g.getD t 0) = p := by
  simp [prs, List.mem_map, List.mem_range]
theorem below_prs {f g : List Int} (h : ∀ p ∈ prs f g (min f.length g.length), fit p.1 ≤ fit p.2) : decide (below f g) = true :=
  decide_eq_true fun t ht => h (f.getD t 0, g.getD t 0) (mem_prs.2 ⟨t, ht, rfl⟩)
theorem above_prs {f g : List Int} {k : Nat} (hk : k < min f.length g.length) (h : ∃ p ∈ prs f g (k + 1), fit p.2 < fit p.1) : decide (below f g) = false := by
  refine decide_eq_false fun hb => ?_
  obtain ⟨p, hp, hlt⟩ := h
  obtain ⟨t, ht, rfl⟩ := mem_prs.1 hp
  exact absurd (hb t (by omega)) (by simp only at hlt; omega)

/-- what lies in memory while all that has come is nowhere above -/
def InvW (w : World) (s1 s2 : Value) (pre : List (Int × Int)) (W : World) : Prop :=
  ((∀ p ∈ pre, fit p.1 ≤ fit p.2) ∧ (Boxed W w.heap.size 4 (.bool false) ∧ (Boxed W (w.heap.size + 1) 22 s1 ∧ Boxed W (w.heap.size + 1 + 1) 22 s2))) ∧ Below w.heap.size w W
/-- when a number was above -/
def OutW (w : World) (c : Code) (pre : List (Int × Int)) (W : World) : Prop :=
  ((c = .ret ∧ ∃ p ∈ pre, fit p.2 < fit p.1) ∧ Boxed W w.heap.size 4 (.bool false)) ∧ Below w.heap.size w W
theorem InvW.own (w : World) (s1 s2 : Value) (B : Nat) (hB : w.heap.size ≤ B) : OwnFrom B (InvW w s1 s2) :=
  OwnFrom.and (OwnFrom.and (ownFrom_pure _ _) (OwnFrom.and (Own.from (boxed_own _ _ (fun _ => .bool false)) _) (OwnFrom.and (Own.from (boxed_own _ _ (fun _ => s1)) _) (Own.from (boxed_own _ _ (fun _ => s2)) _)))) (ownFrom_below (Nat.le_refl _) hB)
theorem OutW.own (w : World) (c : Code) (B : Nat) (hB : w.heap.size ≤ B) : OwnFrom B (OutW w c) :=
  OwnFrom.and (OwnFrom.and (ownFrom_pure _ _) (Own.from (boxed_own _ _ (fun _ => .bool false)) _)) (ownFrom_below (Nat.le_refl _) hB)

set_option maxRecDepth 100000 in
set_option maxHeartbeats 2000000 in
theorem within_in (n : Nat) (hn : 4 ≤ n) (a1 a2 : Option Addr) (c1 c2 : Nat) (f g : List Int) (hf : f.length ≤ 17592186044416) (hg : g.length ≤ 17592186044416) (w : World) (k1 : Row w a1 f) (k2 : Row w a2 g) :
    CallsIn Fence.wide n Try.prog 25 #[.slice a1 f.length c1, .slice a2 g.length c2] w fun e w' => e = .returned (.bool (decide (below f g))) ∧ Below w.heap.size w w' := by
  have h1 : 1 ≤ n := by omega
  refine callsIn_of_wp_marks Try.func25 rfl trivial ?_ rfl
  simp only [Try.ntmps25, List.size_toArray, List.length_cons, List.length_nil, Nat.reduceAdd, Nat.reduceSub, Array.replicate_succ, Array.replicate_zero, List.push_toArray, List.append_toArray, List.nil_append, List.cons_append]
  gi_wp2_with (refine ⟨trivial, ?_⟩; gi_at_call 47; refine (callsIn_wide.2 (both_any _ _ _ _ _ _ _)).mono ?_; rintro e w' ⟨rfl, rfl⟩)
  have bR0 := Boxed.new w 4 (.bool false)
  obtain ⟨w1, hw1⟩ : ∃ w1, w.alloc (.cells #[.bool false] 4) = w1 := ⟨_, rfl⟩
  rw [hw1] at bR0 ⊢
  have hs1 : w1.heap.size = w.heap.size + 1 := by rw [← hw1]; simp
  have bP0 := Boxed.new w1 22 (.slice a1 f.length c1)
  obtain ⟨w2, hw2⟩ : ∃ w2, w1.alloc (.cells #[.slice a1 f.length c1] 22) = w2 := ⟨_, rfl⟩
  rw [hw2] at bP0 ⊢
  have hs2 : w2.heap.size = w.heap.size + 1 + 1 := by rw [← hw2]; simp [hs1]
  have bQ0 := Boxed.new w2 22 (.slice a2 g.length c2)
  obtain ⟨w3, hw3⟩ : ∃ w3, w2.alloc (.cells #[.slice a2 g.length c2] 22) = w3 := ⟨_, rfl⟩
  rw [hw3] at bQ0 ⊢
  have hs3 : w3.heap.size = w.heap.size + 1 + 1 + 1 := by rw [← hw3]; simp [hs2]
  rw [hs1] at bP0
  rw [hs2] at bQ0
  have hB0 : Below w.heap.size w w3 := by rw [← hw3, ← hw2, ← hw1]; exact balloc (balloc (balloc (Below.refl _ _) _) _) _
  have bR3 : Boxed w3 w.heap.size 4 (.bool false) := by rw [← hw3, ← hw2]; exact (bR0.alloc _).alloc _
  have bP3 : Boxed w3 (w.heap.size + 1) 22 (.slice a1 f.length c1) := by rw [← hw3]; exact bP0.alloc _
  refine wpIn_rangeFunc_ownG rfl h1 (gf := 53) (lb := #[.pointer (some ⟨w.heap.size + 1, 0, none⟩), .pointer (some ⟨w.heap.size + 1 + 1, 0, none⟩)]) rfl trivial (enters_of Try.func53 (by kernel_rfl) rfl)
    (both_stops (n - 1) (by omega) (w.heap.size + 1) (w.heap.size + 1 + 1) w.heap.size a1 a2 c1 c2 f g hf hg w3 (by omega) (by omega) (by omega) bP3.cell bQ0.cell (k1.rowB hB0) (k2.rowB hB0)) Keep2.trans (keep2_b (by omega) (by omega) (by omega)) (Below.refl _ _) (fun _ => rfl)
    (InvW w (.slice a1 f.length c1) (.slice a2 g.length c2)) (OutW w)
    (InvW.own w _ _ _ (by omega))
    (fun c => OutW.own w c _ (by omega))
    ⟨⟨fun p hp => (by cases hp), bR3, bP3, bQ0⟩, hB0⟩
    (fun x => { tmps := #[.slice a1 f.length c1, .slice a2 g.length c2, undef, undef, .pointer (some ⟨w.heap.size, 0, none⟩), .int .i64 x.1, .int .i64 x.2, .slice a1 f.length c1, .slice a2 g.length c2, .func (.func 53) #[] #[.pointer (some ⟨w.heap.size + 1, 0, none⟩), .pointer (some ⟨w.heap.size + 1 + 1, 0, none⟩)], .int .i64 x.1, .int .i64 x.2, undef, undef, undef, undef, undef], defers := [] }) ?assign ?body ?done ?stop
  case assign =>
    intro l x W K hK
    gi_wp2
    exact hK
  case body =>
    rintro l pre x W ⟨⟨hp, bR, bP, bQ⟩, hB⟩ hlt
    have hd : 1 ≤ n - 1 - 1 := by omega
    have hc := bR.cell
    have hfz := bR.frozen
    obtain ⟨x1, x2⟩ := x
    by_cases hx : fit x2 < fit x1
    · have hE : ∃ p ∈ pre ++ [(x1, x2)], fit p.2 < fit p.1 := ⟨(x1, x2), by simp, hx⟩
      gi_wp2_with (refine ⟨trivial, ?_⟩; gi_at_call 35; refine (CallsIn.inRound l (callsIn_wide.2 (fit_any _ _))).mono ?_; rintro e w' ⟨rfl, rfl⟩)
      exact ⟨(KeepsOthers.setCell _ _ _).from _, ⟨⟨rfl, hE⟩, bR.set _⟩, hB.setCell (p := ⟨w.heap.size, 0, none⟩) (Nat.le_refl _) _⟩
    · have hA : ∀ p ∈ pre ++ [(x1, x2)], fit p.1 ≤ fit p.2 := fun p hm => by
        rcases List.mem_append.1 hm with h | h
        · exact hp p h
        · simp at h; subst h; simp only; omega
      have hx2 : fit x1 ≤ fit x2 := by omega
      gi_wp2_with (refine ⟨trivial, ?_⟩; gi_at_call 35; refine (CallsIn.inRound l (callsIn_wide.2 (fit_any _ _))).mono ?_; rintro e w' ⟨rfl, rfl⟩)
      exact ⟨(KeepsOthers.refl _).from _, Keep2.refl _ _ _ _, ⟨hA, bR, bP, bQ⟩, hB⟩
  case done =>
    rintro D ys W hD rfl ⟨⟨hp, bR, bP, bQ⟩, hB⟩ hK
    have hc := bR.cell
    have hfz := bR.frozen
    gi_wp2
    have hK' := (KeepsOthers.setCell W ⟨w.heap.size, 0, none⟩ (.bool true)).same D _ hK rfl
    refine ⟨by simp, .inl ⟨_, _, rfl, run_takeDeferred hK', ?_⟩⟩
    have hc5 := cell_kept (bR.set (.bool true)).cell (grownBy_putObj' _ D (.deferred none)) (fun r e => by cases e; exact ⟨_, hK', rfl⟩)
    refine ⟨.bool true, ?_, by rw [below_prs hp], (hB.setCell (p := ⟨w.heap.size, 0, none⟩) (Nat.le_refl _) _).trans (belowK_b (w := w) (Nat.le_refl _) _ D _ _ (by omega) hK' rfl rfl)⟩
    simp [results, Try.f25, go_sem, hc5]
  case stop =>
    rintro D c pre W hD ⟨k, hk, rfl⟩ ⟨⟨⟨rfl, hE⟩, bR⟩, hB⟩ hK
    gi_wp2
    refine ⟨by simp, .inl ⟨_, _, rfl, run_takeDeferred hK, ?_⟩⟩
    have hc5 := cell_kept bR.cell (grownBy_putObj' _ D (.deferred none)) (fun r e => by cases e; exact ⟨_, hK, rfl⟩)
    refine ⟨.bool false, ?_, by rw [above_prs hk hE], hB.trans (belowK_b (w := w) (Nat.le_refl _) W D _ _ (by omega) hK rfl rfl)⟩
    simp [results, Try.f25, go_sem, hc5]

theorem within_any (a1 a2 : Option Addr) (c1 c2 : Nat) (f g : List Int) (hf : f.length ≤ 17592186044416) (hg : g.length ≤ 17592186044416) (w : World) (k1 : Row w a1 f) (k2 : Row w a2 g) :
    Calls Try.prog 25 #[.slice a1 f.length c1, .slice a2 g.length c2] w fun e w' => e = .returned (.bool (decide (below f g))) ∧ Below w.heap.size w w' :=
  callsIn_wide.1 (within_in 4 (Nat.le_refl _) a1 a2 c1 c2 f g hf hg w k1 k2)

end Go.Proofs.Ytmijlmidlddcpaa
