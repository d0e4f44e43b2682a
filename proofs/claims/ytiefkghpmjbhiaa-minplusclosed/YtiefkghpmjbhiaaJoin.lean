/- PROVED: what join answers, for whatever is done to two numbers. CONDITIONS: none beyond each theorem's own. -/
import Derived.Test.YtiefkghpmjbhiaaIter
import Derived.Test.YtiefkghpmjbhiaaAns
namespace Go.Proofs.Ytiefkghpmjbhiaa
open Go.RowKit Go.Shelf

attribute [local go_sem] Oper.semAt_some

def mapTwo (h : Int → Int → Int) (ps : List (Int × Int)) : List Int := ps.map fun p => h p.1 p.2
theorem mapTwo_snoc (h : Int → Int → Int) (ps : List (Int × Int)) (x : Int × Int) : mapTwo h (ps ++ [x]) = mapTwo h ps ++ [h x.1 x.2] := by simp [mapTwo]
theorem mapTwo_prs (h : Int → Int → Int) (f g : List Int) (k : Nat) : mapTwo h (prs f g k) = outs (fun t => h (f.getD t 0) (g.getD t 0)) k := by simp [mapTwo, prs, outs]

theorem hidden {p : Prop} (h : p) : Hid p := h

/-- append, kept whole in a region that draws its order -/
def appd (args : Array Value) : Sem Value := Builtin.append_ #[22, 22] 22 args
theorem appd_whole (args : Array Value) : Builtin.append_ #[22, 22] 22 args = appd args := rfl

/-- what lies in memory when pre has come -/
def Inv (h : Int → Int → Int) (w : World) (fv s1 s2 : Value) (pre : List (Int × Int)) (W : World) : Prop :=
  ((∃ v, Boxed W (w.heap.size + 1) 22 v ∧ W.ownsRow w.heap.size 3 1 v (mapTwo h pre).length ((mapTwo h pre).map (Value.int .i64)) ∧ True) ∧ (Boxed W w.heap.size 35 fv ∧ (Boxed W (w.heap.size + 1 + 1) 22 s1 ∧ Boxed W (w.heap.size + 1 + 1 + 1) 22 s2))) ∧ Below w.heap.size w W

theorem Inv.own (h : Int → Int → Int) (w : World) (fv s1 s2 : Value) (B : Nat) (hB : w.heap.size ≤ B) : OwnFrom B (Inv h w fv s1 s2) :=
  OwnFrom.and (OwnFrom.and (Own.from (holdsRow_own w.heap.size (w.heap.size + 1) 22 3 1 (fun pre => (mapTwo h pre).length) (fun pre => (mapTwo h pre).map (Value.int .i64)) (fun _ _ => True)) _)
    (OwnFrom.and (Own.from (boxed_own _ _ (fun _ => fv)) _) (OwnFrom.and (Own.from (boxed_own _ _ (fun _ => s1)) _) (Own.from (boxed_own _ _ (fun _ => s2)) _)))) (ownFrom_below (Nat.le_refl _) hB)

theorem own_drewN {W : World} {base : Nat} {t : Value} {k : Nat} {xs : List Value} (h : W.ownsRow base 3 1 t k xs) : W.drew.ownsRow base 3 1 t k xs := own_kept h (Below.drew (Below.refl _ _))

theorem joined {h : Int → Int → Int} {w W w1 : World} {fv s1 s2 v v' : Value} {pre : List (Int × Int)} {x : Int × Int} {N : Nat} {tmp : Obj}
    (hv : Boxed W (w.heap.size + 1) 22 v) (hrow : W.ownsRow w.heap.size 3 1 v (mapTwo h pre).length ((mapTwo h pre).map (Value.int .i64))) (bF : Boxed W w.heap.size 35 fv) (bP : Boxed W (w.heap.size + 1 + 1) 22 s1) (bQ : Boxed W (w.heap.size + 1 + 1 + 1) 22 s2) (hB : Below w.heap.size w W)
    (hown' : w1.ownsRow w.heap.size 3 1 v' ((mapTwo h pre).length + 1) ((mapTwo h pre).map (Value.int .i64) ++ [.int .i64 (h x.1 x.2)])) (hgrow : (W.drew.alloc tmp).grownBy w1 v.ownBlock) :
    (Boxed w1 (w.heap.size + 1) 22 v) ∧ KeepsFrom N W (w1.setCell ⟨w.heap.size + 1, 0, none⟩ v') ∧ Keep2 w.heap.size (w.heap.size + 1 + 1) (w.heap.size + 1 + 1 + 1) W (w1.setCell ⟨w.heap.size + 1, 0, none⟩ v') ∧ Inv h w fv s1 s2 (pre ++ [x]) (w1.setCell ⟨w.heap.size + 1, 0, none⟩ v') := by
  have hvd : Boxed W.drew (w.heap.size + 1) 22 v := hv
  have hrd := own_drewN hrow
  obtain ⟨hv1, hv2, hr2, hk2, hb2⟩ := hvd.appended (by decide) hrd hB.size (Nat.le_succ _) hown' hgrow
  have keepB : ∀ {B t u}, Boxed W B t u → t ≠ 3 → B ≠ w.heap.size + 1 → Boxed (w1.setCell ⟨w.heap.size + 1, 0, none⟩ v') B t u := by
    intro B t u hb ht hne
    have hbd : Boxed W.drew B t u := hb
    exact ((hbd.alloc tmp).kept hgrow (hbd.not_row ht hrd)).kept (grownBy_setCell' w1 (w.heap.size + 1) v') (fun e => hne (by injection e))
  have bF' := keepB bF (by decide) (by omega)
  have bP' := keepB bP (by decide) (by omega)
  have bQ' := keepB bQ (by decide) (by omega)
  have hbW : Below w.heap.size W (w1.setCell ⟨w.heap.size + 1, 0, none⟩ v') := (Below.drew (Below.refl _ W)).trans hb2
  refine ⟨hv1, ((KeepsOthers.drew W).trans hk2).from _, ⟨hbW, by rw [bP'.cell, bP.cell], by rw [bQ'.cell, bQ.cell]⟩, ⟨⟨_, hv2, ?_, trivial⟩, bF', bP', bQ'⟩, hB.trans hbW⟩
  rw [mapTwo_snoc]
  simpa using hr2

attribute [local go_sem ↓] appd_whole

set_option maxRecDepth 100000 in
set_option maxHeartbeats 2000000 in
theorem join_in (K : Nat) (h : Int → Int → Int) (eK : ∀ args w, (callFunc K args).run Try.prog w = .ok (.enter K args) w) (hby : ∀ a b W, Calls Try.prog K #[.int .i64 a, .int .i64 b] W fun e w' => e = .returned (.int .i64 (h a b)) ∧ w' = W)
    (n : Nat) (hn : 4 ≤ n) (a1 a2 : Option Addr) (c1 c2 : Nat) (f g : List Int) (hf : f.length ≤ 17592186044416) (hg : g.length ≤ 17592186044416) (w : World) (k1 : Row w a1 f) (k2 : Row w a2 g) :
    CallsIn Fence.wide n Try.prog 32 #[.slice a1 f.length c1, .slice a2 g.length c2, .func (.func K) #[] #[]] w (Ans w (both h f g)) := by
  have h1 : 1 ≤ n := by omega
  obtain ⟨i0, hi, hz0, hz1, hz2⟩ := info_parts Try.info3
  refine callsIn_of_wp_marks Try.func32 rfl trivial ?_ rfl
  simp only [Try.ntmps32, List.size_toArray, List.length_cons, List.length_nil, Nat.reduceAdd, Nat.reduceSub, Array.replicate_succ, Array.replicate_zero, List.push_toArray, List.append_toArray, List.nil_append, List.cons_append]
  gi_wp2_with (refine ⟨trivial, ?_⟩; gi_at_call 34; refine (callsIn_wide.2 (both_any _ _ _ _ _ _ _)).mono ?_; rintro e w' ⟨rfl, rfl⟩)
  have bF0 := Boxed.new w 35 (.func (.func K) #[] #[])
  obtain ⟨w1, hw1⟩ : ∃ w1, w.alloc (.cells #[.func (.func K) #[] #[]] 35) = w1 := ⟨_, rfl⟩
  rw [hw1] at bF0 ⊢
  have hs1 : w1.heap.size = w.heap.size + 1 := by rw [← hw1]; simp
  have bO0 := Boxed.new w1 22 (.slice none 0 0)
  obtain ⟨w2, hw2⟩ : ∃ w2, w1.alloc (.cells #[.slice none 0 0] 22) = w2 := ⟨_, rfl⟩
  rw [hw2] at bO0 ⊢
  have hs2 : w2.heap.size = w.heap.size + 1 + 1 := by rw [← hw2]; simp [hs1]
  have bP0 := Boxed.new w2 22 (.slice a1 f.length c1)
  obtain ⟨w3, hw3⟩ : ∃ w3, w2.alloc (.cells #[.slice a1 f.length c1] 22) = w3 := ⟨_, rfl⟩
  rw [hw3] at bP0 ⊢
  have hs3 : w3.heap.size = w.heap.size + 1 + 1 + 1 := by rw [← hw3]; simp [hs2]
  have bQ0 := Boxed.new w3 22 (.slice a2 g.length c2)
  obtain ⟨w4, hw4⟩ : ∃ w4, w3.alloc (.cells #[.slice a2 g.length c2] 22) = w4 := ⟨_, rfl⟩
  rw [hw4] at bQ0 ⊢
  have hs4 : w4.heap.size = w.heap.size + 1 + 1 + 1 + 1 := by rw [← hw4]; simp [hs3]
  rw [hs1] at bO0
  rw [hs2] at bP0
  rw [hs3] at bQ0
  have hB0 : Below w.heap.size w w4 := by rw [← hw4, ← hw3, ← hw2, ← hw1]; exact balloc (balloc (balloc (balloc (Below.refl _ _) _) _) _) _
  have bF4 : Boxed w4 w.heap.size 35 (.func (.func K) #[] #[]) := by rw [← hw4, ← hw3, ← hw2]; exact ((bF0.alloc _).alloc _).alloc _
  have bO4 : Boxed w4 (w.heap.size + 1) 22 (.slice none 0 0) := by rw [← hw4, ← hw3]; exact (bO0.alloc _).alloc _
  have bP4 : Boxed w4 (w.heap.size + 1 + 1) 22 (.slice a1 f.length c1) := by rw [← hw4]; exact bP0.alloc _
  have hmx : Try.prog.follows .mixedOrders = true := by kernel_rfl
  refine wpIn_rangeFunc_ownG rfl h1 (gf := 39) (lb := #[.pointer (some ⟨w.heap.size + 1 + 1, 0, none⟩), .pointer (some ⟨w.heap.size + 1 + 1 + 1, 0, none⟩)]) rfl trivial (enters_of Try.func39 (by kernel_rfl) rfl)
    (both_stops (n - 1) (by omega) (w.heap.size + 1 + 1) (w.heap.size + 1 + 1 + 1) w.heap.size a1 a2 c1 c2 f g hf hg w4 (by omega) (by omega) (by omega) bP4.cell bQ0.cell (k1.rowB hB0) (k2.rowB hB0)) Keep2.trans (keep2_b (by omega) (by omega) (by omega)) (Below.refl _ _) (fun _ => rfl)
    (Inv h w (.func (.func K) #[] #[]) (.slice a1 f.length c1) (.slice a2 g.length c2)) (fun _ _ _ => False)
    (Inv.own h w _ _ _ _ (by omega))
    (fun _ _ _ _ _ hs _ _ => hs)
    ⟨⟨⟨_, bO4, World.ownsRow_nil _ _ _ _, trivial⟩, bF4, bP4, bQ0⟩, hB0⟩
    (fun x => { tmps := #[.slice a1 f.length c1, .slice a2 g.length c2, .func (.func K) #[] #[], undef, undef, .pointer (some ⟨w.heap.size, 0, none⟩), .slice none 0 0, .pointer (some ⟨w.heap.size + 1, 0, none⟩), .int .i64 x.1, .int .i64 x.2, .slice a1 f.length c1, .slice a2 g.length c2, .func (.func 39) #[] #[.pointer (some ⟨w.heap.size + 1 + 1, 0, none⟩), .pointer (some ⟨w.heap.size + 1 + 1 + 1, 0, none⟩)], .int .i64 x.1, .int .i64 x.2, undef, undef, undef, undef, undef, undef, undef, undef], defers := [] }) ?assign ?body ?done ?stop
  case assign =>
    intro l x W K hK
    gi_wp2
    exact hK
  case body =>
    rintro l pre x W ⟨⟨⟨v, hv, hrow, _⟩, bF, bP, bQ⟩, hB⟩ hlt
    have hd : 1 ≤ n - 1 - 1 := by omega
    have hc := hv.cell
    have hcF := bF.cell
    have hlen : (mapTwo h pre).length + 1 ≤ 17592186044416 := by simp [mapTwo]; omega
    obtain ⟨x1, x2⟩ := x
    have hbx := hby x1 x2
    obtain ⟨v', w5, hrun, hown', hgrow, _⟩ := run_append_own (P := Try.prog) (W.drew.alloc (.cells #[.int .i64 (h x1 x2)] 3)) w.heap.size 22 22 3 i0 (.int .i64 0) 1 8 Try.underlying22 hi hz0 hz1 hz2 rfl (by decide) v _ _ ((own_drewN hrow).alloc _) ⟨W.heap.size, 0, none⟩ 1 1 [.int .i64 (h x1 x2)] rfl (cell_one_new W.drew _ _) (by simp [Value.oneCell']) (by unfold maxLen; omega) (by omega) (by have := hB.size; simp; omega)
    rw [appd_whole] at hrun
    obtain ⟨g', cap', rfl⟩ := ownsRow_succ hown'
    have hrun2 : (appd #[v, .slice (some ⟨W.heap.size, 0, none⟩) 1 1]).run Try.prog (W.alloc (.cells #[.int .i64 (h x1 x2)] 3)).drew = .ok (.slice (some ⟨g', 0, none⟩) ((mapTwo h pre).length + 1) cap') w5 := hrun
    clear hrun
    have hj := joined (N := w4.heap.size) (x := (x1, x2)) hv hrow bF bP bQ hB hown' hgrow
    have hc1 := hj.1.cell
    have hf1 := hj.1.frozen
    have hc2 : (W.alloc (.cells #[.int .i64 (h x1 x2)] 3)).cell? ⟨w.heap.size + 1, 0, none⟩ = some v := (hv.alloc _).cell
    have HJ := hidden hj
    clear hj hv hrow bF bP bQ hown' hgrow hlen hlt hby k1 k2 bF0 bO0 bP0 bQ0 bF4 bO4 bP4 hB0 hw1 hw2 hw3 hs1 hs2 hs3 hf hg hi hz0 hz1 hz2 hB
    gi_wp2
    gi_region_with_o (refine ⟨trivial, ?_⟩; refine (CallsIn.inRound l (callsIn_wide.2 (hbx _))).mono ?_; rintro e w' ⟨rfl, rfl⟩)
    all_goals exact ⟨HJ.out.2.1, HJ.out.2.2.1, HJ.out.2.2.2⟩
  case done =>
    rintro D ys W hD rfl ⟨⟨⟨v, hv, hrow, _⟩, _⟩, hB⟩ hK
    have hc := hv.cell
    gi_wp2
    refine ⟨by simp, .inl ⟨_, _, rfl, run_takeDeferred hK, ?_⟩⟩
    refine ⟨_, results_tmp rfl _ _ _, ?_⟩
    rw [mapTwo_prs] at hrow
    obtain ⟨ao, cap, e, hcp, hR⟩ := owned_cap (R := both h f g) (ownsRow_putObj hrow (.deferred none) hK rfl)
    exact ⟨ao, cap, by rw [← e]; rfl, hcp, hR, hB.trans (belowK_b (w := w) (Nat.le_refl _) W D _ _ (by omega) hK rfl rfl)⟩
  case stop =>
    rintro D c pre W _ _ h _
    exact h.elim

theorem join_any (K : Nat) (h : Int → Int → Int) (eK : ∀ args w, (callFunc K args).run Try.prog w = .ok (.enter K args) w) (hby : ∀ a b W, Calls Try.prog K #[.int .i64 a, .int .i64 b] W fun e w' => e = .returned (.int .i64 (h a b)) ∧ w' = W)
    (a1 a2 : Option Addr) (n1 n2 c1 c2 : Nat) (f g : List Int) (e1 : f.length = n1) (e2 : g.length = n2) (hf : n1 ≤ 17592186044416) (hg : n2 ≤ 17592186044416) (w : World) (k1 : Row w a1 f) (k2 : Row w a2 g) :
    Calls Try.prog 32 #[.slice a1 n1 c1, .slice a2 n2 c2, .func (.func K) #[] #[]] w (Ans w (both h f g)) := by
  subst e1; subst e2
  exact callsIn_wide.1 (join_in K h eK hby 4 (Nat.le_refl _) a1 a2 c1 c2 f g hf hg w k1 k2)

theorem lower_any (a1 a2 : Option Addr) (c1 c2 : Nat) (f g : List Int) (hf : f.length ≤ 17592186044416) (hg : g.length ≤ 17592186044416) (w : World) (k1 : Row w a1 f) (k2 : Row w a2 g) :
    Calls Try.prog 21 #[.slice a1 f.length c1, .slice a2 g.length c2] w (Ans w (both lowr f g)) := by
  have hj := join_any 33 lowr (enters_of Try.func33 (by kernel_rfl) rfl) lowr_any a1 a2 _ _ c1 c2 f g rfl rfl hf hg w k1 k2
  go_enter Try.func21, Try.ntmps21
  go_wp2_with (go_at_call 32; refine hj.mono ?_; rintro e w' ⟨ao, cap, rfl, hcp, hR, hb⟩)
  go_ret
  exact ⟨ao, cap, rfl, hcp, hR, hb⟩

end Go.Proofs.Ytiefkghpmjbhiaa
