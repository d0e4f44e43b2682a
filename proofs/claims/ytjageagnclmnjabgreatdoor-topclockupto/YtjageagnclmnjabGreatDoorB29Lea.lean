/- PROVED: what steady's Lead answers, given what its search answers. CONDITIONS: what search answers. -/
import Derived.Test.YtjageagnclmnjabGreatDoorB28Rvp
import Derived.Test.YtjageagnclmnjabGreatDoorB12Pr
namespace Go.Proofs.YtjageagnclmnjabGreatDoor.D
set_option maxRecDepth 100000
open Go.RowKit K
set_option linter.unusedVariables false

attribute [local go_sem ↓] appS_whole

/-- six numbers in a block -/
structure Six (w : World) (N : Nat) (a b c d e f : Int) : Prop where
  r : Rnd w N a b c d e f
theorem Six.new (w : World) : Six (w.alloc (.cells #[.int .i64 0, .int .i64 0, .int .i64 0, .int .i64 0, .int .i64 0, .int .i64 0] 123)) w.heap.size 0 0 0 0 0 0 := by
  have k : ∀ j, (w.alloc (.cells #[.int .i64 0, .int .i64 0, .int .i64 0, .int .i64 0, .int .i64 0, .int .i64 0] 123)).cell? ⟨w.heap.size, j, none⟩ = (#[.int .i64 0, .int .i64 0, .int .i64 0, .int .i64 0, .int .i64 0, .int .i64 0] : Array Value)[j]? := fun j => World.cell?_alloc_at _ _ _ _ rfl
  have f : ∀ j, (w.alloc (.cells #[.int .i64 0, .int .i64 0, .int .i64 0, .int .i64 0, .int .i64 0, .int .i64 0] 123)).frozen? ⟨w.heap.size, j, none⟩ = false := fun j => World.frozen?_alloc_at _ _ _ _ rfl
  exact ⟨⟨k 0, k 1, k 2, k 3, k 4, k 5, f 0, f 1, f 2, f 3, f 4, f 5⟩⟩
def put6 (w : World) (N : Nat) (a b c d e f : Int) : World := (((((w.setCell ⟨N, 0, none⟩ (.int .i64 a)).setCell ⟨N, 1, none⟩ (.int .i64 b)).setCell ⟨N, 2, none⟩ (.int .i64 c)).setCell ⟨N, 3, none⟩ (.int .i64 d)).setCell ⟨N, 4, none⟩ (.int .i64 e)).setCell ⟨N, 5, none⟩ (.int .i64 f)
theorem Six.put {w : World} {N : Nat} {a b c d e f : Int} (h : Six w N a b c d e f) (a' b' c' d' e' f' : Int) : Six (put6 w N a' b' c' d' e' f') N a' b' c' d' e' f' := ⟨h.r.put a' b' c' d' e' f'⟩
theorem put6_below {w : World} {N B : Nat} (hB : B ≤ N) (a b c d e f : Int) {w0 : World} (h : Below B w0 w) : Below B w0 (put6 w N a b c d e f) :=
  below_set (below_set (below_set (below_set (below_set (below_set h hB _) hB _) hB _) hB _) hB _) hB _
section
variable {ev : Operand → Value} {w : World}
theorem ex_i26 {o : Oper} {g n cp s x k : Nat} (ho : o.op = .indexAddr 24 (.tmp s) (.tmp x)) (h : ev (.tmp s) = .slice (some ⟨g, 0, none⟩) n cp) (hx : ev (.tmp x) = .int .i64 (k : Int)) (hk : (k : Int) < (n : Int)) : (execOp ev o).run Tryz.prog w = .ok (.value (.pointer (some ⟨g, k, none⟩))) w := by
  have h1 : k < n := by omega
  simp [execOp, ho, h, hx, go_sem, h1]
theorem ex_i70 {o : Oper} {g n cp s x k : Nat} (ho : o.op = .indexAddr 117 (.tmp s) (.tmp x)) (h : ev (.tmp s) = .slice (some ⟨g, 0, none⟩) n cp) (hx : ev (.tmp x) = .int .i64 (k : Int)) (hk : (k : Int) < (n : Int)) : (execOp ev o).run Tryz.prog w = .ok (.value (.pointer (some ⟨g, k * 6, none⟩))) w := by
  have h1 : k < n := by omega
  simp [execOp, ho, h, hx, go_sem, h1]
theorem ex_l76 {o : Oper} {g p x : Nat} {q0 q1 q2 q3 q4 q5 : Int} (ho : o.op = .load 123 (.tmp x)) (h : ev (.tmp x) = .pointer (some ⟨g, p, none⟩)) (z0 : w.cell? ⟨g, p, none⟩ = some (.int .i64 q0)) (z1 : w.cell? ⟨g, p + 1, none⟩ = some (.int .i64 q1)) (z2 : w.cell? ⟨g, p + 2, none⟩ = some (.int .i64 q2)) (z3 : w.cell? ⟨g, p + 3, none⟩ = some (.int .i64 q3)) (z4 : w.cell? ⟨g, p + 4, none⟩ = some (.int .i64 q4)) (z5 : w.cell? ⟨g, p + 5, none⟩ = some (.int .i64 q5)) : (execOp ev o).run Tryz.prog w = .ok (.value (.agg #[.int .i64 q0, .int .i64 q1, .int .i64 q2, .int .i64 q3, .int .i64 q4, .int .i64 q5])) w := by
  simp [execOp, ho, h, go_sem, z0, z1, z2, z3, z4, z5]
theorem ex_a76 {o : Oper} (ho : o.op = .alloc 123) : (execOp ev o).run Tryz.prog w = .ok (.value (.pointer (some ⟨w.heap.size, 0, none⟩))) (w.alloc (.cells #[.int .i64 0, .int .i64 0, .int .i64 0, .int .i64 0, .int .i64 0, .int .i64 0] 123)) := by
  simp [execOp, ho, go_sem]
theorem ex_s76 {o : Oper} {N s x : Nat} {q0 q1 q2 q3 q4 q5 : Int} (ho : o.op = .store 123 (.tmp s) (.tmp x)) (h : ev (.tmp s) = .pointer (some ⟨N, 0, none⟩)) (hx : ev (.tmp x) = .agg #[.int .i64 q0, .int .i64 q1, .int .i64 q2, .int .i64 q3, .int .i64 q4, .int .i64 q5]) (hN : Six w N 0 0 0 0 0 0) : (execOp ev o).run Tryz.prog w = .ok .skip (put6 w N q0 q1 q2 q3 q4 q5) := by
  obtain ⟨⟨x0, x1, x2, x3, x4, x5, f0, f1, f2, f3, f4, f5⟩⟩ := hN
  simp [execOp, ho, h, hx, go_sem, x0, x1, x2, x3, x4, x5, f0, f1, f2, f3, f4, f5, put6]
end
theorem VGath.app {w : World} {t : Value} {wr : World} {ps : List (Int × Int)} (h : VGath w t wr ps) (hp : ps.length ≤ 100000) (x y : Int) : ∃ g cap w2, (appS #[72, 72] 72 #[t, .slice (some ⟨wr.heap.size, 0, none⟩) 1 1]).run Tryz.prog (wr.alloc (.cells #[.int .i64 x, .int .i64 y] 67)) = .ok (.slice (some ⟨g, 0, none⟩) (ps.length + 1) cap) w2 ∧ VGath w (.slice (some ⟨g, 0, none⟩) (ps.length + 1) cap) w2 (ps ++ [(x, y)]) ∧ (wr.alloc (.cells #[.int .i64 x, .int .i64 y] 67)).grownBy w2 t.ownBlock := by
  obtain ⟨i0, hi, hz0, hz1, hz2⟩ := info_parts Tryz.info22
  have ho := own_keptV h.own (balloc (Below.refl _ _) (.cells #[.int .i64 x, .int .i64 y] 67))
  obtain ⟨v', w2, hrun, hown, hgrow, _⟩ := run_append_own (P := Tryz.prog) (wr.alloc (.cells #[.int .i64 x, .int .i64 y] 67)) w.heap.size 72 72 67 i0 (.agg #[.int .i64 0, .int .i64 0]) 2 16 Tryz.underlying72 hi hz0 hz1 hz2 rfl (by decide) t _ _ ho ⟨wr.heap.size, 0, none⟩ 1 1 [.int .i64 x, .int .i64 y] rfl (cell_pair_new wr x y) (by simp [Value.oneCell']) (by unfold maxLen; omega) (by omega) (by have := h.below.size; simp; omega)
  obtain ⟨hl2, ⟨_, e2⟩ | ⟨g, cap, cu, e, _⟩⟩ := id hown
  · omega
  · subst e
    exact ⟨g, cap, w2, hrun, h.next hown hgrow, hgrow⟩
/-- what was gathered may be written -/
theorem own_pr {w : World} {base g p cap : Nat} {ps : List (Int × Int)} (hp : ps.length = p) (h : w.ownsRow base 67 2 (.slice (some ⟨g, 0, none⟩) p cap) p (flatV ps)) : base ≤ g ∧ Pr w g p (fun j => (ps.getD j (0, 0)).1) (fun j => (ps.getD j (0, 0)).2) := by
  obtain ⟨hl, ⟨e, e2⟩ | ⟨g', cap', cur, e, hg, hh, hc, _, hcs, htk⟩⟩ := h
  · cases e
  · injection e with e _ _
    injection e with e
    injection e with e _ _
    subst e
    subst hp
    refine ⟨hg, fun j hj => ?_, fun j hj => ?_⟩
    · obtain ⟨f1, f2⟩ := flatV_get ps j hj
      rw [← htk, List.getElem?_take_of_lt (by omega)] at f1 f2
      simp only [World.cell?, hh]
      exact ⟨by rw [← f1]; simp, by rw [← f2]; simp⟩
    · simp [World.frozen?, hh]
theorem rev_zero (ao : Option Addr) (cp : Nat) (w : World) : Calls Tryz.prog 76 #[.slice ao 0 cp] w fun e w' => e = .returned (.tuple #[]) ∧ w' = w := by
  go_enter Tryz.func76, Tryz.ntmps76
  go_wp2
  go_loopw [2, 3] (fun i j wr => i = .int .i64 0 ∧ j = .int .i64 (-1) ∧ wr = w) (fun _ _ _ => 0)
  case atStart => exact ⟨rfl, rfl, rfl⟩
  case round =>
    obtain ⟨rfl, rfl, rfl⟩ := hrel
    go_wp2
    go_end0
    exact ⟨rfl, rfl⟩
theorem below_six {W : World} {a b c d e f : Int} : Below W.heap.size W (put6 (W.drew.alloc (.cells #[.int .i64 0, .int .i64 0, .int .i64 0, .int .i64 0, .int .i64 0, .int .i64 0] 123)) W.heap.size a b c d e f) := put6_below (Nat.le_refl _) a b c d e f (balloc (Below.drew (Below.refl _ _)) _)
def OL8 : List (Op × Option Nat) := [(.fieldAddr 119 (.tmp 6) 2, some 29), (.load 117 (.tmp 29), some 30), (.fieldAddr 119 (.tmp 6) 3, some 31), (.load 24 (.tmp 31), some 32), (.move (.tmp 1), some 33), (.indexAddr 24 (.tmp 32) (.tmp 33), some 34), (.load 3 (.tmp 34), some 35), (.indexAddr 117 (.tmp 30) (.tmp 35), some 36), (.load 123 (.tmp 36), some 37), (.alloc 123, some 9), (.store 123 (.tmp 9) (.tmp 37), none)]
def DL8 : List (List Nat) := [[], [0], [], [2], [], [3, 4], [5], [1, 6], [7], [], [8, 9]]
def TL8 : List (List Nat) := [[], [0], [], [2], [], [2, 3, 4], [2, 3, 4, 5], [0, 1, 2, 3, 4, 5, 6], [0, 1, 2, 3, 4, 5, 6, 7], [], [0, 1, 2, 3, 4, 5, 6, 7, 8, 9]]
set_option maxHeartbeats 1600000 in
set_option maxRecDepth 4000 in
theorem regionL8 {Q : Exit → Act → World → Prop} {ops : Array Oper} (ho : looks ops OL8) (hd : waits ops DL8 = true) (hor : (List.range ops.size).all (fun i => ((ops[i]?).map fun o => o.after.all fun e => !Region.binds .any e || decide (e.on < i)).getD true) = true) {id : Nat} {a0 : Act} {W : World} (hm : Tryz.prog.follows .mixedOrders = true) (hz : 37 < a0.tmps.size)
    {C g1 m1 cp1 g2 m2 cp2 m u : Nat} {q0 q1 q2 q3 q4 q5 : Int} (e6 : a0.eval (.tmp 6) = .pointer (some ⟨C, 0, none⟩)) (e1 : a0.eval (.tmp 1) = .int .i64 (m : Int)) (c2 : W.cell? ⟨C, 2, none⟩ = some (.slice (some ⟨g1, 0, none⟩) m1 cp1)) (c3 : W.cell? ⟨C, 3, none⟩ = some (.slice (some ⟨g2, 0, none⟩) m2 cp2)) (hmI : (m : Int) < (m2 : Int)) (cu : W.cell? ⟨g2, m, none⟩ = some (.int .i64 (u : Int))) (hu : (u : Int) < (m1 : Int)) (z0 : W.cell? ⟨g1, u * 6, none⟩ = some (.int .i64 q0)) (z1 : W.cell? ⟨g1, u * 6 + 1, none⟩ = some (.int .i64 q1)) (z2 : W.cell? ⟨g1, u * 6 + 2, none⟩ = some (.int .i64 q2)) (z3 : W.cell? ⟨g1, u * 6 + 3, none⟩ = some (.int .i64 q3)) (z4 : W.cell? ⟨g1, u * 6 + 4, none⟩ = some (.int .i64 q4)) (z5 : W.cell? ⟨g1, u * 6 + 5, none⟩ = some (.int .i64 q5))
    (hQ : ∀ y, y 9 = .pointer (some ⟨W.heap.size, 0, none⟩) → Q .normal (tA a0 (slotsOf OL8) y) (put6 (W.drew.alloc (.cells #[.int .i64 0, .int .i64 0, .int .i64 0, .int .i64 0, .int .i64 0, .int .i64 0] 123)) W.heap.size q0 q1 q2 q3 q4 q5)) : (Code.region id ops true).wp Tryz.prog Q a0 W := by
  refine wp_region_chain ho hd hor hm TL8 [9, 10] (by decide) (fun s hs => ?_) (fun i => ([.pointer (some ⟨C, 2, none⟩), .slice (some ⟨g1, 0, none⟩) m1 cp1, .pointer (some ⟨C, 3, none⟩), .slice (some ⟨g2, 0, none⟩) m2 cp2, .int .i64 (m : Int), .pointer (some ⟨g2, m, none⟩), .int .i64 (u : Int), .pointer (some ⟨g1, u * 6, none⟩), .agg #[.int .i64 q0, .int .i64 q1, .int .i64 q2, .int .i64 q3, .int .i64 q4, .int .i64 q5], .pointer (some ⟨W.heap.size, 0, none⟩), undef] : List Value).getD i undef) (fun p => ([W.drew, W.drew.alloc (.cells #[.int .i64 0, .int .i64 0, .int .i64 0, .int .i64 0, .int .i64 0, .int .i64 0] 123), put6 (W.drew.alloc (.cells #[.int .i64 0, .int .i64 0, .int .i64 0, .int .i64 0, .int .i64 0, .int .i64 0] 123)) W.heap.size q0 q1 q2 q3 q4 q5] : List World).getD p W.drew) rfl ?_ ?_
  · have : ∀ s ∈ slotsOf OL8, s ≤ 37 := by decide
    have := this s hs; omega
  · intro i o h1 hiO hg t ht hop hdst p hp hA hB hC a hin hdp
    have hi : i < 11 := hiO
    rcases (show i = 0 ∨ i = 1 ∨ i = 2 ∨ i = 3 ∨ i = 4 ∨ i = 5 ∨ i = 6 ∨ i = 7 ∨ i = 8 ∨ i = 9 ∨ i = 10 by omega) with rfl | rfl | rfl | rfl | rfl | rfl | rfl | rfl | rfl | rfl | rfl
    · obtain rfl : t = (.fieldAddr 119 (.tmp 6) 2, some 29) := Option.some.inj (ht.symm.trans (rfl : OL8[0]? = some (.fieldAddr 119 (.tmp 6) 2, some 29)))
      have hop : o.op = .fieldAddr 119 (.tmp 6) 2 := hop
      have i6 : a.eval (.tmp 6) = _ := (hin 6 (by decide)).trans e6
      rw [if_neg (by decide)]
      exact .inl ⟨rfl, ex_fb hop (by omega) i6⟩
    · obtain rfl : t = (.load 117 (.tmp 29), some 30) := Option.some.inj (ht.symm.trans (rfl : OL8[1]? = some (.load 117 (.tmp 29), some 30)))
      have hop : o.op = .load 117 (.tmp 29) := hop
      have d0 : a.eval (.tmp 29) = .pointer (some ⟨C, 2, none⟩) := hdp 0 29 (by decide) rfl
      rw [if_neg (by decide)]
      have hhi := hB 1 10 rfl (by decide)
      rcases (show p = 0 ∨ p = 1 by omega) with rfl | rfl
      · exact .inl ⟨rfl, ex_ly hop (by omega) d0 c2⟩
      · exact .inl ⟨rfl, ex_ly hop (by omega) d0 (((balloc (Below.drew (Below.refl W.heap.size W)) (.cells #[.int .i64 0, .int .i64 0, .int .i64 0, .int .i64 0, .int .i64 0, .int .i64 0] 123)).cell (p := ⟨C, 2, none⟩) (block_lt c2)).trans c2)⟩
    · obtain rfl : t = (.fieldAddr 119 (.tmp 6) 3, some 31) := Option.some.inj (ht.symm.trans (rfl : OL8[2]? = some (.fieldAddr 119 (.tmp 6) 3, some 31)))
      have hop : o.op = .fieldAddr 119 (.tmp 6) 3 := hop
      have i6 : a.eval (.tmp 6) = _ := (hin 6 (by decide)).trans e6
      rw [if_neg (by decide)]
      exact .inl ⟨rfl, ex_fb hop (by omega) i6⟩
    · obtain rfl : t = (.load 24 (.tmp 31), some 32) := Option.some.inj (ht.symm.trans (rfl : OL8[3]? = some (.load 24 (.tmp 31), some 32)))
      have hop : o.op = .load 24 (.tmp 31) := hop
      have d2 : a.eval (.tmp 31) = .pointer (some ⟨C, 3, none⟩) := hdp 2 31 (by decide) rfl
      rw [if_neg (by decide)]
      have hhi := hB 1 10 rfl (by decide)
      rcases (show p = 0 ∨ p = 1 by omega) with rfl | rfl
      · exact .inl ⟨rfl, ex_ly hop (by omega) d2 c3⟩
      · exact .inl ⟨rfl, ex_ly hop (by omega) d2 (((balloc (Below.drew (Below.refl W.heap.size W)) (.cells #[.int .i64 0, .int .i64 0, .int .i64 0, .int .i64 0, .int .i64 0, .int .i64 0] 123)).cell (p := ⟨C, 3, none⟩) (block_lt c3)).trans c3)⟩
    · obtain rfl : t = (.move (.tmp 1), some 33) := Option.some.inj (ht.symm.trans (rfl : OL8[4]? = some (.move (.tmp 1), some 33)))
      have hop : o.op = .move (.tmp 1) := hop
      have i1 : a.eval (.tmp 1) = _ := (hin 1 (by decide)).trans e1
      rw [if_neg (by decide)]
      exact .inl ⟨rfl, ex_mv hop i1⟩
    · obtain rfl : t = (.indexAddr 24 (.tmp 32) (.tmp 33), some 34) := Option.some.inj (ht.symm.trans (rfl : OL8[5]? = some (.indexAddr 24 (.tmp 32) (.tmp 33), some 34)))
      have hop : o.op = .indexAddr 24 (.tmp 32) (.tmp 33) := hop
      have d3 : a.eval (.tmp 32) = .slice (some ⟨g2, 0, none⟩) m2 cp2 := hdp 3 32 (by decide) rfl
      have d4 : a.eval (.tmp 33) = .int .i64 (m : Int) := hdp 4 33 (by decide) rfl
      rw [if_neg (by decide)]
      exact .inl ⟨rfl, ex_i26 hop d3 d4 hmI⟩
    · obtain rfl : t = (.load 3 (.tmp 34), some 35) := Option.some.inj (ht.symm.trans (rfl : OL8[6]? = some (.load 3 (.tmp 34), some 35)))
      have hop : o.op = .load 3 (.tmp 34) := hop
      have d5 : a.eval (.tmp 34) = .pointer (some ⟨g2, m, none⟩) := hdp 5 34 (by decide) rfl
      rw [if_neg (by decide)]
      have hhi := hB 1 10 rfl (by decide)
      rcases (show p = 0 ∨ p = 1 by omega) with rfl | rfl
      · exact .inl ⟨rfl, ex_ly hop (by omega) d5 cu⟩
      · exact .inl ⟨rfl, ex_ly hop (by omega) d5 (((balloc (Below.drew (Below.refl W.heap.size W)) (.cells #[.int .i64 0, .int .i64 0, .int .i64 0, .int .i64 0, .int .i64 0, .int .i64 0] 123)).cell (p := ⟨g2, m, none⟩) (block_lt cu)).trans cu)⟩
    · obtain rfl : t = (.indexAddr 117 (.tmp 30) (.tmp 35), some 36) := Option.some.inj (ht.symm.trans (rfl : OL8[7]? = some (.indexAddr 117 (.tmp 30) (.tmp 35), some 36)))
      have hop : o.op = .indexAddr 117 (.tmp 30) (.tmp 35) := hop
      have d1 : a.eval (.tmp 30) = .slice (some ⟨g1, 0, none⟩) m1 cp1 := hdp 1 30 (by decide) rfl
      have d6 : a.eval (.tmp 35) = .int .i64 (u : Int) := hdp 6 35 (by decide) rfl
      rw [if_neg (by decide)]
      exact .inl ⟨rfl, ex_i70 hop d1 d6 hu⟩
    · obtain rfl : t = (.load 123 (.tmp 36), some 37) := Option.some.inj (ht.symm.trans (rfl : OL8[8]? = some (.load 123 (.tmp 36), some 37)))
      have hop : o.op = .load 123 (.tmp 36) := hop
      have d7 : a.eval (.tmp 36) = .pointer (some ⟨g1, u * 6, none⟩) := hdp 7 36 (by decide) rfl
      rw [if_neg (by decide)]
      have hhi := hB 1 10 rfl (by decide)
      rcases (show p = 0 ∨ p = 1 by omega) with rfl | rfl
      · exact .inl ⟨rfl, ex_l76 hop d7 z0 z1 z2 z3 z4 z5⟩
      · exact .inl ⟨rfl, ex_l76 hop d7 (((balloc (Below.drew (Below.refl W.heap.size W)) (.cells #[.int .i64 0, .int .i64 0, .int .i64 0, .int .i64 0, .int .i64 0, .int .i64 0] 123)).cell (p := ⟨g1, u * 6, none⟩) (block_lt z0)).trans z0) (((balloc (Below.drew (Below.refl W.heap.size W)) (.cells #[.int .i64 0, .int .i64 0, .int .i64 0, .int .i64 0, .int .i64 0, .int .i64 0] 123)).cell (p := ⟨g1, u * 6 + 1, none⟩) (block_lt z1)).trans z1) (((balloc (Below.drew (Below.refl W.heap.size W)) (.cells #[.int .i64 0, .int .i64 0, .int .i64 0, .int .i64 0, .int .i64 0, .int .i64 0] 123)).cell (p := ⟨g1, u * 6 + 2, none⟩) (block_lt z2)).trans z2) (((balloc (Below.drew (Below.refl W.heap.size W)) (.cells #[.int .i64 0, .int .i64 0, .int .i64 0, .int .i64 0, .int .i64 0, .int .i64 0] 123)).cell (p := ⟨g1, u * 6 + 3, none⟩) (block_lt z3)).trans z3) (((balloc (Below.drew (Below.refl W.heap.size W)) (.cells #[.int .i64 0, .int .i64 0, .int .i64 0, .int .i64 0, .int .i64 0, .int .i64 0] 123)).cell (p := ⟨g1, u * 6 + 4, none⟩) (block_lt z4)).trans z4) (((balloc (Below.drew (Below.refl W.heap.size W)) (.cells #[.int .i64 0, .int .i64 0, .int .i64 0, .int .i64 0, .int .i64 0, .int .i64 0] 123)).cell (p := ⟨g1, u * 6 + 5, none⟩) (block_lt z5)).trans z5)⟩
    · obtain rfl : t = (.alloc 123, some 9) := Option.some.inj (ht.symm.trans (rfl : OL8[9]? = some (.alloc 123, some 9)))
      have hop : o.op = .alloc 123 := hop
      obtain rfl : 0 = p := hC 0 rfl
      rw [if_pos (by decide)]
      exact .inl ⟨rfl, ex_a76 hop⟩
    · obtain rfl : t = (.store 123 (.tmp 9) (.tmp 37), none) := Option.some.inj (ht.symm.trans (rfl : OL8[10]? = some (.store 123 (.tmp 9) (.tmp 37), none)))
      have hop : o.op = .store 123 (.tmp 9) (.tmp 37) := hop
      have d8 : a.eval (.tmp 37) = .agg #[.int .i64 q0, .int .i64 q1, .int .i64 q2, .int .i64 q3, .int .i64 q4, .int .i64 q5] := hdp 8 37 (by decide) rfl
      have d9 : a.eval (.tmp 9) = .pointer (some ⟨W.heap.size, 0, none⟩) := hdp 9 9 (by decide) rfl
      obtain rfl : 1 = p := hC 1 rfl
      rw [if_pos (by decide)]
      exact .inr ⟨rfl, ex_s76 hop d9 d8 (Six.new W.drew)⟩
  · intro y hy
    exact hQ y (hy 9 9 rfl)

/-- a slice that was made since -/
def Fr (B : Nat) (ao : Option Addr) : Prop := ∀ p, ao = some p → B ≤ p.block
theorem Fr.mono {B B' : Nat} {ao : Option Addr} (h : Fr B ao) (hb : B' ≤ B) : Fr B' ao := fun p hp => Nat.le_trans hb (h p hp)
theorem VGath.fresh {w : World} {ao : Option Addr} {n cap : Nat} {wr : World} {ps : List (Int × Int)} (h : VGath w (.slice ao n cap) wr ps) : Fr w.heap.size ao := fun p hp => by
  obtain ⟨_, ⟨e, _⟩ | ⟨g, cap', cur, e, hg, _⟩⟩ := h.own
  · injection e with e _ _; rw [e] at hp; cases hp
  · injection e with e _ _
    rw [e] at hp
    injection hp with hp
    subst hp; exact hg
/-- Lead, where there is such a state: a row that it made -/
def LdFresh : Prop := ∀ (r : Ru) (T n : Nat) (l : List Nat), wrong r = 0 → Dn r T → n < (xp r T).1.length → Ld (sp r) (ee r) (K.start r) n l → ∀ v, Calls Tryz.prog 62 #[.agg #[.int .i64 r.k0, .int .i64 r.k1, .int .i64 r.r, .int .i64 r.m, .int .i64 r.j], .int .i64 (n : Int)] v fun e w' => ∃ ao cp, e = .returned (.tuple #[.slice ao l.length cp, .int .i64 0]) ∧ VRow w' ao (l.map (pr r)) ∧ Fr v.heap.size ao ∧ Below v.heap.size v w'

theorem find_cells (v1 : World) (a b c d : Value) (ha : ∃ o n k, a = .slice o n k) : (v1.alloc (.cells #[a, b, c, d] 119)).cell? ⟨v1.heap.size, 0, none⟩ = some a ∧ (v1.alloc (.cells #[a, b, c, d] 119)).cell? ⟨v1.heap.size, 2, none⟩ = some c ∧ (v1.alloc (.cells #[a, b, c, d] 119)).cell? ⟨v1.heap.size, 3, none⟩ = some d := by
  have k : ∀ j, (v1.alloc (.cells #[a, b, c, d] 119)).cell? ⟨v1.heap.size, j, none⟩ = (#[a, b, c, d] : Array Value)[j]? := fun j => World.cell?_alloc_at _ _ _ _ rfl
  exact ⟨k 0, k 2, k 3⟩
set_option maxHeartbeats 6400000 in
set_option maxRecDepth 20000 in
theorem ld_of (sS : SrSome) : LdFresh := fun r T N l h hT hN hL v => by
  have hs := sS r T h hT
  have hrg := (wrong_ok.1 h).2
  obtain ⟨_, _, he16⟩ := jj_cast hrg
  obtain ⟨hl1, hT1, hT3⟩ := dn_pos hT
  have hTb : T ≤ 4800 := Nat.le_trans hT3 (Nat.mul_le_mul_left 300 he16)
  have hl300 := hT.2.2
  have hll := ld_small hL
  have X := Rul.new v _ rfl r.k0 r.k1 r.r r.m r.j
  have B : Below v.heap.size v (v.alloc (.cells #[.int .i64 r.k0, .int .i64 r.k1, .int .i64 r.r, .int .i64 r.m, .int .i64 r.j] 69)) := balloc (Below.refl _ _) _
  obtain ⟨x0, x1, x2, x3, x4, -, -, -, -, -⟩ := id X
  have hSs := ga_S hT.1
  have hFs := ga_F hT.1
  have hfs : ∀ j u u', u < T → u' < T → Fst (sp r) (ee r) (K.start r) j u → Fst (sp r) (ee r) (K.start r) j u' → u = u' := fun j u u' a b c d => fst_same hT.1 a b c d
  have hut : ∀ m u, Fst (sp r) (ee r) (K.start r) m u → 1 ≤ m → m < (xp r T).1.length → u < T ∧ (ga r T).F[m]? = some u := fun m u hf h1 h2 => by
    obtain ⟨u', q1, q2, q3⟩ := hFs.2 m h1 h2
    have hu : u < T := by
      rcases Nat.lt_or_ge u T with q | q
      · exact q
      · exfalso
        obtain ⟨d, rfl⟩ : ∃ d, u = T + d := ⟨u - T, by omega⟩
        have a1 := hf.1
        have a2 := hf.2.1
        rw [a2] at a1
        have e := hT.2.1
        have h3 : ee r * (m + 1) ≤ ee r * (xp r T).1.length := Nat.mul_le_mul_left _ h2
        rw [Nat.mul_add] at h3
        omega
    obtain rfl := hfs m u u' hu q2 hf q3
    exact ⟨hu, q1⟩
  obtain ⟨len, hlen⟩ : ∃ len, (xp r T).1.length = len := ⟨_, rfl⟩
  rw [hlen] at hN hl1 hl300
  have hNI : ¬ (N : Int) < 0 := by omega
  have hNJ : ¬ (len : Int) ≤ (N : Int) := by omega
  replace hlen : Hid _ := hlen
  replace hll : Hid _ := hll
  replace hSs : Hid _ := hSs
  replace hut : Hid _ := hut
  replace hL : Hid _ := hL
  clear hFs hfs X
  have hs' : ∀ w, Calls Tryz.prog 72 #[.agg #[.int .i64 r.k0, .int .i64 r.k1, .int .i64 r.r, .int .i64 r.m, .int .i64 r.j]] w fun e w' => ∃ g0 cp0 g1 cp1 g2 cp2 M, e = .returned (.tuple #[.agg #[.slice (some ⟨g0, 0, none⟩) len cp0, .map (some M), .slice (some ⟨g1, 0, none⟩) T cp1, .slice (some ⟨g2, 0, none⟩) len cp2], .int .i64 0]) ∧ (∀ u s, (ga r T).S[u]? = some s → Stq w' g1 (u * 6) r s) ∧ (∀ (j u : Nat), (ga r T).F[j]? = some u → w'.cell? ⟨g2, j, none⟩ = some (.int .i64 (u : Int))) ∧ Below w.heap.size w w' := fun w => (hs w).mono fun e w' hh => by
    obtain ⟨g0, cp0, g1, cp1, g2, cp2, M, rfl, _, _, k1, k2, b⟩ := hh
    rw [hlen.out]
    exact ⟨g0, cp0, g1, cp1, g2, cp2, M, rfl, k1, k2, b⟩
  clear hs
  go_enter Tryz.func62, Tryz.ntmps62
  go_wp2_with (go_at_call 72; refine (hs' _).mono ?_; clear hs' x0 x1 x2 x3 x4; rintro e v1 ⟨g0, cp0, g1, cp1, g2, cp2, M, rfl, k1, k2, b⟩; replace k1 : Hid (∀ u s, (ga r T).S[u]? = some s → Stq v1 g1 (u * 6) r s) := k1; replace k2 : Hid (∀ (j u : Nat), (ga r T).F[j]? = some u → v1.cell? ⟨g2, j, none⟩ = some (.int .i64 (u : Int))) := k2; replace B := bthen B b; clear b)
  obtain ⟨W1, hW1⟩ : ∃ W1, v1.alloc (.cells #[.slice (some ⟨g0, 0, none⟩) len cp0, .map (some M), .slice (some ⟨g1, 0, none⟩) T cp1, .slice (some ⟨g2, 0, none⟩) len cp2] 119) = W1 := ⟨_, rfl⟩
  obtain ⟨-, c2, c3⟩ := find_cells v1 (.slice (some ⟨g0, 0, none⟩) len cp0) (.map (some M)) (.slice (some ⟨g1, 0, none⟩) T cp1) (.slice (some ⟨g2, 0, none⟩) len cp2) ⟨_, _, _, rfl⟩
  have bA : Below v1.heap.size v1 (v1.alloc (.cells #[.slice (some ⟨g0, 0, none⟩) len cp0, .map (some M), .slice (some ⟨g1, 0, none⟩) T cp1, .slice (some ⟨g2, 0, none⟩) len cp2] 119)) := balloc (Below.refl _ _) _
  replace B := bthen B bA
  have k1' : Hid (∀ u s, (ga r T).S[u]? = some s → Stq W1 g1 (u * 6) r s) := fun u s hu => by rw [← hW1]; exact (k1.out u s hu).kept bA
  have k2' : Hid (∀ (j u : Nat), (ga r T).F[j]? = some u → W1.cell? ⟨g2, j, none⟩ = some (.int .i64 (u : Int))) := fun j u hu => by
    rw [← hW1]; exact (bA.cell (p := ⟨g2, j, none⟩) (block_lt (k2.out j u hu))).trans (k2.out j u hu)
  obtain ⟨C, hC⟩ : ∃ C, v1.heap.size = C := ⟨_, rfl⟩
  rw [hW1, hC] at c2 c3
  rw [hW1] at B ⊢
  rw [hC]
  clear k1 k2 bA hW1 hC
  go_loopw [1, 8] (fun nv lv wr => ∃ (m : Nat) (a b : List Nat), nv = .int .i64 (m : Int) ∧ m < len ∧ Ld (sp r) (ee r) (K.start r) m a ∧ l = a ++ b ∧ VGath W1 lv wr (b.reverse.map (pr r))) (fun nv _ _ => (intOf nv).toNat)
  case atStart => exact ⟨N, l, [], rfl, hN, hL.out, by simp, VGath.start _⟩
  case round =>
    obtain ⟨m, a, b, rfl, hm, hLd, hlab, hV⟩ := hrel
    by_cases h0 : m = 0
    · subst h0
      have ha : a = [] := by
        cases hLd with
        | zero => rfl
        | more hj _ _ => omega
      subst ha
      rw [List.nil_append] at hlab
      subst hlab
      have hll' := hll.out
      obtain ⟨p, hp⟩ : ∃ p, l.length = p := ⟨_, rfl⟩
      have hpl : (l.reverse.map (pr r)).length = p := by simp [hp]
      have hp3 : p ≤ 300 := by omega
      have hB2 := bthen B hV.below
      obtain ⟨ao, cp, rfl, -, -⟩ := hV.done hpl
      have hfr : Hid (Fr W1.heap.size ao) := hV.fresh
      have hrev : Calls Tryz.prog 76 #[.slice ao p cp] wr fun e w' => e = .returned (.tuple #[]) ∧ VRow w' ao (l.map (pr r)) ∧ Below W1.heap.size wr w' := by
        by_cases hp0 : p = 0
        · subst hp0
          have hl0 : l = [] := List.eq_nil_of_length_eq_zero hp
          subst hl0
          exact (rev_zero ao cp wr).mono fun e w' ⟨he, hw⟩ => ⟨he, .inl rfl, by rw [hw]; exact Below.refl _ _⟩
        · obtain ⟨hl2, ⟨e, e2⟩ | ⟨g, cap, cur, e, _⟩⟩ := id hV.own
          · rw [hpl] at e2; exact absurd e2 hp0
          · rw [hpl] at e
            injection e with e _ _
            subst e
            have hown := hV.own
            rw [hpl] at hown
            obtain ⟨hg, hPr⟩ := own_pr hpl hown
            refine (rev_pairs g p cp W1.heap.size _ _ wr hPr hg (by omega) hp3).mono fun e w' ⟨he, hP, hb⟩ => ⟨he, .inr ⟨g, 0, rfl, fun j hj => ?_⟩, hb⟩
            have hjp : j < p := by simpa [hp] using hj
            have := hP.c j hjp
            have key : (l.reverse.map (pr r)).getD (p - 1 - j) (0, 0) = (l.map (pr r)).getD j (0, 0) := by
              rw [List.getD_eq_getElem?_getD, List.getD_eq_getElem?_getD, List.getElem?_map, List.getElem?_map, List.getElem?_reverse (by omega)]
              rw [show l.length - 1 - (p - 1 - j) = j by omega]
            rw [key] at this
            rw [Nat.zero_add]
            exact this
      clear hV hll' hLd hm c2 c3
      replace hp : Hid _ := hp
      go_wp2_with (go_at_call 76; refine hrev.mono ?_; clear hrev; rintro e w' ⟨rfl, hV, hb⟩)
      refine bodyPost_ret (by simp [results, Tryz.results62, go_sem]; rfl) rfl ?_
      exact ⟨ao, cp, by rw [hp.out], hV, hfr.out.mono B.size, hB2.trans (hb.mono B.size)⟩
    · have h1 : 1 ≤ m := by omega
      obtain ⟨u, a', rfl, hf, hLd'⟩ : ∃ u a', a = a' ++ [u % ee r] ∧ Fst (sp r) (ee r) (K.start r) m u ∧ Ld (sp r) (ee r) (K.start r) (u / ee r) a' := by
        cases hLd with
        | zero => omega
        | @more _ u a' _ hf hh => exact ⟨u, a', rfl, hf, hh⟩
      obtain ⟨huT, hFm⟩ := hut.out m u hf h1 (by rw [hlen.out]; exact hm)
      obtain ⟨x, i, -, -, hSu⟩ := hSs.out.2 u huT
      have hs6 := k1'.out u _ hSu
      have cu := k2'.out m u hFm
      have hub : u / ee r < m := Nat.div_lt_of_lt_mul (by have q1 := hf.1; rw [hf.2.1] at q1; exact q1)
      have b1 := hV.below
      have q2 := (b1.cell (p := ⟨C, 2, none⟩) (block_lt c2)).trans c2
      have q3 := (b1.cell (p := ⟨C, 3, none⟩) (block_lt c3)).trans c3
      have qu := (b1.cell (p := ⟨g2, m, none⟩) (block_lt cu)).trans cu
      have hs7 := hs6.kept b1
      obtain ⟨y0, y1, y2, y3, y4, y5⟩ := hs7
      dsimp only at y0 y1 y2 y3 y4 y5
      have hmI : (0 : Int) < (m : Int) := by omega
      have hmJ : (m : Int) < (len : Int) := by omega
      have huJ : (u : Int) < (T : Int) := by omega
      obtain ⟨f, hfe⟩ : ∃ f, u / ee r = f := ⟨_, rfl⟩
      obtain ⟨lp, hlp⟩ : ∃ lp, pr r (u % ee r) = lp := ⟨_, rfl⟩
      rw [hlp] at y2 y3
      rw [hfe] at y0 hub hLd'
      have hbl : (b.reverse.map (pr r)).length ≤ 300 := by
        have := hll.out.1
        rw [hlab] at this
        simp at this ⊢
        omega
      replace hlab : Hid (l = a' ++ ([u % ee r] ++ b)) := by
        show _ = _
        rw [hlab, List.append_assoc]
      replace hlp : Hid _ := hlp
      generalize (K.round r x).c0 = e0 at *
      generalize (K.round r x).c1 = e1 at *
      clear hSu hs6 cu huT hFm hf
      go_upto_region 8 with (fail)
      refine regionL8 (by rfl) (by kernel_rfl) (by kernel_rfl) (by kernel_rfl) (by simp) (m := m) (by rfl) (by rfl) q2 q3 hmJ qu huJ y0 y1 y2 y3 y4 y5 ?_
      intro ys y9
      have s6 := (Six.new wr.drew).put (f : Int) (i : Int) lp.1 lp.2 e0 e1
      have b6 := below_six (W := wr) (a := (f : Int)) (b := (i : Int)) (c := lp.1) (d := lp.2) (e := e0) (f := e1)
      have V6 : VGath W1 u8 (put6 (wr.drew.alloc (.cells #[.int .i64 0, .int .i64 0, .int .i64 0, .int .i64 0, .int .i64 0, .int .i64 0] 123)) wr.heap.size f i lp.1 lp.2 e0 e1) (b.reverse.map (pr r)) := ⟨own_keptV hV.own b6, bthen hV.below b6⟩
      have hNo : u8.ownBlock ≠ some wr.heap.size := fun q => by have := (hV.own.lt _ q).2; omega
      obtain ⟨W6, hW6⟩ : ∃ W6, put6 (wr.drew.alloc (.cells #[.int .i64 0, .int .i64 0, .int .i64 0, .int .i64 0, .int .i64 0, .int .i64 0] 123)) wr.heap.size f i lp.1 lp.2 e0 e1 = W6 := ⟨_, rfl⟩
      obtain ⟨Nn, hNn⟩ : ∃ Nn, wr.heap.size = Nn := ⟨_, rfl⟩
      rw [hW6] at V6 b6 ⊢
      have hN6 : wr.heap.size < W6.heap.size := by
        have z : wr.heap.size < (put6 (wr.drew.alloc (.cells #[.int .i64 0, .int .i64 0, .int .i64 0, .int .i64 0, .int .i64 0, .int .i64 0] 123)) wr.heap.size f i lp.1 lp.2 e0 e1).heap.size := block_lt s6.r.c0
        rw [hW6] at z; exact z
      replace s6 : Six W6 wr.heap.size f i lp.1 lp.2 e0 e1 := by rw [← hW6]; exact s6
      obtain ⟨g, cap, w2, hr, V7, hg7⟩ := V6.app (by omega) lp.1 lp.2
      rw [hNn] at s6 hNo hN6 y9
      obtain ⟨⟨t0, -, t2, t3, -⟩⟩ := id s6
      have t0' : w2.cell? ⟨Nn, 0, none⟩ = some (.int .i64 (f : Int)) := by
        refine (World.cell?_of_block (a := ⟨Nn, 0, none⟩) (hg7.block Nn ?_ (fun q => hNo q.symm))).trans (((balloc (Below.refl W6.heap.size W6) _).cell (p := ⟨Nn, 0, none⟩) hN6).trans t0)
        simp; omega
      rw [show slotsOf OL8 = [29, 30, 31, 32, 33, 34, 35, 36, 37, 9] from rfl]
      simp only [tA, sets]
      simp only [List.setIfInBounds_toArray, List.set_cons_succ, List.set_cons_zero, y9]
      generalize ys 29 = z29
      generalize ys 30 = z30
      generalize ys 31 = z31
      generalize ys 32 = z32
      generalize ys 33 = z33
      generalize ys 34 = z34
      generalize ys 35 = z35
      generalize ys 36 = z36
      generalize ys 37 = z37
      clear hW6 hNn y9 y0 y1 y2 y3 y4 y5 q2 q3 qu b6 s6 hNo hN6 V6
      go_wp2
      go_roundw
      case rel =>
        refine ⟨f, a', [u % ee r] ++ b, rfl, by omega, hLd', hlab.out, ?_⟩
        rw [List.reverse_append, List.map_append]
        have e : [u % ee r].reverse.map (pr r) = [(lp.1, lp.2)] := by simp [hlp.out]
        rw [e]
        have := V7
        simp only [List.length_map, List.length_reverse] at this ⊢
        exact this
      case measure => simp [intOf]; omega

end Go.Proofs.YtjageagnclmnjabGreatDoor.D
