/- PROVED: the document's own SGraph: the region in which an edge is appended, in whatever order. CONDITIONS: none beyond each theorem's own. -/
import Derived.Test.YtjageagnclmnjaaGreatDoorB29Lea
import Derived.Test.YtjageagnclmnjaaGreatDoorB11Chn
namespace Go.Proofs.YtjageagnclmnjaaGreatDoor.D
set_option maxRecDepth 100000
open Go.RowKit K
set_option linter.unusedVariables false
section
variable {ev : Operand → Value} {w : World}
theorem ex_f40 {o : Oper} {C t : Nat} (ho : o.op = .fieldAddr 52 (.tmp t) 1) (h : ev (.tmp t) = .pointer (some ⟨C, 0, none⟩)) : (execOp ev o).run Tryz.prog w = .ok (.value (.pointer (some ⟨C, 1, none⟩))) w := by
  simp [execOp, ho, h, go_sem]
theorem ex_f62 {o : Oper} {C t : Nat} (ho : o.op = .fieldAddr 86 (.tmp t) 1) (h : ev (.tmp t) = .pointer (some ⟨C, 0, none⟩)) : (execOp ev o).run Tryz.prog w = .ok (.value (.pointer (some ⟨C, 2, none⟩))) w := by
  simp [execOp, ho, h, go_sem]
theorem ex_l38 {o : Oper} {C c s : Nat} {x : Value} (ho : o.op = .load 50 (.tmp s)) (h : ev (.tmp s) = .pointer (some ⟨C, c, none⟩)) (hx : w.cell? ⟨C, c, none⟩ = some x) : (execOp ev o).run Tryz.prog w = .ok (.value x) w := by
  simp [execOp, ho, h, go_sem, hx]
theorem ex_x22_0 {o : Oper} {C s x : Nat} (ho : o.op = .indexAddr 31 (.tmp s) (.tmp x)) (h : ev (.tmp s) = .pointer (some ⟨C, 2, none⟩)) (hx : ev (.tmp x) = .int .i64 0) : (execOp ev o).run Tryz.prog w = .ok (.value (.pointer (some ⟨C, 2, none⟩))) w := by
  simp [execOp, ho, h, hx, go_sem]
theorem ex_x22_1 {o : Oper} {C s x : Nat} (ho : o.op = .indexAddr 31 (.tmp s) (.tmp x)) (h : ev (.tmp s) = .pointer (some ⟨C, 2, none⟩)) (hx : ev (.tmp x) = .int .i64 1) : (execOp ev o).run Tryz.prog w = .ok (.value (.pointer (some ⟨C, 3, none⟩))) w := by
  simp [execOp, ho, h, hx, go_sem]
theorem ex_b1_0 {o : Oper} {s : Nat} (ho : o.op = .binOp .sub 3 (.const (.int .i64 1)) (.tmp s) 3) (h : ev (.tmp s) = .int .i64 0) (hc : ev (.const (.int .i64 1)) = .int .i64 1) : (execOp ev o).run Tryz.prog w = .ok (.value (.int .i64 1)) w := by
  simp [execOp, ho, h, hc, go_sem]
  rfl
theorem ex_b1_1 {o : Oper} {s : Nat} (ho : o.op = .binOp .sub 3 (.const (.int .i64 1)) (.tmp s) 3) (h : ev (.tmp s) = .int .i64 1) (hc : ev (.const (.int .i64 1)) = .int .i64 1) : (execOp ev o).run Tryz.prog w = .ok (.value (.int .i64 0)) w := by
  simp [execOp, ho, h, hc, go_sem]
  rfl
theorem ex_bm {o : Oper} {s x : Nat} {a b c : Int} (ho : o.op = .binOp .mul 3 (.tmp s) (.tmp x) 3) (h : ev (.tmp s) = .int .i64 a) (hx : ev (.tmp x) = .int .i64 b) (hc : IntKind.i64.wrap (a * b) = c) : (execOp ev o).run Tryz.prog w = .ok (.value (.int .i64 c)) w := by
  simp [execOp, ho, h, hx, go_sem, hc]
theorem ex_bs {o : Oper} {s x : Nat} {a b : Int} (ho : o.op = .binOp .sub 3 (.tmp s) (.tmp x) 3) (h : ev (.tmp s) = .int .i64 a) (hx : ev (.tmp x) = .int .i64 b) (hc : IntKind.i64.wrap (a - b) = a - b) : (execOp ev o).run Tryz.prog w = .ok (.value (.int .i64 (a - b))) w := by
  simp [execOp, ho, h, hx, go_sem, hc]
theorem ex_bd {o : Oper} {s x z : Nat} {a b c : Int} (ho : o.op = .build 81 #[(0, .tmp s), (1, .tmp x), (2, .tmp z)]) (h : ev (.tmp s) = .int .i64 a) (hx : ev (.tmp x) = .int .i64 b) (hz : ev (.tmp z) = .int .i64 c) : (execOp ev o).run Tryz.prog w = .ok (.value (.agg #[.int .i64 a, .int .i64 b, .int .i64 c])) w := by
  simp [execOp, ho, h, hx, hz, go_sem]
theorem ex_bs38 {o : Oper} {s : Nat} {a b c : Int} (ho : o.op = .buildSlice 50 1 #[(0, .tmp s)]) (h : ev (.tmp s) = .agg #[.int .i64 a, .int .i64 b, .int .i64 c]) : (execOp ev o).run Tryz.prog w = .ok (.value (.slice (some ⟨w.heap.size, 0, none⟩) 1 1)) (w.alloc (.cells #[.int .i64 a, .int .i64 b, .int .i64 c] 81)) := by
  simp [execOp, ho, h, go_sem]
theorem ex_s38 {o : Oper} {C c s x : Nat} {ao : Option Addr} {l cp : Nat} {u : Value} (ho : o.op = .store 50 (.tmp s) (.tmp x)) (h : ev (.tmp s) = .pointer (some ⟨C, c, none⟩)) (hx : ev (.tmp x) = .slice ao l cp) (hc : w.cell? ⟨C, c, none⟩ = some u) (hf : w.frozen? ⟨C, c, none⟩ = false) : (execOp ev o).run Tryz.prog w = .ok .skip (w.setCell ⟨C, c, none⟩ (.slice ao l cp)) := by
  simp [execOp, ho, h, go_sem, hx, hc, hf]
end
def OSG0 : List (Op × Option Nat) := [(.fieldAddr 52 (.tmp 7) 1, some 22), (.load 50 (.tmp 22), some 23), (.fieldAddr 102 (.tmp 3) 1, some 24), (.load 66 (.tmp 24), some 25), (.move (.tmp 8), some 26), (.indexAddr 66 (.tmp 25) (.tmp 26), some 27), (.load 3 (.tmp 27), some 28), (.fieldAddr 102 (.tmp 3) 2, some 29), (.load 66 (.tmp 29), some 30), (.move (.tmp 8), some 31), (.indexAddr 66 (.tmp 30) (.tmp 31), some 32), (.load 3 (.tmp 32), some 33), (.move (.tmp 1), some 34), (.fieldAddr 86 (.tmp 9) 1, some 35), (.indexAddr 31 (.tmp 35) (.tmp 34), some 36), (.load 3 (.tmp 36), some 37), (.move (.tmp 2), some 38), (.move (.tmp 1), some 39), (.binOp .sub 3 (.const (.int .i64 1)) (.tmp 39) 3, some 40), (.fieldAddr 86 (.tmp 9) 1, some 41), (.indexAddr 31 (.tmp 41) (.tmp 40), some 42), (.load 3 (.tmp 42), some 43), (.binOp .mul 3 (.tmp 38) (.tmp 43) 3, some 44), (.binOp .sub 3 (.tmp 37) (.tmp 44) 3, some 45), (.build 81 #[(0, .tmp 28), (1, .tmp 33), (2, .tmp 45)], some 46), (.buildSlice 50 1 #[(0, .tmp 46)], some 47), (.call { callee := .builtin .append, args := #[.tmp 23, .tmp 47], argTypes := #[50, 50] }, some 48), (.fieldAddr 52 (.tmp 7) 1, some 49), (.store 50 (.tmp 49) (.tmp 48), none)]
def DSG0 : List (List Nat) := [[], [0], [], [2], [], [3, 4], [5], [], [7], [], [8, 9], [10], [], [], [13, 12], [14], [], [], [17], [], [19, 18], [20], [16, 21], [15, 22], [6, 11, 23], [24], [1, 25], [], [26, 27]]
def TSG0 : List (List Nat) := [[], [0], [], [2], [], [2, 3, 4], [2, 3, 4, 5], [], [7], [], [7, 8, 9], [7, 8, 9, 10], [], [], [12, 13], [12, 13, 14], [], [], [17], [], [17, 18, 19], [17, 18, 19, 20], [16, 17, 18, 19, 20, 21], [12, 13, 14, 15, 16, 17, 18, 19, 20, 21, 22], [2, 3, 4, 5, 6, 7, 8, 9, 10, 11, 12, 13, 14, 15, 16, 17, 18, 19, 20, 21, 22, 23], [2, 3, 4, 5, 6, 7, 8, 9, 10, 11, 12, 13, 14, 15, 16, 17, 18, 19, 20, 21, 22, 23, 24], [0, 1, 2, 3, 4, 5, 6, 7, 8, 9, 10, 11, 12, 13, 14, 15, 16, 17, 18, 19, 20, 21, 22, 23, 24, 25], [], [0, 1, 2, 3, 4, 5, 6, 7, 8, 9, 10, 11, 12, 13, 14, 15, 16, 17, 18, 19, 20, 21, 22, 23, 24, 25, 26, 27]]
set_option maxHeartbeats 1600000 in
set_option maxRecDepth 4000 in
theorem regionSG0 {Q : Exit → Act → World → Prop} {ops : Array Oper} (ho : looks ops OSG0) (hd : waits ops DSG0 = true) (hor : (List.range ops.size).all (fun i => ((ops[i]?).map fun o => o.after.all fun e => !Region.binds .any e || decide (e.on < i)).getD true) = true) {id : Nat} {a0 : Act} {W : World} (hm : Tryz.prog.follows .mixedOrders = true) (hz : 49 < a0.tmps.size)
    {C P Rn g1 c1 g2 c2 T k g m cap : Nat} {f tt e0 e1 ratio pd : Int} {t : Value} {w2 : World} (e3 : a0.eval (.tmp 3) = .pointer (some ⟨P, 0, none⟩)) (e7 : a0.eval (.tmp 7) = .pointer (some ⟨C, 0, none⟩)) (e8 : a0.eval (.tmp 8) = .int .i64 (k : Int)) (e9 : a0.eval (.tmp 9) = .pointer (some ⟨Rn, 0, none⟩)) (w1 : a0.eval (.tmp 1) = .int .i64 0) (w2e : a0.eval (.tmp 2) = .int .i64 ratio) (hte : W.drew.cell? ⟨C, 1, none⟩ = some t) (hte1 : (W.drew.alloc (.cells #[.int .i64 f, .int .i64 tt, .int .i64 (e0 - pd)] 81)).cell? ⟨C, 1, none⟩ = some t) (hp1 : W.drew.cell? ⟨P, 1, none⟩ = some (.slice (some ⟨g1, 0, none⟩) T c1)) (hp2 : W.drew.cell? ⟨P, 2, none⟩ = some (.slice (some ⟨g2, 0, none⟩) T c2)) (hk : (k : Int) < (T : Int)) (hf : W.drew.cell? ⟨g1, k, none⟩ = some (.int .i64 f)) (hto : W.drew.cell? ⟨g2, k, none⟩ = some (.int .i64 tt)) (hr2 : W.drew.cell? ⟨Rn, 2, none⟩ = some (.int .i64 e0)) (hr3 : W.drew.cell? ⟨Rn, 3, none⟩ = some (.int .i64 e1)) (hpd : IntKind.i64.wrap (ratio * e1) = pd) (hsb : IntKind.i64.wrap (e0 - pd) = e0 - pd)
    (hr : ∀ ty, (Builtin.append_ #[50, 50] ty #[t, .slice (some ⟨W.heap.size, 0, none⟩) 1 1]).run Tryz.prog (W.drew.alloc (.cells #[.int .i64 f, .int .i64 tt, .int .i64 (e0 - pd)] 81)) = .ok (.slice (some ⟨g, 0, none⟩) m cap) w2) (c5 : w2.cell? ⟨C, 1, none⟩ = some t) (f5 : w2.frozen? ⟨C, 1, none⟩ = false)
    (hQ : ∀ y, Q .normal (tA a0 (slotsOf OSG0) y) (w2.setCell ⟨C, 1, none⟩ (.slice (some ⟨g, 0, none⟩) m cap))) : (Code.region id ops true).wp Tryz.prog Q a0 W := by
  refine wp_region_chain ho hd hor hm TSG0 [25, 26, 28] (by decide) (fun s hs => ?_) (fun i => ([.pointer (some ⟨C, 1, none⟩), t, .pointer (some ⟨P, 1, none⟩), .slice (some ⟨g1, 0, none⟩) T c1, .int .i64 (k : Int), .pointer (some ⟨g1, k, none⟩), .int .i64 f, .pointer (some ⟨P, 2, none⟩), .slice (some ⟨g2, 0, none⟩) T c2, .int .i64 (k : Int), .pointer (some ⟨g2, k, none⟩), .int .i64 tt, .int .i64 0, .pointer (some ⟨Rn, 2, none⟩), .pointer (some ⟨Rn, 2, none⟩), .int .i64 e0, .int .i64 ratio, .int .i64 0, .int .i64 1, .pointer (some ⟨Rn, 2, none⟩), .pointer (some ⟨Rn, 3, none⟩), .int .i64 e1, .int .i64 pd, .int .i64 (e0 - pd), .agg #[.int .i64 f, .int .i64 tt, .int .i64 (e0 - pd)], .slice (some ⟨W.heap.size, 0, none⟩) 1 1, .slice (some ⟨g, 0, none⟩) m cap, .pointer (some ⟨C, 1, none⟩), undef] : List Value).getD i undef) (fun p => ([W.drew, W.drew.alloc (.cells #[.int .i64 f, .int .i64 tt, .int .i64 (e0 - pd)] 81), w2, w2.setCell ⟨C, 1, none⟩ (.slice (some ⟨g, 0, none⟩) m cap)] : List World).getD p W.drew) rfl ?_ ?_
  · have : ∀ s ∈ slotsOf OSG0, s ≤ 49 := by decide
    have := this s hs; omega
  · intro i o h1 hiO hg t ht hop hdst p hp hA hB hC a hin hdp
    have hi : i < 29 := hiO
    rcases (show i = 0 ∨ i = 1 ∨ i = 2 ∨ i = 3 ∨ i = 4 ∨ i = 5 ∨ i = 6 ∨ i = 7 ∨ i = 8 ∨ i = 9 ∨ i = 10 ∨ i = 11 ∨ i = 12 ∨ i = 13 ∨ i = 14 ∨ i = 15 ∨ i = 16 ∨ i = 17 ∨ i = 18 ∨ i = 19 ∨ i = 20 ∨ i = 21 ∨ i = 22 ∨ i = 23 ∨ i = 24 ∨ i = 25 ∨ i = 26 ∨ i = 27 ∨ i = 28 by omega) with rfl | rfl | rfl | rfl | rfl | rfl | rfl | rfl | rfl | rfl | rfl | rfl | rfl | rfl | rfl | rfl | rfl | rfl | rfl | rfl | rfl | rfl | rfl | rfl | rfl | rfl | rfl | rfl | rfl
    · obtain rfl : t = (.fieldAddr 52 (.tmp 7) 1, some 22) := Option.some.inj (ht.symm.trans (rfl : OSG0[0]? = some (.fieldAddr 52 (.tmp 7) 1, some 22)))
      have hop : o.op = .fieldAddr 52 (.tmp 7) 1 := hop
      have i7 : a.eval (.tmp 7) = _ := (hin 7 (by decide)).trans e7
      rw [if_neg (by decide)]
      exact .inl ⟨rfl, ex_f40 hop i7⟩
    · obtain rfl : t = (.load 50 (.tmp 22), some 23) := Option.some.inj (ht.symm.trans (rfl : OSG0[1]? = some (.load 50 (.tmp 22), some 23)))
      have hop : o.op = .load 50 (.tmp 22) := hop
      have d0 : a.eval (.tmp 22) = .pointer (some ⟨C, 1, none⟩) := hdp 0 22 (by decide) rfl
      rw [if_neg (by decide)]
      have hhi := hB 1 26 rfl (by decide)
      rcases (show p = 0 ∨ p = 1 by omega) with rfl | rfl
      · exact .inl ⟨rfl, ex_l38 hop d0 hte⟩
      · exact .inl ⟨rfl, ex_l38 hop d0 hte1⟩
    · obtain rfl : t = (.fieldAddr 102 (.tmp 3) 1, some 24) := Option.some.inj (ht.symm.trans (rfl : OSG0[2]? = some (.fieldAddr 102 (.tmp 3) 1, some 24)))
      have hop : o.op = .fieldAddr 102 (.tmp 3) 1 := hop
      have i3 : a.eval (.tmp 3) = _ := (hin 3 (by decide)).trans e3
      rw [if_neg (by decide)]
      exact .inl ⟨rfl, ex_fa hop (by omega) i3⟩
    · obtain rfl : t = (.load 66 (.tmp 24), some 25) := Option.some.inj (ht.symm.trans (rfl : OSG0[3]? = some (.load 66 (.tmp 24), some 25)))
      have hop : o.op = .load 66 (.tmp 24) := hop
      have d2 : a.eval (.tmp 24) = .pointer (some ⟨P, 1, none⟩) := hdp 2 24 (by decide) rfl
      rw [if_neg (by decide)]
      have hhi := hB 0 25 rfl (by decide)
      obtain rfl : p = 0 := by omega
      exact .inl ⟨rfl, ex_ly hop (by omega) d2 hp1⟩
    · obtain rfl : t = (.move (.tmp 8), some 26) := Option.some.inj (ht.symm.trans (rfl : OSG0[4]? = some (.move (.tmp 8), some 26)))
      have hop : o.op = .move (.tmp 8) := hop
      have i8 : a.eval (.tmp 8) = _ := (hin 8 (by decide)).trans e8
      rw [if_neg (by decide)]
      exact .inl ⟨rfl, ex_mv hop i8⟩
    · obtain rfl : t = (.indexAddr 66 (.tmp 25) (.tmp 26), some 27) := Option.some.inj (ht.symm.trans (rfl : OSG0[5]? = some (.indexAddr 66 (.tmp 25) (.tmp 26), some 27)))
      have hop : o.op = .indexAddr 66 (.tmp 25) (.tmp 26) := hop
      have d3 : a.eval (.tmp 25) = .slice (some ⟨g1, 0, none⟩) T c1 := hdp 3 25 (by decide) rfl
      have d4 : a.eval (.tmp 26) = .int .i64 (k : Int) := hdp 4 26 (by decide) rfl
      rw [if_neg (by decide)]
      exact .inl ⟨rfl, ex_i26 hop d3 d4 hk⟩
    · obtain rfl : t = (.load 3 (.tmp 27), some 28) := Option.some.inj (ht.symm.trans (rfl : OSG0[6]? = some (.load 3 (.tmp 27), some 28)))
      have hop : o.op = .load 3 (.tmp 27) := hop
      have d5 : a.eval (.tmp 27) = .pointer (some ⟨g1, k, none⟩) := hdp 5 27 (by decide) rfl
      rw [if_neg (by decide)]
      have hhi := hB 0 25 rfl (by decide)
      obtain rfl : p = 0 := by omega
      exact .inl ⟨rfl, ex_ly hop (by omega) d5 hf⟩
    · obtain rfl : t = (.fieldAddr 102 (.tmp 3) 2, some 29) := Option.some.inj (ht.symm.trans (rfl : OSG0[7]? = some (.fieldAddr 102 (.tmp 3) 2, some 29)))
      have hop : o.op = .fieldAddr 102 (.tmp 3) 2 := hop
      have i3 : a.eval (.tmp 3) = _ := (hin 3 (by decide)).trans e3
      rw [if_neg (by decide)]
      exact .inl ⟨rfl, ex_fa hop (by omega) i3⟩
    · obtain rfl : t = (.load 66 (.tmp 29), some 30) := Option.some.inj (ht.symm.trans (rfl : OSG0[8]? = some (.load 66 (.tmp 29), some 30)))
      have hop : o.op = .load 66 (.tmp 29) := hop
      have d7 : a.eval (.tmp 29) = .pointer (some ⟨P, 2, none⟩) := hdp 7 29 (by decide) rfl
      rw [if_neg (by decide)]
      have hhi := hB 0 25 rfl (by decide)
      obtain rfl : p = 0 := by omega
      exact .inl ⟨rfl, ex_ly hop (by omega) d7 hp2⟩
    · obtain rfl : t = (.move (.tmp 8), some 31) := Option.some.inj (ht.symm.trans (rfl : OSG0[9]? = some (.move (.tmp 8), some 31)))
      have hop : o.op = .move (.tmp 8) := hop
      have i8 : a.eval (.tmp 8) = _ := (hin 8 (by decide)).trans e8
      rw [if_neg (by decide)]
      exact .inl ⟨rfl, ex_mv hop i8⟩
    · obtain rfl : t = (.indexAddr 66 (.tmp 30) (.tmp 31), some 32) := Option.some.inj (ht.symm.trans (rfl : OSG0[10]? = some (.indexAddr 66 (.tmp 30) (.tmp 31), some 32)))
      have hop : o.op = .indexAddr 66 (.tmp 30) (.tmp 31) := hop
      have d8 : a.eval (.tmp 30) = .slice (some ⟨g2, 0, none⟩) T c2 := hdp 8 30 (by decide) rfl
      have d9 : a.eval (.tmp 31) = .int .i64 (k : Int) := hdp 9 31 (by decide) rfl
      rw [if_neg (by decide)]
      exact .inl ⟨rfl, ex_i26 hop d8 d9 hk⟩
    · obtain rfl : t = (.load 3 (.tmp 32), some 33) := Option.some.inj (ht.symm.trans (rfl : OSG0[11]? = some (.load 3 (.tmp 32), some 33)))
      have hop : o.op = .load 3 (.tmp 32) := hop
      have d10 : a.eval (.tmp 32) = .pointer (some ⟨g2, k, none⟩) := hdp 10 32 (by decide) rfl
      rw [if_neg (by decide)]
      have hhi := hB 0 25 rfl (by decide)
      obtain rfl : p = 0 := by omega
      exact .inl ⟨rfl, ex_ly hop (by omega) d10 hto⟩
    · obtain rfl : t = (.move (.tmp 1), some 34) := Option.some.inj (ht.symm.trans (rfl : OSG0[12]? = some (.move (.tmp 1), some 34)))
      have hop : o.op = .move (.tmp 1) := hop
      have i1 : a.eval (.tmp 1) = _ := (hin 1 (by decide)).trans w1
      rw [if_neg (by decide)]
      exact .inl ⟨rfl, ex_mv hop i1⟩
    · obtain rfl : t = (.fieldAddr 86 (.tmp 9) 1, some 35) := Option.some.inj (ht.symm.trans (rfl : OSG0[13]? = some (.fieldAddr 86 (.tmp 9) 1, some 35)))
      have hop : o.op = .fieldAddr 86 (.tmp 9) 1 := hop
      have i9 : a.eval (.tmp 9) = _ := (hin 9 (by decide)).trans e9
      rw [if_neg (by decide)]
      exact .inl ⟨rfl, ex_f62 hop i9⟩
    · obtain rfl : t = (.indexAddr 31 (.tmp 35) (.tmp 34), some 36) := Option.some.inj (ht.symm.trans (rfl : OSG0[14]? = some (.indexAddr 31 (.tmp 35) (.tmp 34), some 36)))
      have hop : o.op = .indexAddr 31 (.tmp 35) (.tmp 34) := hop
      have d13 : a.eval (.tmp 35) = .pointer (some ⟨Rn, 2, none⟩) := hdp 13 35 (by decide) rfl
      have d12 : a.eval (.tmp 34) = .int .i64 0 := hdp 12 34 (by decide) rfl
      rw [if_neg (by decide)]
      exact .inl ⟨rfl, ex_x22_0 hop d13 d12⟩
    · obtain rfl : t = (.load 3 (.tmp 36), some 37) := Option.some.inj (ht.symm.trans (rfl : OSG0[15]? = some (.load 3 (.tmp 36), some 37)))
      have hop : o.op = .load 3 (.tmp 36) := hop
      have d14 : a.eval (.tmp 36) = .pointer (some ⟨Rn, 2, none⟩) := hdp 14 36 (by decide) rfl
      rw [if_neg (by decide)]
      have hhi := hB 0 25 rfl (by decide)
      obtain rfl : p = 0 := by omega
      exact .inl ⟨rfl, ex_ly hop (by omega) d14 hr2⟩
    · obtain rfl : t = (.move (.tmp 2), some 38) := Option.some.inj (ht.symm.trans (rfl : OSG0[16]? = some (.move (.tmp 2), some 38)))
      have hop : o.op = .move (.tmp 2) := hop
      have i2 : a.eval (.tmp 2) = _ := (hin 2 (by decide)).trans w2e
      rw [if_neg (by decide)]
      exact .inl ⟨rfl, ex_mv hop i2⟩
    · obtain rfl : t = (.move (.tmp 1), some 39) := Option.some.inj (ht.symm.trans (rfl : OSG0[17]? = some (.move (.tmp 1), some 39)))
      have hop : o.op = .move (.tmp 1) := hop
      have i1 : a.eval (.tmp 1) = _ := (hin 1 (by decide)).trans w1
      rw [if_neg (by decide)]
      exact .inl ⟨rfl, ex_mv hop i1⟩
    · obtain rfl : t = (.binOp .sub 3 (.const (.int .i64 1)) (.tmp 39) 3, some 40) := Option.some.inj (ht.symm.trans (rfl : OSG0[18]? = some (.binOp .sub 3 (.const (.int .i64 1)) (.tmp 39) 3, some 40)))
      have hop : o.op = .binOp .sub 3 (.const (.int .i64 1)) (.tmp 39) 3 := hop
      have d17 : a.eval (.tmp 39) = .int .i64 0 := hdp 17 39 (by decide) rfl
      rw [if_neg (by decide)]
      exact .inl ⟨rfl, ex_b1_0 hop d17 rfl⟩
    · obtain rfl : t = (.fieldAddr 86 (.tmp 9) 1, some 41) := Option.some.inj (ht.symm.trans (rfl : OSG0[19]? = some (.fieldAddr 86 (.tmp 9) 1, some 41)))
      have hop : o.op = .fieldAddr 86 (.tmp 9) 1 := hop
      have i9 : a.eval (.tmp 9) = _ := (hin 9 (by decide)).trans e9
      rw [if_neg (by decide)]
      exact .inl ⟨rfl, ex_f62 hop i9⟩
    · obtain rfl : t = (.indexAddr 31 (.tmp 41) (.tmp 40), some 42) := Option.some.inj (ht.symm.trans (rfl : OSG0[20]? = some (.indexAddr 31 (.tmp 41) (.tmp 40), some 42)))
      have hop : o.op = .indexAddr 31 (.tmp 41) (.tmp 40) := hop
      have d19 : a.eval (.tmp 41) = .pointer (some ⟨Rn, 2, none⟩) := hdp 19 41 (by decide) rfl
      have d18 : a.eval (.tmp 40) = .int .i64 1 := hdp 18 40 (by decide) rfl
      rw [if_neg (by decide)]
      exact .inl ⟨rfl, ex_x22_1 hop d19 d18⟩
    · obtain rfl : t = (.load 3 (.tmp 42), some 43) := Option.some.inj (ht.symm.trans (rfl : OSG0[21]? = some (.load 3 (.tmp 42), some 43)))
      have hop : o.op = .load 3 (.tmp 42) := hop
      have d20 : a.eval (.tmp 42) = .pointer (some ⟨Rn, 3, none⟩) := hdp 20 42 (by decide) rfl
      rw [if_neg (by decide)]
      have hhi := hB 0 25 rfl (by decide)
      obtain rfl : p = 0 := by omega
      exact .inl ⟨rfl, ex_ly hop (by omega) d20 hr3⟩
    · obtain rfl : t = (.binOp .mul 3 (.tmp 38) (.tmp 43) 3, some 44) := Option.some.inj (ht.symm.trans (rfl : OSG0[22]? = some (.binOp .mul 3 (.tmp 38) (.tmp 43) 3, some 44)))
      have hop : o.op = .binOp .mul 3 (.tmp 38) (.tmp 43) 3 := hop
      have d16 : a.eval (.tmp 38) = .int .i64 ratio := hdp 16 38 (by decide) rfl
      have d21 : a.eval (.tmp 43) = .int .i64 e1 := hdp 21 43 (by decide) rfl
      rw [if_neg (by decide)]
      exact .inl ⟨rfl, ex_bm hop d16 d21 hpd⟩
    · obtain rfl : t = (.binOp .sub 3 (.tmp 37) (.tmp 44) 3, some 45) := Option.some.inj (ht.symm.trans (rfl : OSG0[23]? = some (.binOp .sub 3 (.tmp 37) (.tmp 44) 3, some 45)))
      have hop : o.op = .binOp .sub 3 (.tmp 37) (.tmp 44) 3 := hop
      have d15 : a.eval (.tmp 37) = .int .i64 e0 := hdp 15 37 (by decide) rfl
      have d22 : a.eval (.tmp 44) = .int .i64 pd := hdp 22 44 (by decide) rfl
      rw [if_neg (by decide)]
      exact .inl ⟨rfl, ex_bs hop d15 d22 hsb⟩
    · obtain rfl : t = (.build 81 #[(0, .tmp 28), (1, .tmp 33), (2, .tmp 45)], some 46) := Option.some.inj (ht.symm.trans (rfl : OSG0[24]? = some (.build 81 #[(0, .tmp 28), (1, .tmp 33), (2, .tmp 45)], some 46)))
      have hop : o.op = .build 81 #[(0, .tmp 28), (1, .tmp 33), (2, .tmp 45)] := hop
      have d6 : a.eval (.tmp 28) = .int .i64 f := hdp 6 28 (by decide) rfl
      have d11 : a.eval (.tmp 33) = .int .i64 tt := hdp 11 33 (by decide) rfl
      have d23 : a.eval (.tmp 45) = .int .i64 (e0 - pd) := hdp 23 45 (by decide) rfl
      rw [if_neg (by decide)]
      exact .inl ⟨rfl, ex_bd hop d6 d11 d23⟩
    · obtain rfl : t = (.buildSlice 50 1 #[(0, .tmp 46)], some 47) := Option.some.inj (ht.symm.trans (rfl : OSG0[25]? = some (.buildSlice 50 1 #[(0, .tmp 46)], some 47)))
      have hop : o.op = .buildSlice 50 1 #[(0, .tmp 46)] := hop
      have d24 : a.eval (.tmp 46) = .agg #[.int .i64 f, .int .i64 tt, .int .i64 (e0 - pd)] := hdp 24 46 (by decide) rfl
      obtain rfl : 0 = p := hC 0 rfl
      rw [if_pos (by decide)]
      exact .inl ⟨rfl, ex_bs38 hop d24⟩
    · obtain rfl : t = (.call { callee := .builtin .append, args := #[.tmp 23, .tmp 47], argTypes := #[50, 50] }, some 48) := Option.some.inj (ht.symm.trans (rfl : OSG0[26]? = some (.call { callee := .builtin .append, args := #[.tmp 23, .tmp 47], argTypes := #[50, 50] }, some 48)))
      have hop : o.op = .call { callee := .builtin .append, args := #[.tmp 23, .tmp 47], argTypes := #[50, 50] } := hop
      have d1 : a.eval (.tmp 23) = t := hdp 1 23 (by decide) rfl
      have d25 : a.eval (.tmp 47) = .slice (some ⟨W.heap.size, 0, none⟩) 1 1 := hdp 25 47 (by decide) rfl
      obtain rfl : 1 = p := hC 1 rfl
      rw [if_pos (by decide)]
      exact .inl ⟨rfl, ex_app hop d1 d25 (hr o.type)⟩
    · obtain rfl : t = (.fieldAddr 52 (.tmp 7) 1, some 49) := Option.some.inj (ht.symm.trans (rfl : OSG0[27]? = some (.fieldAddr 52 (.tmp 7) 1, some 49)))
      have hop : o.op = .fieldAddr 52 (.tmp 7) 1 := hop
      have i7 : a.eval (.tmp 7) = _ := (hin 7 (by decide)).trans e7
      rw [if_neg (by decide)]
      exact .inl ⟨rfl, ex_f40 hop i7⟩
    · obtain rfl : t = (.store 50 (.tmp 49) (.tmp 48), none) := Option.some.inj (ht.symm.trans (rfl : OSG0[28]? = some (.store 50 (.tmp 49) (.tmp 48), none)))
      have hop : o.op = .store 50 (.tmp 49) (.tmp 48) := hop
      have d26 : a.eval (.tmp 48) = .slice (some ⟨g, 0, none⟩) m cap := hdp 26 48 (by decide) rfl
      have d27 : a.eval (.tmp 49) = .pointer (some ⟨C, 1, none⟩) := hdp 27 49 (by decide) rfl
      obtain rfl : 2 = p := hC 2 rfl
      rw [if_pos (by decide)]
      exact .inr ⟨rfl, ex_s38 hop d27 d26 c5 f5⟩
  · intro y hy
    exact hQ y
def OSG1 : List (Op × Option Nat) := [(.fieldAddr 52 (.tmp 7) 1, some 22), (.load 50 (.tmp 22), some 23), (.fieldAddr 102 (.tmp 3) 1, some 24), (.load 66 (.tmp 24), some 25), (.move (.tmp 8), some 26), (.indexAddr 66 (.tmp 25) (.tmp 26), some 27), (.load 3 (.tmp 27), some 28), (.fieldAddr 102 (.tmp 3) 2, some 29), (.load 66 (.tmp 29), some 30), (.move (.tmp 8), some 31), (.indexAddr 66 (.tmp 30) (.tmp 31), some 32), (.load 3 (.tmp 32), some 33), (.move (.tmp 1), some 34), (.fieldAddr 86 (.tmp 9) 1, some 35), (.indexAddr 31 (.tmp 35) (.tmp 34), some 36), (.load 3 (.tmp 36), some 37), (.move (.tmp 2), some 38), (.move (.tmp 1), some 39), (.binOp .sub 3 (.const (.int .i64 1)) (.tmp 39) 3, some 40), (.fieldAddr 86 (.tmp 9) 1, some 41), (.indexAddr 31 (.tmp 41) (.tmp 40), some 42), (.load 3 (.tmp 42), some 43), (.binOp .mul 3 (.tmp 38) (.tmp 43) 3, some 44), (.binOp .sub 3 (.tmp 37) (.tmp 44) 3, some 45), (.build 81 #[(0, .tmp 28), (1, .tmp 33), (2, .tmp 45)], some 46), (.buildSlice 50 1 #[(0, .tmp 46)], some 47), (.call { callee := .builtin .append, args := #[.tmp 23, .tmp 47], argTypes := #[50, 50] }, some 48), (.fieldAddr 52 (.tmp 7) 1, some 49), (.store 50 (.tmp 49) (.tmp 48), none)]
def DSG1 : List (List Nat) := [[], [0], [], [2], [], [3, 4], [5], [], [7], [], [8, 9], [10], [], [], [13, 12], [14], [], [], [17], [], [19, 18], [20], [16, 21], [15, 22], [6, 11, 23], [24], [1, 25], [], [26, 27]]
def TSG1 : List (List Nat) := [[], [0], [], [2], [], [2, 3, 4], [2, 3, 4, 5], [], [7], [], [7, 8, 9], [7, 8, 9, 10], [], [], [12, 13], [12, 13, 14], [], [], [17], [], [17, 18, 19], [17, 18, 19, 20], [16, 17, 18, 19, 20, 21], [12, 13, 14, 15, 16, 17, 18, 19, 20, 21, 22], [2, 3, 4, 5, 6, 7, 8, 9, 10, 11, 12, 13, 14, 15, 16, 17, 18, 19, 20, 21, 22, 23], [2, 3, 4, 5, 6, 7, 8, 9, 10, 11, 12, 13, 14, 15, 16, 17, 18, 19, 20, 21, 22, 23, 24], [0, 1, 2, 3, 4, 5, 6, 7, 8, 9, 10, 11, 12, 13, 14, 15, 16, 17, 18, 19, 20, 21, 22, 23, 24, 25], [], [0, 1, 2, 3, 4, 5, 6, 7, 8, 9, 10, 11, 12, 13, 14, 15, 16, 17, 18, 19, 20, 21, 22, 23, 24, 25, 26, 27]]
set_option maxHeartbeats 1600000 in
set_option maxRecDepth 4000 in
theorem regionSG1 {Q : Exit → Act → World → Prop} {ops : Array Oper} (ho : looks ops OSG1) (hd : waits ops DSG1 = true) (hor : (List.range ops.size).all (fun i => ((ops[i]?).map fun o => o.after.all fun e => !Region.binds .any e || decide (e.on < i)).getD true) = true) {id : Nat} {a0 : Act} {W : World} (hm : Tryz.prog.follows .mixedOrders = true) (hz : 49 < a0.tmps.size)
    {C P Rn g1 c1 g2 c2 T k g m cap : Nat} {f tt e0 e1 ratio pd : Int} {t : Value} {w2 : World} (e3 : a0.eval (.tmp 3) = .pointer (some ⟨P, 0, none⟩)) (e7 : a0.eval (.tmp 7) = .pointer (some ⟨C, 0, none⟩)) (e8 : a0.eval (.tmp 8) = .int .i64 (k : Int)) (e9 : a0.eval (.tmp 9) = .pointer (some ⟨Rn, 0, none⟩)) (w1 : a0.eval (.tmp 1) = .int .i64 1) (w2e : a0.eval (.tmp 2) = .int .i64 ratio) (hte : W.drew.cell? ⟨C, 1, none⟩ = some t) (hte1 : (W.drew.alloc (.cells #[.int .i64 f, .int .i64 tt, .int .i64 (e1 - pd)] 81)).cell? ⟨C, 1, none⟩ = some t) (hp1 : W.drew.cell? ⟨P, 1, none⟩ = some (.slice (some ⟨g1, 0, none⟩) T c1)) (hp2 : W.drew.cell? ⟨P, 2, none⟩ = some (.slice (some ⟨g2, 0, none⟩) T c2)) (hk : (k : Int) < (T : Int)) (hf : W.drew.cell? ⟨g1, k, none⟩ = some (.int .i64 f)) (hto : W.drew.cell? ⟨g2, k, none⟩ = some (.int .i64 tt)) (hr2 : W.drew.cell? ⟨Rn, 2, none⟩ = some (.int .i64 e0)) (hr3 : W.drew.cell? ⟨Rn, 3, none⟩ = some (.int .i64 e1)) (hpd : IntKind.i64.wrap (ratio * e0) = pd) (hsb : IntKind.i64.wrap (e1 - pd) = e1 - pd)
    (hr : ∀ ty, (Builtin.append_ #[50, 50] ty #[t, .slice (some ⟨W.heap.size, 0, none⟩) 1 1]).run Tryz.prog (W.drew.alloc (.cells #[.int .i64 f, .int .i64 tt, .int .i64 (e1 - pd)] 81)) = .ok (.slice (some ⟨g, 0, none⟩) m cap) w2) (c5 : w2.cell? ⟨C, 1, none⟩ = some t) (f5 : w2.frozen? ⟨C, 1, none⟩ = false)
    (hQ : ∀ y, Q .normal (tA a0 (slotsOf OSG1) y) (w2.setCell ⟨C, 1, none⟩ (.slice (some ⟨g, 0, none⟩) m cap))) : (Code.region id ops true).wp Tryz.prog Q a0 W := by
  refine wp_region_chain ho hd hor hm TSG1 [25, 26, 28] (by decide) (fun s hs => ?_) (fun i => ([.pointer (some ⟨C, 1, none⟩), t, .pointer (some ⟨P, 1, none⟩), .slice (some ⟨g1, 0, none⟩) T c1, .int .i64 (k : Int), .pointer (some ⟨g1, k, none⟩), .int .i64 f, .pointer (some ⟨P, 2, none⟩), .slice (some ⟨g2, 0, none⟩) T c2, .int .i64 (k : Int), .pointer (some ⟨g2, k, none⟩), .int .i64 tt, .int .i64 1, .pointer (some ⟨Rn, 2, none⟩), .pointer (some ⟨Rn, 3, none⟩), .int .i64 e1, .int .i64 ratio, .int .i64 1, .int .i64 0, .pointer (some ⟨Rn, 2, none⟩), .pointer (some ⟨Rn, 2, none⟩), .int .i64 e0, .int .i64 pd, .int .i64 (e1 - pd), .agg #[.int .i64 f, .int .i64 tt, .int .i64 (e1 - pd)], .slice (some ⟨W.heap.size, 0, none⟩) 1 1, .slice (some ⟨g, 0, none⟩) m cap, .pointer (some ⟨C, 1, none⟩), undef] : List Value).getD i undef) (fun p => ([W.drew, W.drew.alloc (.cells #[.int .i64 f, .int .i64 tt, .int .i64 (e1 - pd)] 81), w2, w2.setCell ⟨C, 1, none⟩ (.slice (some ⟨g, 0, none⟩) m cap)] : List World).getD p W.drew) rfl ?_ ?_
  · have : ∀ s ∈ slotsOf OSG1, s ≤ 49 := by decide
    have := this s hs; omega
  · intro i o h1 hiO hg t ht hop hdst p hp hA hB hC a hin hdp
    have hi : i < 29 := hiO
    rcases (show i = 0 ∨ i = 1 ∨ i = 2 ∨ i = 3 ∨ i = 4 ∨ i = 5 ∨ i = 6 ∨ i = 7 ∨ i = 8 ∨ i = 9 ∨ i = 10 ∨ i = 11 ∨ i = 12 ∨ i = 13 ∨ i = 14 ∨ i = 15 ∨ i = 16 ∨ i = 17 ∨ i = 18 ∨ i = 19 ∨ i = 20 ∨ i = 21 ∨ i = 22 ∨ i = 23 ∨ i = 24 ∨ i = 25 ∨ i = 26 ∨ i = 27 ∨ i = 28 by omega) with rfl | rfl | rfl | rfl | rfl | rfl | rfl | rfl | rfl | rfl | rfl | rfl | rfl | rfl | rfl | rfl | rfl | rfl | rfl | rfl | rfl | rfl | rfl | rfl | rfl | rfl | rfl | rfl | rfl
    · obtain rfl : t = (.fieldAddr 52 (.tmp 7) 1, some 22) := Option.some.inj (ht.symm.trans (rfl : OSG1[0]? = some (.fieldAddr 52 (.tmp 7) 1, some 22)))
      have hop : o.op = .fieldAddr 52 (.tmp 7) 1 := hop
      have i7 : a.eval (.tmp 7) = _ := (hin 7 (by decide)).trans e7
      rw [if_neg (by decide)]
      exact .inl ⟨rfl, ex_f40 hop i7⟩
    · obtain rfl : t = (.load 50 (.tmp 22), some 23) := Option.some.inj (ht.symm.trans (rfl : OSG1[1]? = some (.load 50 (.tmp 22), some 23)))
      have hop : o.op = .load 50 (.tmp 22) := hop
      have d0 : a.eval (.tmp 22) = .pointer (some ⟨C, 1, none⟩) := hdp 0 22 (by decide) rfl
      rw [if_neg (by decide)]
      have hhi := hB 1 26 rfl (by decide)
      rcases (show p = 0 ∨ p = 1 by omega) with rfl | rfl
      · exact .inl ⟨rfl, ex_l38 hop d0 hte⟩
      · exact .inl ⟨rfl, ex_l38 hop d0 hte1⟩
    · obtain rfl : t = (.fieldAddr 102 (.tmp 3) 1, some 24) := Option.some.inj (ht.symm.trans (rfl : OSG1[2]? = some (.fieldAddr 102 (.tmp 3) 1, some 24)))
      have hop : o.op = .fieldAddr 102 (.tmp 3) 1 := hop
      have i3 : a.eval (.tmp 3) = _ := (hin 3 (by decide)).trans e3
      rw [if_neg (by decide)]
      exact .inl ⟨rfl, ex_fa hop (by omega) i3⟩
    · obtain rfl : t = (.load 66 (.tmp 24), some 25) := Option.some.inj (ht.symm.trans (rfl : OSG1[3]? = some (.load 66 (.tmp 24), some 25)))
      have hop : o.op = .load 66 (.tmp 24) := hop
      have d2 : a.eval (.tmp 24) = .pointer (some ⟨P, 1, none⟩) := hdp 2 24 (by decide) rfl
      rw [if_neg (by decide)]
      have hhi := hB 0 25 rfl (by decide)
      obtain rfl : p = 0 := by omega
      exact .inl ⟨rfl, ex_ly hop (by omega) d2 hp1⟩
    · obtain rfl : t = (.move (.tmp 8), some 26) := Option.some.inj (ht.symm.trans (rfl : OSG1[4]? = some (.move (.tmp 8), some 26)))
      have hop : o.op = .move (.tmp 8) := hop
      have i8 : a.eval (.tmp 8) = _ := (hin 8 (by decide)).trans e8
      rw [if_neg (by decide)]
      exact .inl ⟨rfl, ex_mv hop i8⟩
    · obtain rfl : t = (.indexAddr 66 (.tmp 25) (.tmp 26), some 27) := Option.some.inj (ht.symm.trans (rfl : OSG1[5]? = some (.indexAddr 66 (.tmp 25) (.tmp 26), some 27)))
      have hop : o.op = .indexAddr 66 (.tmp 25) (.tmp 26) := hop
      have d3 : a.eval (.tmp 25) = .slice (some ⟨g1, 0, none⟩) T c1 := hdp 3 25 (by decide) rfl
      have d4 : a.eval (.tmp 26) = .int .i64 (k : Int) := hdp 4 26 (by decide) rfl
      rw [if_neg (by decide)]
      exact .inl ⟨rfl, ex_i26 hop d3 d4 hk⟩
    · obtain rfl : t = (.load 3 (.tmp 27), some 28) := Option.some.inj (ht.symm.trans (rfl : OSG1[6]? = some (.load 3 (.tmp 27), some 28)))
      have hop : o.op = .load 3 (.tmp 27) := hop
      have d5 : a.eval (.tmp 27) = .pointer (some ⟨g1, k, none⟩) := hdp 5 27 (by decide) rfl
      rw [if_neg (by decide)]
      have hhi := hB 0 25 rfl (by decide)
      obtain rfl : p = 0 := by omega
      exact .inl ⟨rfl, ex_ly hop (by omega) d5 hf⟩
    · obtain rfl : t = (.fieldAddr 102 (.tmp 3) 2, some 29) := Option.some.inj (ht.symm.trans (rfl : OSG1[7]? = some (.fieldAddr 102 (.tmp 3) 2, some 29)))
      have hop : o.op = .fieldAddr 102 (.tmp 3) 2 := hop
      have i3 : a.eval (.tmp 3) = _ := (hin 3 (by decide)).trans e3
      rw [if_neg (by decide)]
      exact .inl ⟨rfl, ex_fa hop (by omega) i3⟩
    · obtain rfl : t = (.load 66 (.tmp 29), some 30) := Option.some.inj (ht.symm.trans (rfl : OSG1[8]? = some (.load 66 (.tmp 29), some 30)))
      have hop : o.op = .load 66 (.tmp 29) := hop
      have d7 : a.eval (.tmp 29) = .pointer (some ⟨P, 2, none⟩) := hdp 7 29 (by decide) rfl
      rw [if_neg (by decide)]
      have hhi := hB 0 25 rfl (by decide)
      obtain rfl : p = 0 := by omega
      exact .inl ⟨rfl, ex_ly hop (by omega) d7 hp2⟩
    · obtain rfl : t = (.move (.tmp 8), some 31) := Option.some.inj (ht.symm.trans (rfl : OSG1[9]? = some (.move (.tmp 8), some 31)))
      have hop : o.op = .move (.tmp 8) := hop
      have i8 : a.eval (.tmp 8) = _ := (hin 8 (by decide)).trans e8
      rw [if_neg (by decide)]
      exact .inl ⟨rfl, ex_mv hop i8⟩
    · obtain rfl : t = (.indexAddr 66 (.tmp 30) (.tmp 31), some 32) := Option.some.inj (ht.symm.trans (rfl : OSG1[10]? = some (.indexAddr 66 (.tmp 30) (.tmp 31), some 32)))
      have hop : o.op = .indexAddr 66 (.tmp 30) (.tmp 31) := hop
      have d8 : a.eval (.tmp 30) = .slice (some ⟨g2, 0, none⟩) T c2 := hdp 8 30 (by decide) rfl
      have d9 : a.eval (.tmp 31) = .int .i64 (k : Int) := hdp 9 31 (by decide) rfl
      rw [if_neg (by decide)]
      exact .inl ⟨rfl, ex_i26 hop d8 d9 hk⟩
    · obtain rfl : t = (.load 3 (.tmp 32), some 33) := Option.some.inj (ht.symm.trans (rfl : OSG1[11]? = some (.load 3 (.tmp 32), some 33)))
      have hop : o.op = .load 3 (.tmp 32) := hop
      have d10 : a.eval (.tmp 32) = .pointer (some ⟨g2, k, none⟩) := hdp 10 32 (by decide) rfl
      rw [if_neg (by decide)]
      have hhi := hB 0 25 rfl (by decide)
      obtain rfl : p = 0 := by omega
      exact .inl ⟨rfl, ex_ly hop (by omega) d10 hto⟩
    · obtain rfl : t = (.move (.tmp 1), some 34) := Option.some.inj (ht.symm.trans (rfl : OSG1[12]? = some (.move (.tmp 1), some 34)))
      have hop : o.op = .move (.tmp 1) := hop
      have i1 : a.eval (.tmp 1) = _ := (hin 1 (by decide)).trans w1
      rw [if_neg (by decide)]
      exact .inl ⟨rfl, ex_mv hop i1⟩
    · obtain rfl : t = (.fieldAddr 86 (.tmp 9) 1, some 35) := Option.some.inj (ht.symm.trans (rfl : OSG1[13]? = some (.fieldAddr 86 (.tmp 9) 1, some 35)))
      have hop : o.op = .fieldAddr 86 (.tmp 9) 1 := hop
      have i9 : a.eval (.tmp 9) = _ := (hin 9 (by decide)).trans e9
      rw [if_neg (by decide)]
      exact .inl ⟨rfl, ex_f62 hop i9⟩
    · obtain rfl : t = (.indexAddr 31 (.tmp 35) (.tmp 34), some 36) := Option.some.inj (ht.symm.trans (rfl : OSG1[14]? = some (.indexAddr 31 (.tmp 35) (.tmp 34), some 36)))
      have hop : o.op = .indexAddr 31 (.tmp 35) (.tmp 34) := hop
      have d13 : a.eval (.tmp 35) = .pointer (some ⟨Rn, 2, none⟩) := hdp 13 35 (by decide) rfl
      have d12 : a.eval (.tmp 34) = .int .i64 1 := hdp 12 34 (by decide) rfl
      rw [if_neg (by decide)]
      exact .inl ⟨rfl, ex_x22_1 hop d13 d12⟩
    · obtain rfl : t = (.load 3 (.tmp 36), some 37) := Option.some.inj (ht.symm.trans (rfl : OSG1[15]? = some (.load 3 (.tmp 36), some 37)))
      have hop : o.op = .load 3 (.tmp 36) := hop
      have d14 : a.eval (.tmp 36) = .pointer (some ⟨Rn, 3, none⟩) := hdp 14 36 (by decide) rfl
      rw [if_neg (by decide)]
      have hhi := hB 0 25 rfl (by decide)
      obtain rfl : p = 0 := by omega
      exact .inl ⟨rfl, ex_ly hop (by omega) d14 hr3⟩
    · obtain rfl : t = (.move (.tmp 2), some 38) := Option.some.inj (ht.symm.trans (rfl : OSG1[16]? = some (.move (.tmp 2), some 38)))
      have hop : o.op = .move (.tmp 2) := hop
      have i2 : a.eval (.tmp 2) = _ := (hin 2 (by decide)).trans w2e
      rw [if_neg (by decide)]
      exact .inl ⟨rfl, ex_mv hop i2⟩
    · obtain rfl : t = (.move (.tmp 1), some 39) := Option.some.inj (ht.symm.trans (rfl : OSG1[17]? = some (.move (.tmp 1), some 39)))
      have hop : o.op = .move (.tmp 1) := hop
      have i1 : a.eval (.tmp 1) = _ := (hin 1 (by decide)).trans w1
      rw [if_neg (by decide)]
      exact .inl ⟨rfl, ex_mv hop i1⟩
    · obtain rfl : t = (.binOp .sub 3 (.const (.int .i64 1)) (.tmp 39) 3, some 40) := Option.some.inj (ht.symm.trans (rfl : OSG1[18]? = some (.binOp .sub 3 (.const (.int .i64 1)) (.tmp 39) 3, some 40)))
      have hop : o.op = .binOp .sub 3 (.const (.int .i64 1)) (.tmp 39) 3 := hop
      have d17 : a.eval (.tmp 39) = .int .i64 1 := hdp 17 39 (by decide) rfl
      rw [if_neg (by decide)]
      exact .inl ⟨rfl, ex_b1_1 hop d17 rfl⟩
    · obtain rfl : t = (.fieldAddr 86 (.tmp 9) 1, some 41) := Option.some.inj (ht.symm.trans (rfl : OSG1[19]? = some (.fieldAddr 86 (.tmp 9) 1, some 41)))
      have hop : o.op = .fieldAddr 86 (.tmp 9) 1 := hop
      have i9 : a.eval (.tmp 9) = _ := (hin 9 (by decide)).trans e9
      rw [if_neg (by decide)]
      exact .inl ⟨rfl, ex_f62 hop i9⟩
    · obtain rfl : t = (.indexAddr 31 (.tmp 41) (.tmp 40), some 42) := Option.some.inj (ht.symm.trans (rfl : OSG1[20]? = some (.indexAddr 31 (.tmp 41) (.tmp 40), some 42)))
      have hop : o.op = .indexAddr 31 (.tmp 41) (.tmp 40) := hop
      have d19 : a.eval (.tmp 41) = .pointer (some ⟨Rn, 2, none⟩) := hdp 19 41 (by decide) rfl
      have d18 : a.eval (.tmp 40) = .int .i64 0 := hdp 18 40 (by decide) rfl
      rw [if_neg (by decide)]
      exact .inl ⟨rfl, ex_x22_0 hop d19 d18⟩
    · obtain rfl : t = (.load 3 (.tmp 42), some 43) := Option.some.inj (ht.symm.trans (rfl : OSG1[21]? = some (.load 3 (.tmp 42), some 43)))
      have hop : o.op = .load 3 (.tmp 42) := hop
      have d20 : a.eval (.tmp 42) = .pointer (some ⟨Rn, 2, none⟩) := hdp 20 42 (by decide) rfl
      rw [if_neg (by decide)]
      have hhi := hB 0 25 rfl (by decide)
      obtain rfl : p = 0 := by omega
      exact .inl ⟨rfl, ex_ly hop (by omega) d20 hr2⟩
    · obtain rfl : t = (.binOp .mul 3 (.tmp 38) (.tmp 43) 3, some 44) := Option.some.inj (ht.symm.trans (rfl : OSG1[22]? = some (.binOp .mul 3 (.tmp 38) (.tmp 43) 3, some 44)))
      have hop : o.op = .binOp .mul 3 (.tmp 38) (.tmp 43) 3 := hop
      have d16 : a.eval (.tmp 38) = .int .i64 ratio := hdp 16 38 (by decide) rfl
      have d21 : a.eval (.tmp 43) = .int .i64 e0 := hdp 21 43 (by decide) rfl
      rw [if_neg (by decide)]
      exact .inl ⟨rfl, ex_bm hop d16 d21 hpd⟩
    · obtain rfl : t = (.binOp .sub 3 (.tmp 37) (.tmp 44) 3, some 45) := Option.some.inj (ht.symm.trans (rfl : OSG1[23]? = some (.binOp .sub 3 (.tmp 37) (.tmp 44) 3, some 45)))
      have hop : o.op = .binOp .sub 3 (.tmp 37) (.tmp 44) 3 := hop
      have d15 : a.eval (.tmp 37) = .int .i64 e1 := hdp 15 37 (by decide) rfl
      have d22 : a.eval (.tmp 44) = .int .i64 pd := hdp 22 44 (by decide) rfl
      rw [if_neg (by decide)]
      exact .inl ⟨rfl, ex_bs hop d15 d22 hsb⟩
    · obtain rfl : t = (.build 81 #[(0, .tmp 28), (1, .tmp 33), (2, .tmp 45)], some 46) := Option.some.inj (ht.symm.trans (rfl : OSG1[24]? = some (.build 81 #[(0, .tmp 28), (1, .tmp 33), (2, .tmp 45)], some 46)))
      have hop : o.op = .build 81 #[(0, .tmp 28), (1, .tmp 33), (2, .tmp 45)] := hop
      have d6 : a.eval (.tmp 28) = .int .i64 f := hdp 6 28 (by decide) rfl
      have d11 : a.eval (.tmp 33) = .int .i64 tt := hdp 11 33 (by decide) rfl
      have d23 : a.eval (.tmp 45) = .int .i64 (e1 - pd) := hdp 23 45 (by decide) rfl
      rw [if_neg (by decide)]
      exact .inl ⟨rfl, ex_bd hop d6 d11 d23⟩
    · obtain rfl : t = (.buildSlice 50 1 #[(0, .tmp 46)], some 47) := Option.some.inj (ht.symm.trans (rfl : OSG1[25]? = some (.buildSlice 50 1 #[(0, .tmp 46)], some 47)))
      have hop : o.op = .buildSlice 50 1 #[(0, .tmp 46)] := hop
      have d24 : a.eval (.tmp 46) = .agg #[.int .i64 f, .int .i64 tt, .int .i64 (e1 - pd)] := hdp 24 46 (by decide) rfl
      obtain rfl : 0 = p := hC 0 rfl
      rw [if_pos (by decide)]
      exact .inl ⟨rfl, ex_bs38 hop d24⟩
    · obtain rfl : t = (.call { callee := .builtin .append, args := #[.tmp 23, .tmp 47], argTypes := #[50, 50] }, some 48) := Option.some.inj (ht.symm.trans (rfl : OSG1[26]? = some (.call { callee := .builtin .append, args := #[.tmp 23, .tmp 47], argTypes := #[50, 50] }, some 48)))
      have hop : o.op = .call { callee := .builtin .append, args := #[.tmp 23, .tmp 47], argTypes := #[50, 50] } := hop
      have d1 : a.eval (.tmp 23) = t := hdp 1 23 (by decide) rfl
      have d25 : a.eval (.tmp 47) = .slice (some ⟨W.heap.size, 0, none⟩) 1 1 := hdp 25 47 (by decide) rfl
      obtain rfl : 1 = p := hC 1 rfl
      rw [if_pos (by decide)]
      exact .inl ⟨rfl, ex_app hop d1 d25 (hr o.type)⟩
    · obtain rfl : t = (.fieldAddr 52 (.tmp 7) 1, some 49) := Option.some.inj (ht.symm.trans (rfl : OSG1[27]? = some (.fieldAddr 52 (.tmp 7) 1, some 49)))
      have hop : o.op = .fieldAddr 52 (.tmp 7) 1 := hop
      have i7 : a.eval (.tmp 7) = _ := (hin 7 (by decide)).trans e7
      rw [if_neg (by decide)]
      exact .inl ⟨rfl, ex_f40 hop i7⟩
    · obtain rfl : t = (.store 50 (.tmp 49) (.tmp 48), none) := Option.some.inj (ht.symm.trans (rfl : OSG1[28]? = some (.store 50 (.tmp 49) (.tmp 48), none)))
      have hop : o.op = .store 50 (.tmp 49) (.tmp 48) := hop
      have d26 : a.eval (.tmp 48) = .slice (some ⟨g, 0, none⟩) m cap := hdp 26 48 (by decide) rfl
      have d27 : a.eval (.tmp 49) = .pointer (some ⟨C, 1, none⟩) := hdp 27 49 (by decide) rfl
      obtain rfl : 2 = p := hC 2 rfl
      rw [if_pos (by decide)]
      exact .inr ⟨rfl, ex_s38 hop d27 d26 c5 f5⟩
  · intro y hy
    exact hQ y

end Go.Proofs.YtjageagnclmnjaaGreatDoor.D
