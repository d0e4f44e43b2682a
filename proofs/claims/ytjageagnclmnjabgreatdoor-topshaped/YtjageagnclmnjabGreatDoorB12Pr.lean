/- PROVED: steady's put: its regions that draw their order. CONDITIONS: none beyond each theorem's own. -/
import Derived.Test.YtjageagnclmnjabGreatDoorB09Chn
import Derived.Test.YtjageagnclmnjabGreatDoorB10Ft
import Derived.Test.YtjageagnclmnjabGreatDoorB11Fnd
namespace Go.Proofs.YtjageagnclmnjabGreatDoor.D
set_option maxRecDepth 100000
open Go.RowKit K
set_option linter.unusedVariables false
section
variable {ev : Operand → Value} {w : World}
theorem ex_nc {o : Oper} {t : Nat} {a : Addr} (ho : o.op = .nilCheck (.tmp t)) (h : ev (.tmp t) = .pointer (some a)) : (execOp ev o).run Tryz.prog w = .ok (.value (.pointer (some a))) w := by
  simp [execOp, ho, h, go_sem]
theorem ex_fb {o : Oper} {C c t : Nat} (ho : o.op = .fieldAddr 119 (.tmp t) c) (hc : c = 0 ∨ c = 1 ∨ c = 2 ∨ c = 3) (h : ev (.tmp t) = .pointer (some ⟨C, 0, none⟩)) : (execOp ev o).run Tryz.prog w = .ok (.value (.pointer (some ⟨C, c, none⟩))) w := by
  rcases hc with rfl | rfl | rfl | rfl <;> simp [execOp, ho, h, go_sem]
theorem ex_ly {o : Oper} {C c s T : Nat} {x : Value} (ho : o.op = .load T (.tmp s)) (hT : T = 115 ∨ T = 24 ∨ T = 116 ∨ T = 117 ∨ T = 3) (h : ev (.tmp s) = .pointer (some ⟨C, c, none⟩)) (hx : w.cell? ⟨C, c, none⟩ = some x) : (execOp ev o).run Tryz.prog w = .ok (.value x) w := by
  rcases hT with rfl | rfl | rfl | rfl | rfl <;> simp [execOp, ho, h, go_sem, hx]
theorem ex_ln {o : Oper} {s m cp : Nat} {ao : Option Addr} (ho : o.op = .call { callee := .builtin .len, args := #[.tmp s], argTypes := #[117] }) (h : ev (.tmp s) = .slice ao m cp) : (execOp ev o).run Tryz.prog w = .ok (.value (.int .i64 (m : Int))) w := by
  simp [execOp, ho, h, go_sem]
theorem ex_sy {o : Oper} {C c s x T : Nat} {ao : Option Addr} {l cp : Nat} {u : Value} (ho : o.op = .store T (.tmp s) (.tmp x)) (hT : T = 115 ∨ T = 24 ∨ T = 117) (h : ev (.tmp s) = .pointer (some ⟨C, c, none⟩)) (hx : ev (.tmp x) = .slice ao l cp) (hc : w.cell? ⟨C, c, none⟩ = some u) (hf : w.frozen? ⟨C, c, none⟩ = false) : (execOp ev o).run Tryz.prog w = .ok .skip (w.setCell ⟨C, c, none⟩ (.slice ao l cp)) := by
  rcases hT with rfl | rfl | rfl <;> simp [execOp, ho, h, go_sem, hx, hc, hf]
theorem ex_mu {o : Oper} {s x z : Nat} {m k u : Value} {w2 : World} (ho : o.op = .mapUpdate 116 (.tmp s) (.tmp x) (.tmp z)) (hm : ev (.tmp s) = m) (hk : ev (.tmp x) = k) (hu : ev (.tmp z) = u) (hr : (Instr.mapUpdate 116 m k u).run Tryz.prog w = .ok () w2) : (execOp ev o).run Tryz.prog w = .ok .skip w2 := by
  simp [execOp, ho, hm, hk, hu, hr, Result.andThen]
end
def OP2 : List (Op × Option Nat) := [(.move (.tmp 0), some 11), (.move (.tmp 0), some 12), (.nilCheck (.tmp 12), some 13), (.fieldAddr 119 (.tmp 13) 0, some 14), (.load 115 (.tmp 14), some 15), (.load 147 (.tmp 3), some 16), (.buildSlice 115 1 #[(0, .tmp 16)], some 17), (.call { callee := .builtin .append, args := #[.tmp 15, .tmp 17], argTypes := #[115, 115] }, some 18), (.nilCheck (.tmp 11), some 19), (.fieldAddr 119 (.tmp 19) 0, some 20), (.store 115 (.tmp 20) (.tmp 18), none)]
def DP2 : List (List Nat) := [[], [], [1], [2], [3], [], [5], [4, 6], [0], [8], [7, 9]]
def TP2 : List (List Nat) := [[], [], [1], [1, 2], [1, 2, 3], [], [5], [1, 2, 3, 4, 5, 6], [0], [0, 8], [0, 1, 2, 3, 4, 5, 6, 7, 8, 9]]
set_option maxHeartbeats 1600000 in
set_option maxRecDepth 4000 in
theorem regionP2 {Q : Exit → Act → World → Prop} {ops : Array Oper} (ho : looks ops OP2) (hd : waits ops DP2 = true) (hor : (List.range ops.size).all (fun i => ((ops[i]?).map fun o => o.after.all fun e => !Region.binds .any e || decide (e.on < i)).getD true) = true) {id : Nat} {a0 : Act} {W : World} (hm : Tryz.prog.follows .mixedOrders = true) (hz : 20 < a0.tmps.size)
    {C Bx g m cap : Nat} {y : Sx} {v0 : Value} {w2 : World} (e0 : a0.eval (.tmp 0) = .pointer (some ⟨C, 0, none⟩)) (e3 : a0.eval (.tmp 3) = .pointer (some ⟨Bx, 0, none⟩)) (hc : W.drew.cell? ⟨C, 0, none⟩ = some v0) (hc1 : (W.drew.alloc (.cells (cS y).toArray 147)).cell? ⟨C, 0, none⟩ = some v0) (sB : Sta W.drew Bx y.f0.k y.f0.n y.f0.b y.f0.a y.f0.s y.f0.q y.f1.k y.f1.n y.f1.b y.f1.a y.f1.s y.f1.q y.w0 y.w1)
    (hr : ∀ ty, (Builtin.append_ #[115, 115] ty #[v0, .slice (some ⟨W.heap.size, 0, none⟩) 1 1]).run Tryz.prog (W.drew.alloc (.cells (cS y).toArray 147)) = .ok (.slice (some ⟨g, 0, none⟩) m cap) w2) (c5 : w2.cell? ⟨C, 0, none⟩ = some v0) (f5 : w2.frozen? ⟨C, 0, none⟩ = false)
    (hQ : ∀ y, Q .normal (tA a0 (slotsOf OP2) y) (w2.setCell ⟨C, 0, none⟩ (.slice (some ⟨g, 0, none⟩) m cap))) : (Code.region id ops true).wp Tryz.prog Q a0 W := by
  refine wp_region_chain ho hd hor hm TP2 [6, 7, 10] (by decide) (fun s hs => ?_) (fun i => ([.pointer (some ⟨C, 0, none⟩), .pointer (some ⟨C, 0, none⟩), .pointer (some ⟨C, 0, none⟩), .pointer (some ⟨C, 0, none⟩), v0, aS y, .slice (some ⟨W.heap.size, 0, none⟩) 1 1, .slice (some ⟨g, 0, none⟩) m cap, .pointer (some ⟨C, 0, none⟩), .pointer (some ⟨C, 0, none⟩), undef] : List Value).getD i undef) (fun p => ([W.drew, W.drew.alloc (.cells (cS y).toArray 147), w2, w2.setCell ⟨C, 0, none⟩ (.slice (some ⟨g, 0, none⟩) m cap)] : List World).getD p W.drew) rfl ?_ ?_
  · have : ∀ s ∈ slotsOf OP2, s ≤ 20 := by decide
    have := this s hs; omega
  · intro i o h1 hiO hg t ht hop hdst p hp hA hB hC a hin hdp
    have hi : i < 11 := hiO
    rcases (show i = 0 ∨ i = 1 ∨ i = 2 ∨ i = 3 ∨ i = 4 ∨ i = 5 ∨ i = 6 ∨ i = 7 ∨ i = 8 ∨ i = 9 ∨ i = 10 by omega) with rfl | rfl | rfl | rfl | rfl | rfl | rfl | rfl | rfl | rfl | rfl
    · obtain rfl : t = (.move (.tmp 0), some 11) := Option.some.inj (ht.symm.trans (rfl : OP2[0]? = some (.move (.tmp 0), some 11)))
      have hop : o.op = .move (.tmp 0) := hop
      have i0 : a.eval (.tmp 0) = _ := (hin 0 (by decide)).trans e0
      rw [if_neg (by decide)]
      exact .inl ⟨rfl, ex_mv hop i0⟩
    · obtain rfl : t = (.move (.tmp 0), some 12) := Option.some.inj (ht.symm.trans (rfl : OP2[1]? = some (.move (.tmp 0), some 12)))
      have hop : o.op = .move (.tmp 0) := hop
      have i0 : a.eval (.tmp 0) = _ := (hin 0 (by decide)).trans e0
      rw [if_neg (by decide)]
      exact .inl ⟨rfl, ex_mv hop i0⟩
    · obtain rfl : t = (.nilCheck (.tmp 12), some 13) := Option.some.inj (ht.symm.trans (rfl : OP2[2]? = some (.nilCheck (.tmp 12), some 13)))
      have hop : o.op = .nilCheck (.tmp 12) := hop
      have d1 : a.eval (.tmp 12) = .pointer (some ⟨C, 0, none⟩) := hdp 1 12 (by decide) rfl
      rw [if_neg (by decide)]
      exact .inl ⟨rfl, ex_nc hop d1⟩
    · obtain rfl : t = (.fieldAddr 119 (.tmp 13) 0, some 14) := Option.some.inj (ht.symm.trans (rfl : OP2[3]? = some (.fieldAddr 119 (.tmp 13) 0, some 14)))
      have hop : o.op = .fieldAddr 119 (.tmp 13) 0 := hop
      have d2 : a.eval (.tmp 13) = .pointer (some ⟨C, 0, none⟩) := hdp 2 13 (by decide) rfl
      rw [if_neg (by decide)]
      exact .inl ⟨rfl, ex_fb hop (by omega) d2⟩
    · obtain rfl : t = (.load 115 (.tmp 14), some 15) := Option.some.inj (ht.symm.trans (rfl : OP2[4]? = some (.load 115 (.tmp 14), some 15)))
      have hop : o.op = .load 115 (.tmp 14) := hop
      have d3 : a.eval (.tmp 14) = .pointer (some ⟨C, 0, none⟩) := hdp 3 14 (by decide) rfl
      rw [if_neg (by decide)]
      have hhi := hB 1 7 rfl (by decide)
      rcases (show p = 0 ∨ p = 1 by omega) with rfl | rfl
      · exact .inl ⟨rfl, ex_ly hop (by omega) d3 hc⟩
      · exact .inl ⟨rfl, ex_ly hop (by omega) d3 hc1⟩
    · obtain rfl : t = (.load 147 (.tmp 3), some 16) := Option.some.inj (ht.symm.trans (rfl : OP2[5]? = some (.load 147 (.tmp 3), some 16)))
      have hop : o.op = .load 147 (.tmp 3) := hop
      have i3 : a.eval (.tmp 3) = _ := (hin 3 (by decide)).trans e3
      rw [if_neg (by decide)]
      have hhi := hB 0 6 rfl (by decide)
      obtain rfl : p = 0 := by omega
      exact .inl ⟨rfl, eb_sta hop i3 sB⟩
    · obtain rfl : t = (.buildSlice 115 1 #[(0, .tmp 16)], some 17) := Option.some.inj (ht.symm.trans (rfl : OP2[6]? = some (.buildSlice 115 1 #[(0, .tmp 16)], some 17)))
      have hop : o.op = .buildSlice 115 1 #[(0, .tmp 16)] := hop
      have d5 : a.eval (.tmp 16) = aS y := hdp 5 16 (by decide) rfl
      obtain rfl : 0 = p := hC 0 rfl
      rw [if_pos (by decide)]
      exact .inl ⟨rfl, eb_bs25 (y := y) hop d5⟩
    · obtain rfl : t = (.call { callee := .builtin .append, args := #[.tmp 15, .tmp 17], argTypes := #[115, 115] }, some 18) := Option.some.inj (ht.symm.trans (rfl : OP2[7]? = some (.call { callee := .builtin .append, args := #[.tmp 15, .tmp 17], argTypes := #[115, 115] }, some 18)))
      have hop : o.op = .call { callee := .builtin .append, args := #[.tmp 15, .tmp 17], argTypes := #[115, 115] } := hop
      have d4 : a.eval (.tmp 15) = v0 := hdp 4 15 (by decide) rfl
      have d6 : a.eval (.tmp 17) = .slice (some ⟨W.heap.size, 0, none⟩) 1 1 := hdp 6 17 (by decide) rfl
      obtain rfl : 1 = p := hC 1 rfl
      rw [if_pos (by decide)]
      exact .inl ⟨rfl, ex_app hop d4 d6 (hr o.type)⟩
    · obtain rfl : t = (.nilCheck (.tmp 11), some 19) := Option.some.inj (ht.symm.trans (rfl : OP2[8]? = some (.nilCheck (.tmp 11), some 19)))
      have hop : o.op = .nilCheck (.tmp 11) := hop
      have d0 : a.eval (.tmp 11) = .pointer (some ⟨C, 0, none⟩) := hdp 0 11 (by decide) rfl
      rw [if_neg (by decide)]
      exact .inl ⟨rfl, ex_nc hop d0⟩
    · obtain rfl : t = (.fieldAddr 119 (.tmp 19) 0, some 20) := Option.some.inj (ht.symm.trans (rfl : OP2[9]? = some (.fieldAddr 119 (.tmp 19) 0, some 20)))
      have hop : o.op = .fieldAddr 119 (.tmp 19) 0 := hop
      have d8 : a.eval (.tmp 19) = .pointer (some ⟨C, 0, none⟩) := hdp 8 19 (by decide) rfl
      rw [if_neg (by decide)]
      exact .inl ⟨rfl, ex_fb hop (by omega) d8⟩
    · obtain rfl : t = (.store 115 (.tmp 20) (.tmp 18), none) := Option.some.inj (ht.symm.trans (rfl : OP2[10]? = some (.store 115 (.tmp 20) (.tmp 18), none)))
      have hop : o.op = .store 115 (.tmp 20) (.tmp 18) := hop
      have d7 : a.eval (.tmp 18) = .slice (some ⟨g, 0, none⟩) m cap := hdp 7 18 (by decide) rfl
      have d9 : a.eval (.tmp 20) = .pointer (some ⟨C, 0, none⟩) := hdp 9 20 (by decide) rfl
      obtain rfl : 2 = p := hC 2 rfl
      rw [if_pos (by decide)]
      exact .inr ⟨rfl, ex_sy hop (by omega) d9 d7 c5 f5⟩
  · intro y hy
    exact hQ y
def OP3 : List (Op × Option Nat) := [(.move (.tmp 0), some 21), (.nilCheck (.tmp 21), some 22), (.fieldAddr 119 (.tmp 22) 1, some 23), (.load 116 (.tmp 23), some 24), (.load 147 (.tmp 3), some 25), (.move (.tmp 5), some 26), (.mapUpdate 116 (.tmp 24) (.tmp 25) (.tmp 26), none)]
def DP3 : List (List Nat) := [[], [0], [1], [2], [], [], [3, 4, 5]]
def TP3 : List (List Nat) := [[], [0], [0, 1], [0, 1, 2], [], [], [0, 1, 2, 3, 4, 5]]
set_option maxHeartbeats 1600000 in
set_option maxRecDepth 4000 in
theorem regionP3 {Q : Exit → Act → World → Prop} {ops : Array Oper} (ho : looks ops OP3) (hd : waits ops DP3 = true) (hor : (List.range ops.size).all (fun i => ((ops[i]?).map fun o => o.after.all fun e => !Region.binds .any e || decide (e.on < i)).getD true) = true) {id : Nat} {a0 : Act} {W : World} (hm : Tryz.prog.follows .mixedOrders = true) (hz : 26 < a0.tmps.size)
    {C Bx M : Nat} {k : Int} {y : Sx} {w2 : World} (e0 : a0.eval (.tmp 0) = .pointer (some ⟨C, 0, none⟩)) (e3 : a0.eval (.tmp 3) = .pointer (some ⟨Bx, 0, none⟩)) (e5 : a0.eval (.tmp 5) = .int .i64 k) (hc : W.drew.cell? ⟨C, 1, none⟩ = some (.map (some M))) (sB : Sta W.drew Bx y.f0.k y.f0.n y.f0.b y.f0.a y.f0.s y.f0.q y.f1.k y.f1.n y.f1.b y.f1.a y.f1.s y.f1.q y.w0 y.w1)
    (hr : (Instr.mapUpdate 116 (.map (some M)) (aS y) (.int .i64 k)).run Tryz.prog W.drew = .ok () w2)
    (hQ : ∀ y, Q .normal (tA a0 (slotsOf OP3) y) (w2)) : (Code.region id ops true).wp Tryz.prog Q a0 W := by
  refine wp_region_chain ho hd hor hm TP3 [6] (by decide) (fun s hs => ?_) (fun i => ([.pointer (some ⟨C, 0, none⟩), .pointer (some ⟨C, 0, none⟩), .pointer (some ⟨C, 1, none⟩), .map (some M), aS y, .int .i64 k, undef] : List Value).getD i undef) (fun p => ([W.drew, w2] : List World).getD p W.drew) rfl ?_ ?_
  · have : ∀ s ∈ slotsOf OP3, s ≤ 26 := by decide
    have := this s hs; omega
  · intro i o h1 hiO hg t ht hop hdst p hp hA hB hC a hin hdp
    have hi : i < 7 := hiO
    rcases (show i = 0 ∨ i = 1 ∨ i = 2 ∨ i = 3 ∨ i = 4 ∨ i = 5 ∨ i = 6 by omega) with rfl | rfl | rfl | rfl | rfl | rfl | rfl
    · obtain rfl : t = (.move (.tmp 0), some 21) := Option.some.inj (ht.symm.trans (rfl : OP3[0]? = some (.move (.tmp 0), some 21)))
      have hop : o.op = .move (.tmp 0) := hop
      have i0 : a.eval (.tmp 0) = _ := (hin 0 (by decide)).trans e0
      rw [if_neg (by decide)]
      exact .inl ⟨rfl, ex_mv hop i0⟩
    · obtain rfl : t = (.nilCheck (.tmp 21), some 22) := Option.some.inj (ht.symm.trans (rfl : OP3[1]? = some (.nilCheck (.tmp 21), some 22)))
      have hop : o.op = .nilCheck (.tmp 21) := hop
      have d0 : a.eval (.tmp 21) = .pointer (some ⟨C, 0, none⟩) := hdp 0 21 (by decide) rfl
      rw [if_neg (by decide)]
      exact .inl ⟨rfl, ex_nc hop d0⟩
    · obtain rfl : t = (.fieldAddr 119 (.tmp 22) 1, some 23) := Option.some.inj (ht.symm.trans (rfl : OP3[2]? = some (.fieldAddr 119 (.tmp 22) 1, some 23)))
      have hop : o.op = .fieldAddr 119 (.tmp 22) 1 := hop
      have d1 : a.eval (.tmp 22) = .pointer (some ⟨C, 0, none⟩) := hdp 1 22 (by decide) rfl
      rw [if_neg (by decide)]
      exact .inl ⟨rfl, ex_fb hop (by omega) d1⟩
    · obtain rfl : t = (.load 116 (.tmp 23), some 24) := Option.some.inj (ht.symm.trans (rfl : OP3[3]? = some (.load 116 (.tmp 23), some 24)))
      have hop : o.op = .load 116 (.tmp 23) := hop
      have d2 : a.eval (.tmp 23) = .pointer (some ⟨C, 1, none⟩) := hdp 2 23 (by decide) rfl
      rw [if_neg (by decide)]
      have hhi := hB 0 6 rfl (by decide)
      obtain rfl : p = 0 := by omega
      exact .inl ⟨rfl, ex_ly hop (by omega) d2 hc⟩
    · obtain rfl : t = (.load 147 (.tmp 3), some 25) := Option.some.inj (ht.symm.trans (rfl : OP3[4]? = some (.load 147 (.tmp 3), some 25)))
      have hop : o.op = .load 147 (.tmp 3) := hop
      have i3 : a.eval (.tmp 3) = _ := (hin 3 (by decide)).trans e3
      rw [if_neg (by decide)]
      have hhi := hB 0 6 rfl (by decide)
      obtain rfl : p = 0 := by omega
      exact .inl ⟨rfl, eb_sta hop i3 sB⟩
    · obtain rfl : t = (.move (.tmp 5), some 26) := Option.some.inj (ht.symm.trans (rfl : OP3[5]? = some (.move (.tmp 5), some 26)))
      have hop : o.op = .move (.tmp 5) := hop
      have i5 : a.eval (.tmp 5) = _ := (hin 5 (by decide)).trans e5
      rw [if_neg (by decide)]
      exact .inl ⟨rfl, ex_mv hop i5⟩
    · obtain rfl : t = (.mapUpdate 116 (.tmp 24) (.tmp 25) (.tmp 26), none) := Option.some.inj (ht.symm.trans (rfl : OP3[6]? = some (.mapUpdate 116 (.tmp 24) (.tmp 25) (.tmp 26), none)))
      have hop : o.op = .mapUpdate 116 (.tmp 24) (.tmp 25) (.tmp 26) := hop
      have d3 : a.eval (.tmp 24) = .map (some M) := hdp 3 24 (by decide) rfl
      have d4 : a.eval (.tmp 25) = aS y := hdp 4 25 (by decide) rfl
      have d5 : a.eval (.tmp 26) = .int .i64 k := hdp 5 26 (by decide) rfl
      obtain rfl : 0 = p := hC 0 rfl
      rw [if_pos (by decide)]
      exact .inr ⟨rfl, ex_mu hop d3 d4 d5 hr⟩
  · intro y hy
    exact hQ y
def OP4 : List (Op × Option Nat) := [(.move (.tmp 0), some 27), (.move (.tmp 0), some 28), (.nilCheck (.tmp 28), some 29), (.fieldAddr 119 (.tmp 29) 3, some 30), (.load 24 (.tmp 30), some 31), (.move (.tmp 0), some 32), (.nilCheck (.tmp 32), some 33), (.fieldAddr 119 (.tmp 33) 2, some 34), (.load 117 (.tmp 34), some 35), (.call { callee := .builtin .len, args := #[.tmp 35], argTypes := #[117] }, some 36), (.buildSlice 24 1 #[(0, .tmp 36)], some 37), (.call { callee := .builtin .append, args := #[.tmp 31, .tmp 37], argTypes := #[24, 24] }, some 38), (.nilCheck (.tmp 27), some 39), (.fieldAddr 119 (.tmp 39) 3, some 40), (.store 24 (.tmp 40) (.tmp 38), none)]
def DP4 : List (List Nat) := [[], [], [1], [2], [3], [], [5], [6], [7], [8], [9], [4, 10], [0], [12], [11, 13]]
def TP4 : List (List Nat) := [[], [], [1], [1, 2], [1, 2, 3], [], [5], [5, 6], [5, 6, 7], [5, 6, 7, 8], [5, 6, 7, 8, 9], [1, 2, 3, 4, 5, 6, 7, 8, 9, 10], [0], [0, 12], [0, 1, 2, 3, 4, 5, 6, 7, 8, 9, 10, 11, 12, 13]]
set_option maxHeartbeats 1600000 in
set_option maxRecDepth 4000 in
theorem regionP4 {Q : Exit → Act → World → Prop} {ops : Array Oper} (ho : looks ops OP4) (hd : waits ops DP4 = true) (hor : (List.range ops.size).all (fun i => ((ops[i]?).map fun o => o.after.all fun e => !Region.binds .any e || decide (e.on < i)).getD true) = true) {id : Nat} {a0 : Act} {W : World} (hm : Tryz.prog.follows .mixedOrders = true) (hz : 40 < a0.tmps.size)
    {C g m cap m1 cp1 : Nat} {ao1 : Option Addr} {v2 : Value} {w2 : World} (e0 : a0.eval (.tmp 0) = .pointer (some ⟨C, 0, none⟩)) (hc : W.drew.cell? ⟨C, 3, none⟩ = some v2) (hc1 : (W.drew.alloc (.cells #[.int .i64 (m1 : Int)] 3)).cell? ⟨C, 3, none⟩ = some v2) (hs : W.drew.cell? ⟨C, 2, none⟩ = some (.slice ao1 m1 cp1))
    (hr : ∀ ty, (Builtin.append_ #[24, 24] ty #[v2, .slice (some ⟨W.heap.size, 0, none⟩) 1 1]).run Tryz.prog (W.drew.alloc (.cells #[.int .i64 (m1 : Int)] 3)) = .ok (.slice (some ⟨g, 0, none⟩) m cap) w2) (c5 : w2.cell? ⟨C, 3, none⟩ = some v2) (f5 : w2.frozen? ⟨C, 3, none⟩ = false)
    (hQ : ∀ y, Q .normal (tA a0 (slotsOf OP4) y) (w2.setCell ⟨C, 3, none⟩ (.slice (some ⟨g, 0, none⟩) m cap))) : (Code.region id ops true).wp Tryz.prog Q a0 W := by
  refine wp_region_chain ho hd hor hm TP4 [10, 11, 14] (by decide) (fun s hs => ?_) (fun i => ([.pointer (some ⟨C, 0, none⟩), .pointer (some ⟨C, 0, none⟩), .pointer (some ⟨C, 0, none⟩), .pointer (some ⟨C, 3, none⟩), v2, .pointer (some ⟨C, 0, none⟩), .pointer (some ⟨C, 0, none⟩), .pointer (some ⟨C, 2, none⟩), .slice ao1 m1 cp1, .int .i64 (m1 : Int), .slice (some ⟨W.heap.size, 0, none⟩) 1 1, .slice (some ⟨g, 0, none⟩) m cap, .pointer (some ⟨C, 0, none⟩), .pointer (some ⟨C, 3, none⟩), undef] : List Value).getD i undef) (fun p => ([W.drew, W.drew.alloc (.cells #[.int .i64 (m1 : Int)] 3), w2, w2.setCell ⟨C, 3, none⟩ (.slice (some ⟨g, 0, none⟩) m cap)] : List World).getD p W.drew) rfl ?_ ?_
  · have : ∀ s ∈ slotsOf OP4, s ≤ 40 := by decide
    have := this s hs; omega
  · intro i o h1 hiO hg t ht hop hdst p hp hA hB hC a hin hdp
    have hi : i < 15 := hiO
    rcases (show i = 0 ∨ i = 1 ∨ i = 2 ∨ i = 3 ∨ i = 4 ∨ i = 5 ∨ i = 6 ∨ i = 7 ∨ i = 8 ∨ i = 9 ∨ i = 10 ∨ i = 11 ∨ i = 12 ∨ i = 13 ∨ i = 14 by omega) with rfl | rfl | rfl | rfl | rfl | rfl | rfl | rfl | rfl | rfl | rfl | rfl | rfl | rfl | rfl
    · obtain rfl : t = (.move (.tmp 0), some 27) := Option.some.inj (ht.symm.trans (rfl : OP4[0]? = some (.move (.tmp 0), some 27)))
      have hop : o.op = .move (.tmp 0) := hop
      have i0 : a.eval (.tmp 0) = _ := (hin 0 (by decide)).trans e0
      rw [if_neg (by decide)]
      exact .inl ⟨rfl, ex_mv hop i0⟩
    · obtain rfl : t = (.move (.tmp 0), some 28) := Option.some.inj (ht.symm.trans (rfl : OP4[1]? = some (.move (.tmp 0), some 28)))
      have hop : o.op = .move (.tmp 0) := hop
      have i0 : a.eval (.tmp 0) = _ := (hin 0 (by decide)).trans e0
      rw [if_neg (by decide)]
      exact .inl ⟨rfl, ex_mv hop i0⟩
    · obtain rfl : t = (.nilCheck (.tmp 28), some 29) := Option.some.inj (ht.symm.trans (rfl : OP4[2]? = some (.nilCheck (.tmp 28), some 29)))
      have hop : o.op = .nilCheck (.tmp 28) := hop
      have d1 : a.eval (.tmp 28) = .pointer (some ⟨C, 0, none⟩) := hdp 1 28 (by decide) rfl
      rw [if_neg (by decide)]
      exact .inl ⟨rfl, ex_nc hop d1⟩
    · obtain rfl : t = (.fieldAddr 119 (.tmp 29) 3, some 30) := Option.some.inj (ht.symm.trans (rfl : OP4[3]? = some (.fieldAddr 119 (.tmp 29) 3, some 30)))
      have hop : o.op = .fieldAddr 119 (.tmp 29) 3 := hop
      have d2 : a.eval (.tmp 29) = .pointer (some ⟨C, 0, none⟩) := hdp 2 29 (by decide) rfl
      rw [if_neg (by decide)]
      exact .inl ⟨rfl, ex_fb hop (by omega) d2⟩
    · obtain rfl : t = (.load 24 (.tmp 30), some 31) := Option.some.inj (ht.symm.trans (rfl : OP4[4]? = some (.load 24 (.tmp 30), some 31)))
      have hop : o.op = .load 24 (.tmp 30) := hop
      have d3 : a.eval (.tmp 30) = .pointer (some ⟨C, 3, none⟩) := hdp 3 30 (by decide) rfl
      rw [if_neg (by decide)]
      have hhi := hB 1 11 rfl (by decide)
      rcases (show p = 0 ∨ p = 1 by omega) with rfl | rfl
      · exact .inl ⟨rfl, ex_ly hop (by omega) d3 hc⟩
      · exact .inl ⟨rfl, ex_ly hop (by omega) d3 hc1⟩
    · obtain rfl : t = (.move (.tmp 0), some 32) := Option.some.inj (ht.symm.trans (rfl : OP4[5]? = some (.move (.tmp 0), some 32)))
      have hop : o.op = .move (.tmp 0) := hop
      have i0 : a.eval (.tmp 0) = _ := (hin 0 (by decide)).trans e0
      rw [if_neg (by decide)]
      exact .inl ⟨rfl, ex_mv hop i0⟩
    · obtain rfl : t = (.nilCheck (.tmp 32), some 33) := Option.some.inj (ht.symm.trans (rfl : OP4[6]? = some (.nilCheck (.tmp 32), some 33)))
      have hop : o.op = .nilCheck (.tmp 32) := hop
      have d5 : a.eval (.tmp 32) = .pointer (some ⟨C, 0, none⟩) := hdp 5 32 (by decide) rfl
      rw [if_neg (by decide)]
      exact .inl ⟨rfl, ex_nc hop d5⟩
    · obtain rfl : t = (.fieldAddr 119 (.tmp 33) 2, some 34) := Option.some.inj (ht.symm.trans (rfl : OP4[7]? = some (.fieldAddr 119 (.tmp 33) 2, some 34)))
      have hop : o.op = .fieldAddr 119 (.tmp 33) 2 := hop
      have d6 : a.eval (.tmp 33) = .pointer (some ⟨C, 0, none⟩) := hdp 6 33 (by decide) rfl
      rw [if_neg (by decide)]
      exact .inl ⟨rfl, ex_fb hop (by omega) d6⟩
    · obtain rfl : t = (.load 117 (.tmp 34), some 35) := Option.some.inj (ht.symm.trans (rfl : OP4[8]? = some (.load 117 (.tmp 34), some 35)))
      have hop : o.op = .load 117 (.tmp 34) := hop
      have d7 : a.eval (.tmp 34) = .pointer (some ⟨C, 2, none⟩) := hdp 7 34 (by decide) rfl
      rw [if_neg (by decide)]
      have hhi := hB 0 10 rfl (by decide)
      obtain rfl : p = 0 := by omega
      exact .inl ⟨rfl, ex_ly hop (by omega) d7 hs⟩
    · obtain rfl : t = (.call { callee := .builtin .len, args := #[.tmp 35], argTypes := #[117] }, some 36) := Option.some.inj (ht.symm.trans (rfl : OP4[9]? = some (.call { callee := .builtin .len, args := #[.tmp 35], argTypes := #[117] }, some 36)))
      have hop : o.op = .call { callee := .builtin .len, args := #[.tmp 35], argTypes := #[117] } := hop
      have d8 : a.eval (.tmp 35) = .slice ao1 m1 cp1 := hdp 8 35 (by decide) rfl
      rw [if_neg (by decide)]
      exact .inl ⟨rfl, ex_ln hop d8⟩
    · obtain rfl : t = (.buildSlice 24 1 #[(0, .tmp 36)], some 37) := Option.some.inj (ht.symm.trans (rfl : OP4[10]? = some (.buildSlice 24 1 #[(0, .tmp 36)], some 37)))
      have hop : o.op = .buildSlice 24 1 #[(0, .tmp 36)] := hop
      have d9 : a.eval (.tmp 36) = .int .i64 (m1 : Int) := hdp 9 36 (by decide) rfl
      obtain rfl : 0 = p := hC 0 rfl
      rw [if_pos (by decide)]
      exact .inl ⟨rfl, ex_one hop d9⟩
    · obtain rfl : t = (.call { callee := .builtin .append, args := #[.tmp 31, .tmp 37], argTypes := #[24, 24] }, some 38) := Option.some.inj (ht.symm.trans (rfl : OP4[11]? = some (.call { callee := .builtin .append, args := #[.tmp 31, .tmp 37], argTypes := #[24, 24] }, some 38)))
      have hop : o.op = .call { callee := .builtin .append, args := #[.tmp 31, .tmp 37], argTypes := #[24, 24] } := hop
      have d4 : a.eval (.tmp 31) = v2 := hdp 4 31 (by decide) rfl
      have d10 : a.eval (.tmp 37) = .slice (some ⟨W.heap.size, 0, none⟩) 1 1 := hdp 10 37 (by decide) rfl
      obtain rfl : 1 = p := hC 1 rfl
      rw [if_pos (by decide)]
      exact .inl ⟨rfl, ex_app hop d4 d10 (hr o.type)⟩
    · obtain rfl : t = (.nilCheck (.tmp 27), some 39) := Option.some.inj (ht.symm.trans (rfl : OP4[12]? = some (.nilCheck (.tmp 27), some 39)))
      have hop : o.op = .nilCheck (.tmp 27) := hop
      have d0 : a.eval (.tmp 27) = .pointer (some ⟨C, 0, none⟩) := hdp 0 27 (by decide) rfl
      rw [if_neg (by decide)]
      exact .inl ⟨rfl, ex_nc hop d0⟩
    · obtain rfl : t = (.fieldAddr 119 (.tmp 39) 3, some 40) := Option.some.inj (ht.symm.trans (rfl : OP4[13]? = some (.fieldAddr 119 (.tmp 39) 3, some 40)))
      have hop : o.op = .fieldAddr 119 (.tmp 39) 3 := hop
      have d12 : a.eval (.tmp 39) = .pointer (some ⟨C, 0, none⟩) := hdp 12 39 (by decide) rfl
      rw [if_neg (by decide)]
      exact .inl ⟨rfl, ex_fb hop (by omega) d12⟩
    · obtain rfl : t = (.store 24 (.tmp 40) (.tmp 38), none) := Option.some.inj (ht.symm.trans (rfl : OP4[14]? = some (.store 24 (.tmp 40) (.tmp 38), none)))
      have hop : o.op = .store 24 (.tmp 40) (.tmp 38) := hop
      have d11 : a.eval (.tmp 38) = .slice (some ⟨g, 0, none⟩) m cap := hdp 11 38 (by decide) rfl
      have d13 : a.eval (.tmp 40) = .pointer (some ⟨C, 3, none⟩) := hdp 13 40 (by decide) rfl
      obtain rfl : 2 = p := hC 2 rfl
      rw [if_pos (by decide)]
      exact .inr ⟨rfl, ex_sy hop (by omega) d13 d11 c5 f5⟩
  · intro y hy
    exact hQ y
end Go.Proofs.YtjageagnclmnjabGreatDoor.D
