/- PROVED: a round of steady's search. CONDITIONS: none beyond each theorem's own. -/
import Derived.Test.YtjageagnclmnjabGreatDoorB14Lif
import Derived.Test.YtjageagnclmnjabGreatDoorB15Rs
import Derived.Test.YtjageagnclmnjabGreatDoorB24DGo
import Derived.Maps.OwnIn
namespace Go.Proofs.YtjageagnclmnjabGreatDoor.D
set_option maxRecDepth 100000
open Go.RowKit Go.Shelf K
set_option linter.unusedVariables false

attribute [local go_sem] Oper.semAt_some
attribute [local go_sem ↓] appS_whole

/-- the body of the range over a function -/
def rgBody : Code → Option Code
  | .rangeFunc _ _ _ b => some b
  | .seq x y => match rgBody x with
    | some b => some b
    | none => rgBody y
  | .block _ c => rgBody c
  | .loop c => rgBody c
  | .cond _ x y => match rgBody x with
    | some b => some b
    | none => rgBody y
  | _ => none
theorem nd_of_looks {ops : Array Oper} {O : List (Op × Option Nat)} (h : looks ops O) (hO : (O.all fun t => match t.1 with | .defer _ => false | _ => true) = true) : ∀ (i : Nat) (o : Oper), ops[i]? = some o → ∀ c, o.op ≠ .defer c := by
  intro i o ho c hc
  have hi : i < O.length := by rw [← looks_size h]; exact (Array.getElem?_eq_some_iff.1 ho).1
  obtain ⟨o', h1, h2, _, _⟩ := looks_at h (t := O[i]) (List.getElem?_eq_getElem hi)
  rw [ho] at h1; injection h1 with h1; subst h1
  have := List.all_eq_true.1 hO _ (List.getElem_mem hi)
  rw [← h2, hc] at this
  cases this
theorem Sr.add2 {w : World} {r : Ru} {C M : Nat} {K' : Nat → Prop} {Ds : List Nat} {v : Nat → Value} {G : Gs} {W W' : World} (h : Sr w r C M K' Ds v G W) (b : Below W.heap.size W W') {g1 g2 : Nat} (hg : W.heap.size ≤ g1) (hg2 : g1 < W'.heap.size) (kg : W.heap.size ≤ g2) (kg2 : g2 < W'.heap.size) : Sr w r C M (fun g => (K' g ∨ g = g1) ∨ g = g2) Ds v G W' := by
  have k := h.kept b
  refine ⟨k.rul, k.res, k.er, ⟨k.fnd.cf, k.fnd.cm, k.fnd.f, ⟨k.fnd.fam.own, k.fnd.fam.ap, fun g q => ?_, k.fnd.fam.sz⟩, .inl (.inl k.fnd.kC), .inl (.inl k.fnd.kM), k.fnd.map, k.fnd.b0⟩, fun g q => .inl (.inl (h.kin g q)), k.cc, k.nd, k.df, k.below⟩
  rcases q with (q | rfl) | rfl
  · exact k.fnd.fam.kb g q
  · exact ⟨hg2, fun c hc e => by have := ((h.fnd.fam.own c hc).lt _ e).2; omega⟩
  · exact ⟨kg2, fun c hc e => by have := ((h.fnd.fam.own c hc).lt _ e).2; omega⟩
/-- a round is over -/
theorem close_round {w : World} {r : Ru} {C M Fr B k NW : Nat} {x : Sx} {Ds : List Nat} {v v5 : Nat → Value} {G G5 : Gs} {W W3 W5 : World} {K3 : Nat → Prop} (hi : Ir w r C M Fr B k x Ds v G W) (b3 : Below W.heap.size W W3) (S5 : Sr w r C M K3 Ds v5 G5 W5) (m : Mov w.heap.size K3 C M W3 W5) (hK : ∀ g, kI w C M Fr B g → K3 g) (hkF : ¬ kS w C M Fr) (hkB : ¬ kS w C M B) (hMN : M < NW) (hg : Gk r k x G5) (hl : G5.L.length ≤ 300) :
    KeepsFrom NW W W5 ∧ KeepB B W W5 ∧ ∃ v, Ir w r C M Fr B k x Ds v G5 W5 := by
  have nC : ∀ g, ¬ kS w C M g → g ≠ C ∧ g ≠ M := fun g hg => ⟨fun e => hg (.inr (.inr (.inr (.inl e)))), fun e => hg (.inr (.inr (.inr (.inr e))))⟩
  have eF : W5.heap[Fr]? = W.heap[Fr]? := (m.oth Fr (hK _ (.inr (.inl rfl))) (nC _ hkF).1 (nC _ hkF).2).trans (b3.block _ hi.fr.lt)
  have eB : W5.heap[B]? = W.heap[B]? := (m.oth B (hK _ (.inr (.inr rfl))) (nC _ hkB).1 (nC _ hkB).2).trans (b3.block _ hi.bj.lt)
  refine ⟨⟨Nat.le_trans b3.size m.bel.size, fun g o hN ho hc => ?_⟩, fun o => World.cell?_of_block (a := ⟨B, o, none⟩) eB, v5, S5.less hK (fun g q => .inl q), hi.fr.same eF, hi.bj.same eB, hg, hl⟩
  exact m.obj g o (by omega) ((b3.block g (Array.getElem?_eq_some_iff.1 ho).1).trans ho) hc
/-- one step more -/
theorem step_app {w : World} {r : Ru} {C M : Nat} {K3 : Nat → Prop} {Ds : List Nat} {v : Nat → Value} {G : Gs} {W : World} (S : Sr w r C M K3 Ds v G W) (hS : G.S.length ≤ 6000) (k t n : Nat) (c0 c1 : Int) :
    ∃ ao1 cp1 g cap w5, W.cell? ⟨C, 2, none⟩ = some (.slice ao1 G.S.length cp1) ∧ (appS #[117, 117] 117 #[.slice ao1 G.S.length cp1, .slice (some ⟨W.heap.size, 0, none⟩) 1 1]).run Tryz.prog (W.alloc (.cells #[.int .i64 (k : Int), .int .i64 (t : Int), .int .i64 (lxn (jj r) n), .int .i64 (lyn (jj r) n), .int .i64 c0, .int .i64 c1] 123)) = .ok (.slice (some ⟨g, 0, none⟩) (G.S.length + 1) cap) w5 ∧ w5.cell? ⟨C, 2, none⟩ = some (.slice ao1 G.S.length cp1) ∧ w5.frozen? ⟨C, 2, none⟩ = false ∧
      Hid (∃ v5, Sr w r C M K3 Ds v5 ⟨G.L, G.S ++ [⟨k, t, n, c0, c1⟩], G.F⟩ (w5.setCell ⟨C, 2, none⟩ (.slice (some ⟨g, 0, none⟩) (G.S.length + 1) cap)) ∧ Mov w.heap.size K3 C M W (w5.setCell ⟨C, 2, none⟩ (.slice (some ⟨g, 0, none⟩) (G.S.length + 1) cap))) := by
  obtain ⟨ao1, cp1, ev1⟩ := S.fnd.slice (c := 1) (by omega)
  have en : gn ⟨G.L, G.S, G.F⟩ 1 = G.S.length := rfl
  rw [en] at ev1
  have q1 := S.fnd.cf 1 (by omega)
  obtain ⟨g, cap, w5, hr, c5, f5, fn, m, _⟩ := S.fnd.app (c := 1) (by omega) (by rw [en]; omega) (news := cP r ⟨k, t, n, c0, c1⟩) rfl (by simp [cP, Value.oneCell']) 117 (L' := G.L) (S' := G.S ++ [⟨k, t, n, c0, c1⟩]) (F' := G.F) (gn_step r G.L G.S G.F ⟨k, t, n, c0, c1⟩)
  rw [en] at hr fn m
  rw [ev1] at hr q1 c5
  exact ⟨ao1, cp1, g, cap, w5, q1, hr, c5, f5, _, S.mov (G' := ⟨G.L, G.S ++ [⟨k, t, n, c0, c1⟩], G.F⟩) fn m, m⟩
theorem full_round {w : World} {r : Ru} {C M Fr B k NW : Nat} {x : Sx} {Ds : List Nat} {v v5 : Nat → Value} {G : Gs} {W W3 : World} {K3 : Nat → Prop} {pre : List (Fin (jj r * jj r))} {y : Fin (jj r * jj r)} (hi : Ir w r C M Fr B k x Ds v G W) (hG : gx r k x (ga r (k * ee r)) pre = G) (b3 : Below W.heap.size W W3) (S3 : Sr w r C M K3 Ds v5 G W3) (h3 : G.L.length = 300) (hy : sp r x y.1 ∉ G.L) :
    KeepsFrom NW W (((((W3.setCell ⟨w.heap.size + 1, 0, none⟩ (.slice none 0 0)).setCell ⟨w.heap.size + 1, 1, none⟩ (.map none)).setCell ⟨w.heap.size + 1, 2, none⟩ (.slice none 0 0)).setCell ⟨w.heap.size + 1, 3, none⟩ (.slice none 0 0)).setCell ⟨w.heap.size + 1 + 1, 0, none⟩ (.int .i64 4)) ∧ Code.ret = Code.ret ∧ Jr w r M k x Ds (pre ++ [y]) (((((W3.setCell ⟨w.heap.size + 1, 0, none⟩ (.slice none 0 0)).setCell ⟨w.heap.size + 1, 1, none⟩ (.map none)).setCell ⟨w.heap.size + 1, 2, none⟩ (.slice none 0 0)).setCell ⟨w.heap.size + 1, 3, none⟩ (.slice none 0 0)).setCell ⟨w.heap.size + 1 + 1, 0, none⟩ (.int .i64 4)) := by
  have hk : KeepsOthers W3 (((((W3.setCell ⟨w.heap.size + 1, 0, none⟩ (.slice none 0 0)).setCell ⟨w.heap.size + 1, 1, none⟩ (.map none)).setCell ⟨w.heap.size + 1, 2, none⟩ (.slice none 0 0)).setCell ⟨w.heap.size + 1, 3, none⟩ (.slice none 0 0)).setCell ⟨w.heap.size + 1 + 1, 0, none⟩ (.int .i64 4)) := ((((KeepsOthers.setCell _ _ _).trans (KeepsOthers.setCell _ _ _)).trans (KeepsOthers.setCell _ _ _)).trans (KeepsOthers.setCell _ _ _)).trans (KeepsOthers.setCell _ _ _)
  refine ⟨KeepsFrom.trans ⟨b3.size, fun g o _ ho _ => (b3.block g (Array.getElem?_eq_some_iff.1 ho).1).trans ho⟩ (hk.from _), rfl, ?_, ?_, ⟨pre, y, rfl, by rw [hG]; exact h3, by rw [hG]; exact hy⟩, fun D hD => ⟨(S3.df D hD).2.1, hk.same D _ (S3.df D hD).2.2 rfl⟩, ?_⟩
  · exact (S3.res.all nil4).far (p := ⟨w.heap.size + 1 + 1, 0, none⟩) (by simp) _
  · have z := S3.er
    refine Bx1.set (x := .int .i64 0) ?_ _
    exact z.same (put4_heap W3 (w.heap.size + 1) nil4 (by omega))
  · exact Below.setCell (p := ⟨w.heap.size + 1 + 1, 0, none⟩) (below_put4 (C := w.heap.size + 1) S3.below (by omega) nil4) (by show w.heap.size ≤ w.heap.size + 1 + 1; omega) _
set_option maxRecDepth 100000 in
set_option maxHeartbeats 6400000 in
theorem body_in (n l : Nat) (hn : 1 ≤ n) (r : Ru) (h : wrong r = 0) (w W : World) (C M Fr B k NW : Nat) (x : Sx) (Ds : List Nat) (pre : List (Fin (jj r * jj r))) (y : Fin (jj r * jj r)) (v : Nat → Value) (hi : Ir w r C M Fr B k x Ds v (gx r k x (ga r (k * ee r)) pre) W) (hp : pre.length < 17) (hk3 : k ≤ 300) (hS0 : (ga r (k * ee r)).S.length ≤ 5000) (hMN : M < NW) (hkB : ¬ kS w C M B) (hkF : ¬ kS w C M Fr) (Bl : Nat) (hLp : Lp W Bl (lxn (jj r) y.1) (lyn (jj r) y.1)) (u0 u4 u5 u9 u10 u11 u12 u13 u14 u15 u16 u17 u18 u19 u20 u21 u22 u23 u24 u25 u26 u27 u28 u29 u30 u31 u32 u33 u34 u35 u36 u37 u38 u39 u40 u41 u42 u43 u44 u45 u46 u47 u48 u49 u50 u51 u52 u53 u54 u55 u56 u57 u58 u59 u60 u61 u62 u63 u64 u65 u66 u67 u68 u69 u70 u71 u72 u73 u74 u75 u76 u77 u78 u79 u80 u81 u82 : Value) :
    ((Tryz.f72.body.bind rgBody).getD .skip).wpIn (Fence.wide.inRound l) n Tryz.prog (ownPostG NW (KeepB B) (fun pre W' => ∃ v, Ir w r C M Fr B k x Ds v (gx r k x (ga r (k * ee r)) pre) W') (fun c pre W' => c = .ret ∧ Jr w r M k x Ds pre W') (pre ++ [y]) W) { tmps := #[u0, .pointer (some ⟨w.heap.size, 0, none⟩), .pointer (some ⟨w.heap.size + 1, 0, none⟩), .pointer (some ⟨w.heap.size + 1 + 1, 0, none⟩), u4, u5, .pointer (some ⟨C, 0, none⟩), .pointer (some ⟨Fr, 0, none⟩), .pointer (some ⟨Bl, 0, none⟩), u9, u10, u11, u12, u13, u14, u15, u16, u17, u18, u19, u20, u21, u22, u23, u24, u25, u26, u27, u28, u29, u30, u31, u32, u33, u34, u35, u36, u37, u38, u39, u40, u41, u42, u43, u44, u45, u46, u47, u48, u49, u50, u51, u52, u53, u54, u55, u56, u57, u58, u59, u60, u61, u62, u63, u64, u65, u66, u67, u68, u69, u70, u71, u72, u73, u74, u75, u76, u77, u78, u79, u80, u81, u82], defers := [] } W := by
  simp only [Tryz.f72, Option.bind_some, rgBody, Option.getD_some]
  have hkr := wrong_ok.1 h
  have hrg := hkr.2
  obtain ⟨G, hG⟩ : ∃ G, gx r k x (ga r (k * ee r)) pre = G := ⟨_, rfl⟩
  have hGS : G.S.length ≤ 6000 := by rw [← hG, gx_len]; omega
  have hnext := gx_snoc r k x (ga r (k * ee r)) pre y
  rw [hG] at hi hnext
  have hyE : y.1 < ee r := y.2
  have hlt := sp_lates hrg hyE
  have hpx : pright r x := hi.g.rt x (List.mem_of_getElem? hi.g.xk)
  obtain ⟨yy, hyy⟩ : ∃ yy, sp r x y.1 = yy := ⟨_, rfl⟩
  obtain ⟨rd, hrd⟩ : ∃ rd, K.round r x = rd := ⟨_, rfl⟩
  have hstep : ∀ v, Calls Tryz.prog 93 #[.agg #[.int .i64 r.k0, .int .i64 r.k1, .int .i64 r.r, .int .i64 r.m, .int .i64 r.j], .agg #[.int .i64 x.f0.k, .int .i64 x.f0.n, .int .i64 x.f0.b, .int .i64 x.f0.a, .int .i64 x.f0.s, .int .i64 x.f0.q, .int .i64 x.f1.k, .int .i64 x.f1.n, .int .i64 x.f1.b, .int .i64 x.f1.a, .int .i64 x.f1.s, .int .i64 x.f1.q, .int .i64 x.w0, .int .i64 x.w1], .agg #[.int .i64 (lxn (jj r) y.1), .int .i64 (lyn (jj r) y.1)]] v fun e w' => e = .returned (.tuple #[.agg #[.int .i64 yy.f0.k, .int .i64 yy.f0.n, .int .i64 yy.f0.b, .int .i64 yy.f0.a, .int .i64 yy.f0.s, .int .i64 yy.f0.q, .int .i64 yy.f1.k, .int .i64 yy.f1.n, .int .i64 yy.f1.b, .int .i64 yy.f1.a, .int .i64 yy.f1.s, .int .i64 yy.f1.q, .int .i64 yy.w0, .int .i64 yy.w1], .agg #[.int .i64 rd.s0, .int .i64 rd.s1, .int .i64 rd.c0, .int .i64 rd.c1, .int .i64 rd.l0, .int .i64 rd.l1], .int .i64 0]) ∧ Below v.heap.size v w' := fun v => by
    rw [← hyy, ← hrd]
    exact step_yes r x (lxn (jj r) y.1) (lyn (jj r) y.1) hpx hlt v
  have hry : pright r yy := by rw [← hyy]; exact step_right hpx hlt
  obtain ⟨g0, cp0, ev0, hcp0, hLl, hsat⟩ := own_state (hi.s.fnd.fam.own 0 (by omega)) hi.g.xk
  have hkl : k < G.L.length := (List.getElem?_eq_some_iff.1 hi.g.xk).1
  have c0 := hi.s.fnd.cf 0 (by omega)
  rw [ev0] at c0
  rw [show gn ⟨G.L, G.S, G.F⟩ 0 = G.L.length from rfl] at c0 ev0
  simp only [fld] at c0
  have hkI : (k : Int) < (G.L.length : Int) := by omega
  have S22 := hi.s.pair hLp
  have bf := hi.fr.c
  obtain ⟨lc0, lc1⟩ := hLp.cells
  gi_wp2
  refine regionS (by rfl) (by kernel_rfl) (by kernel_rfl) (nd_of_looks (O := OS) (by rfl) rfl) (fun ⟨_, _, q⟩ => q) (by kernel_rfl) (by simp) (by rfl) (by rfl) (by rfl) (by rfl) bf hi.s.rul c0 hkI hsat lc0 lc1 hstep ?_
  intro ys Nx Rd W3 b3 hNx hRd hNR sN sR y9 y10
  simp only [tA, lS, sets]
  simp only [List.setIfInBounds_toArray, List.set_cons_succ, List.set_cons_zero, y9, y10]
  generalize ys 38 = z38
  generalize ys 39 = z39
  generalize ys 40 = z40
  generalize ys 41 = z41
  generalize ys 42 = z42
  generalize ys 43 = z43
  generalize ys 44 = z44
  generalize ys 45 = z45
  generalize ys 46 = z46
  generalize ys 47 = z47
  generalize ys 48 = z48
  generalize ys 49 = z49
  generalize ys 11 = z11
  clear y9 y10 c0 bf
  have hNl : Nx < W3.heap.size := block_lt sN.c0
  have hRl : Rd < W3.heap.size := block_lt sR.c0
  have S3 := S22.add2 b3 hNx hNl hRd hRl
  have hCW : C < W.heap.size := block_lt hi.s.fnd.cm
  have hMW := hi.s.fnd.map.lt
  have nC : ∀ g, ¬ kS w C M g → g ≠ C ∧ g ≠ M := fun g hg => ⟨fun e => hg (.inr (.inr (.inr (.inl e)))), fun e => hg (.inr (.inr (.inr (.inr e))))⟩
  have hBlM : Bl ≠ M := fun e => by
    obtain ⟨es, cl, q⟩ := hi.s.fnd.map.obj
    rw [← e] at q
    have := hLp
    unfold Lp at this
    rw [q] at this
    cases this
  have hBlC : Bl ≠ C := fun e => by
    have := hi.s.fnd.cm
    rw [← e, lc1] at this
    cases this
  replace lc0 := (b3.cell (p := ⟨Bl, 0, none⟩) (block_lt lc0)).trans lc0
  replace lc1 := (b3.cell (p := ⟨Bl, 1, none⟩) (block_lt lc1)).trans lc1
  have bf := (b3.cell (p := ⟨Fr, 0, none⟩) (block_lt hi.fr.c)).trans hi.fr.c
  obtain ⟨c, hlk, hci⟩ := S3.fnd.map.look (pright_ok hry)
  simp only [aS] at hlk
  have cm := S3.fnd.cm
  have c0 := S3.fnd.cf 0 (by omega)
  rw [ev0] at c0
  simp only [fld] at c0
  obtain ⟨n0, n1, n2, n3, n4, n5, n6, n7, n8, n9, n10, n11, n12, n13, -⟩ := id sN
  obtain ⟨-, -, r2, r3, -⟩ := id sR
  have hK3 : Hid (∀ g, kI w C M Fr B g → (((kI w C M Fr B g ∨ g = Bl) ∨ g = Nx) ∨ g = Rd)) := fun g q => .inl (.inl (.inl q))
  have hl300 := hi.l
  replace hnext : Hid _ := hnext
  replace hci : Hid _ := hci
  replace hstep : Hid _ := hstep
  replace hrd : Hid _ := hrd
  replace hyy : Hid _ := hyy
  replace hG : Hid _ := hG
  replace ev0 : Hid _ := ev0
  replace hlt : Hid _ := hlt
  clear S22 hcp0 hsat hLl hLp
  have hgk : Hid (Gk r k x (g1 r k x G y.1)) := hi.g.step hyE hrg
  by_cases hin : yy ∈ G.L
  · have hd : decide (yy ∈ G.L) = true := decide_eq_true hin
    rw [hd] at hlk
    obtain ⟨t, ht⟩ : ∃ t, ix G.L yy = t := ⟨_, rfl⟩
    have hc : c = (t : Int) := by rw [← ht]; exact hci.out _ (ix_mem hin).2
    subst hc
    have hg1 : Hid (g1 r k x G y.1 = ⟨G.L, G.S ++ [⟨k, t, y.1, rd.c0, rd.c1⟩], G.F⟩) := by
      show _ = _
      rw [g1_in (by rw [hyy.out]; exact hin), hyy.out, hrd.out, ht]
    obtain ⟨ao1, cp1, g, cap, w5, q1, hr, c5, f5, hS5⟩ := step_app S3 hGS k t y.1 rd.c0 rd.c1
    replace ht : Hid _ := ht
    clear hin hd
    gi_wp2
    obtain ⟨v5, S5, m5⟩ := hS5.out
    rw [← hg1.out] at S5
    have := close_round hi b3 S5 m5 hK3.out hkF hkB hMN hgk.out (by rw [hg1.out]; exact hl300)
    rw [← hnext.out] at this
    exact this
  · have hd : decide (yy ∈ G.L) = false := decide_eq_false hin
    rw [hd] at hlk
    by_cases h3 : G.L.length = 300
    · rw [h3] at c0
      have hy' : sp r x y.1 ∉ G.L := by rw [hyy.out]; exact hin
      have hfin : Hid (KeepsFrom NW W (((((W3.setCell ⟨w.heap.size + 1, 0, none⟩ (.slice none 0 0)).setCell ⟨w.heap.size + 1, 1, none⟩ (.map none)).setCell ⟨w.heap.size + 1, 2, none⟩ (.slice none 0 0)).setCell ⟨w.heap.size + 1, 3, none⟩ (.slice none 0 0)).setCell ⟨w.heap.size + 1 + 1, 0, none⟩ (.int .i64 4)) ∧ Code.ret = Code.ret ∧ Jr w r M k x Ds (pre ++ [y]) (((((W3.setCell ⟨w.heap.size + 1, 0, none⟩ (.slice none 0 0)).setCell ⟨w.heap.size + 1, 1, none⟩ (.map none)).setCell ⟨w.heap.size + 1, 2, none⟩ (.slice none 0 0)).setCell ⟨w.heap.size + 1, 3, none⟩ (.slice none 0 0)).setCell ⟨w.heap.size + 1 + 1, 0, none⟩ (.int .i64 4))) := full_round hi hG.out b3 S3 h3 hy'
      obtain ⟨p0, g0'⟩ := S3.res.c 0 (by omega)
      obtain ⟨p1, g1'⟩ := S3.res.c 1 (by omega)
      obtain ⟨p2, g2'⟩ := S3.res.c 2 (by omega)
      obtain ⟨p3, g3'⟩ := S3.res.c 3 (by omega)
      have p4 : W3.cell? ⟨w.heap.size + 1 + 1, 0, none⟩ = some (.int .i64 0) := S3.er.c
      have g4' : W3.frozen? ⟨w.heap.size + 1 + 1, 0, none⟩ = false := S3.er.f
      simp only [nil4] at p0 p1 p2 p3
      clear hin hd hy' h3
      gi_wp2
      exact ⟨hfin.out.1, rfl, hfin.out.2.2⟩
    · have hl299 : G.L.length < 300 := by omega
      have h3' : ((G.L.length : Int) == 300) = false := by simp; omega
      have hne : decide ((G.L.length : Int) = 300) = false := decide_eq_false (by omega)
      have hput := fun W' (f : Fnd w.heap.size (fun g => ((kI w C M Fr B g ∨ g = Bl) ∨ g = Nx) ∨ g = Rd) C M r v G.L G.L G.S G.F W') => put_any w.heap.size (fun g => ((kI w C M Fr B g ∨ g = Bl) ∨ g = Nx) ∨ g = Rd) C M r v G.L G.S G.F yy (pright_ok hry) hin (by omega) (by omega) (by have := hi.g.fl; omega) W' f
      have hg1 : Hid (g1 r k x G y.1 = ⟨G.L ++ [yy], G.S ++ [⟨k, G.L.length, y.1, rd.c0, rd.c1⟩], G.F ++ [G.S.length]⟩) := by
        show _ = _
        rw [g1_out (by rw [hyy.out]; exact hin), hyy.out, hrd.out]
      clear hin hd h3
      gi_wp2_with (refine ⟨trivial, ?_⟩; gi_at_call 91; refine (CallsIn.inRound l (callsIn_wide.2 (hput _ S3.fnd))).mono ?_; clear hput hlk cm c0 n0 n1 n2 n3 n4 n5 n6 n7 n8 n9 n10 n11 n12 n13; rintro e W4 ⟨rfl, v4, -, f4, m4⟩; have S4 := S3.mov (G' := ⟨G.L ++ [yy], G.S, G.F ++ [G.S.length]⟩) f4 m4; replace lc0 := (World.cell?_of_block (a := ⟨Bl, 0, none⟩) (m4.oth Bl (.inl (.inl (.inr rfl))) hBlC hBlM)).trans lc0; replace lc1 := (World.cell?_of_block (a := ⟨Bl, 1, none⟩) (m4.oth Bl (.inl (.inl (.inr rfl))) hBlC hBlM)).trans lc1; replace bf := (World.cell?_of_block (a := ⟨Fr, 0, none⟩) (m4.oth Fr (.inl (.inl (.inl (.inr (.inl rfl))))) (nC _ hkF).1 (nC _ hkF).2)).trans bf; replace r2 := (World.cell?_of_block (a := ⟨Rd, 2, none⟩) (m4.oth Rd (.inr rfl) (by omega) (by omega))).trans r2; replace r3 := (World.cell?_of_block (a := ⟨Rd, 3, none⟩) (m4.oth Rd (.inr rfl) (by omega) (by omega))).trans r3; obtain ⟨ao1, cp1, g, cap, w5, q1, hr, c5, f5, hS5⟩ := step_app S4 hGS k G.L.length y.1 rd.c0 rd.c1; dsimp only at q1 hr c5)
      obtain ⟨v5, S5, m5⟩ := hS5.out
      rw [← hg1.out] at S5
      have := close_round hi b3 S5 (m4.trans m5) hK3.out hkF hkB hMN hgk.out (by rw [hg1.out]; simp; omega)
      rw [← hnext.out] at this
      exact this

end Go.Proofs.YtjageagnclmnjabGreatDoor.D
