/- PROVED: what lies there while DuelParts goes on. CONDITIONS: none beyond each theorem's own. -/
import Derived.Test.YtobgjnjndkfjoaaDPlayO
import Derived.Test.YtobgjnjndkfjoaaDConcat
import Derived.Maps.AppendAt
namespace Go.Proofs.Ytobgjnjndkfjoaa.D
open Go.RowKit K

theorem RRow.far {w : World} {al : Option Addr} {R : List Rx} (h : RRow w al R) {D o : Nat} (hD : ∀ q, al = some q → q.block ≠ D) (v : Value) : RRow (w.setCell ⟨D, o, none⟩ v) al R := by
  rcases h with e | ⟨b, q, e, k⟩
  · exact .inl e
  · refine .inr ⟨b, q, e, fun j hj => ?_⟩
    have hb : D ≠ b := fun e' => hD _ e e'.symm
    have e : ∀ i, (w.setCell ⟨D, o, none⟩ v).cell? ⟨b, i, none⟩ = w.cell? ⟨b, i, none⟩ := fun i => World.cell?_setCell_other _ _ _ _ (fun p => hb (by injection p))
    obtain ⟨f0, f1, f2, f3, f4, f5⟩ := k j hj
    exact ⟨(e _).trans f0, (e _).trans f1, (e _).trans f2, (e _).trans f3, (e _).trans f4, (e _).trans f5⟩
theorem RRow.blocks {w w' : World} {al : Option Addr} {R : List Rx} (h : RRow w al R) (hb : ∀ q, al = some q → w'.heap[q.block]? = w.heap[q.block]?) : RRow w' al R := by
  rcases h with e | ⟨b, q, e, k⟩
  · exact .inl e
  · refine .inr ⟨b, q, e, fun j hj => ?_⟩
    have e : ∀ i, w'.cell? ⟨b, i, none⟩ = w.cell? ⟨b, i, none⟩ := fun i => World.cell?_of_block (show w'.heap[b]? = w.heap[b]? from hb ⟨b, q, none⟩ e)
    obtain ⟨f0, f1, f2, f3, f4, f5⟩ := k j hj
    exact ⟨(e _).trans f0, (e _).trans f1, (e _).trans f2, (e _).trans f3, (e _).trans f4, (e _).trans f5⟩
theorem RRow.lt {w : World} {al : Option Addr} {R : List Rx} (h : RRow w al R) (hp : 0 < R.length) {q : Addr} (e : al = some q) : q.block < w.heap.size := by
  obtain ⟨b, o, e', k⟩ := h.at hp
  rw [e] at e'
  injection e' with e'
  subst e'
  exact block_lt (k 0 hp).c0

/-- what lies there: the rules, the state, the state of the whole run, the rounds so far, those of the whole run -/
structure DpAt (w : World) (V C C2 : Nat) (p0 p1 r m j k0 n0 b0 a0 c0 q0 k1 n1 b1 a1 c1 q1 w0 w1 t0 t1 t2 t3 t4 t5 t6 t7 t8 t9 t10 t11 t12 t13 : Int) (t : Value) (R : List Rx) (al : Option Addr) (RB : List Rx) (wr : World) : Prop where
  hR : Rul wr w.heap.size p0 p1 r m j
  hS : Sta wr C k0 n0 b0 a0 c0 q0 k1 n1 b1 a1 c1 q1 w0 w1
  hT : Sta wr C2 t0 t1 t2 t3 t4 t5 t6 t7 t8 t9 t10 t11 t12 t13
  own : Owned wr V t R.length (flatR R)
  app : ∀ q, t.ownBlock = some q → q ≠ C ∧ q ≠ C2 ∧ ∀ z, al = some z → q ≠ z.block
  hB : RRow wr al RB
  lo : w.heap.size < V ∧ w.heap.size < C ∧ w.heap.size < C2 ∧ C ≠ C2 ∧ ∀ z, al = some z → z.block ≠ C ∧ z.block < wr.heap.size
  below : Below w.heap.size w wr
theorem DpAt.kept {w' : World} {w wr : World} {V C C2 : Nat} {p0 p1 r m j k0 n0 b0 a0 c0 q0 k1 n1 b1 a1 c1 q1 w0 w1 t0 t1 t2 t3 t4 t5 t6 t7 t8 t9 t10 t11 t12 t13 : Int} {t : Value} {R : List Rx} {al : Option Addr} {RB : List Rx} (h : DpAt w V C C2 p0 p1 r m j k0 n0 b0 a0 c0 q0 k1 n1 b1 a1 c1 q1 w0 w1 t0 t1 t2 t3 t4 t5 t6 t7 t8 t9 t10 t11 t12 t13 t R al RB wr) (g : Below wr.heap.size wr w') : DpAt w V C C2 p0 p1 r m j k0 n0 b0 a0 c0 q0 k1 n1 b1 a1 c1 q1 w0 w1 t0 t1 t2 t3 t4 t5 t6 t7 t8 t9 t10 t11 t12 t13 t R al RB w' :=
  ⟨h.hR.kept g, h.hS.kept g, h.hT.kept g, ⟨own_kept6 h.own.out g⟩, h.app, h.hB.kept g, ⟨h.lo.1, h.lo.2.1, h.lo.2.2.1, h.lo.2.2.2.1, fun z hz => ⟨(h.lo.2.2.2.2 z hz).1, Nat.lt_of_lt_of_le (h.lo.2.2.2.2 z hz).2 g.size⟩⟩, bthen h.below g⟩
theorem DpAt.alloc {w wr : World} {V C C2 : Nat} {p0 p1 r m j k0 n0 b0 a0 c0 q0 k1 n1 b1 a1 c1 q1 w0 w1 t0 t1 t2 t3 t4 t5 t6 t7 t8 t9 t10 t11 t12 t13 : Int} {t : Value} {R : List Rx} {al : Option Addr} {RB : List Rx} (h : DpAt w V C C2 p0 p1 r m j k0 n0 b0 a0 c0 q0 k1 n1 b1 a1 c1 q1 w0 w1 t0 t1 t2 t3 t4 t5 t6 t7 t8 t9 t10 t11 t12 t13 t R al RB wr) (o : Obj) : DpAt w V C C2 p0 p1 r m j k0 n0 b0 a0 c0 q0 k1 n1 b1 a1 c1 q1 w0 w1 t0 t1 t2 t3 t4 t5 t6 t7 t8 t9 t10 t11 t12 t13 t R al RB (wr.alloc o) := h.kept (balloc (Below.refl _ _) o)
theorem DpAt.drew {w wr : World} {V C C2 : Nat} {p0 p1 r m j k0 n0 b0 a0 c0 q0 k1 n1 b1 a1 c1 q1 w0 w1 t0 t1 t2 t3 t4 t5 t6 t7 t8 t9 t10 t11 t12 t13 : Int} {t : Value} {R : List Rx} {al : Option Addr} {RB : List Rx} (h : DpAt w V C C2 p0 p1 r m j k0 n0 b0 a0 c0 q0 k1 n1 b1 a1 c1 q1 w0 w1 t0 t1 t2 t3 t4 t5 t6 t7 t8 t9 t10 t11 t12 t13 t R al RB wr) : DpAt w V C C2 p0 p1 r m j k0 n0 b0 a0 c0 q0 k1 n1 b1 a1 c1 q1 w0 w1 t0 t1 t2 t3 t4 t5 t6 t7 t8 t9 t10 t11 t12 t13 t R al RB wr.drew := h.kept (below_drewN (Below.refl _ _) 1)
theorem DpAt.set {o : Nat} {x : Value} {w wr : World} {V C C2 : Nat} {p0 p1 r m j k0 n0 b0 a0 c0 q0 k1 n1 b1 a1 c1 q1 w0 w1 t0 t1 t2 t3 t4 t5 t6 t7 t8 t9 t10 t11 t12 t13 : Int} {t : Value} {R : List Rx} {al : Option Addr} {RB : List Rx} (h : DpAt w V C C2 p0 p1 r m j k0 n0 b0 a0 c0 q0 k1 n1 b1 a1 c1 q1 w0 w1 t0 t1 t2 t3 t4 t5 t6 t7 t8 t9 t10 t11 t12 t13 t R al RB wr) {u0 u1 u2 u3 u4 u5 u6 u7 u8 u9 u10 u11 u12 u13 : Int} (hs : Sta (wr.setCell ⟨C, o, none⟩ x) C u0 u1 u2 u3 u4 u5 u6 u7 u8 u9 u10 u11 u12 u13) : DpAt w V C C2 p0 p1 r m j u0 u1 u2 u3 u4 u5 u6 u7 u8 u9 u10 u11 u12 u13 t0 t1 t2 t3 t4 t5 t6 t7 t8 t9 t10 t11 t12 t13 t R al RB (wr.setCell ⟨C, o, none⟩ x) := by
  obtain ⟨l0, l1, l2, l3, l4⟩ := h.lo
  refine ⟨h.hR.far (by omega) _, hs, h.hT.far l3 _, ⟨?_⟩, h.app, h.hB.far (fun q hq => (l4 q hq).1) _, ⟨l0, l1, l2, l3, fun z hz => ⟨(l4 z hz).1, ?_⟩⟩, h.below.setCell (p := ⟨C, o, none⟩) (by show w.heap.size ≤ C; omega) _⟩
  · obtain ⟨hl, h2⟩ := h.own.out
    refine ⟨hl, ?_⟩
    rcases h2 with e | ⟨g, cap, cur, e, hg, hh, r⟩
    · exact .inl e
    · refine .inr ⟨g, cap, cur, e, hg, ?_, r⟩
      rw [Below.heap_setCell _ _ _ _ ((h.app g (by rw [e]; rfl)).1)]; exact hh
  · have e : (wr.setCell ⟨C, o, none⟩ x).heap.size = wr.heap.size := by simp
    rw [e]; exact (l4 z hz).2
theorem DpAt.put {w wr : World} {V C C2 : Nat} {p0 p1 r m j k0 n0 b0 a0 c0 q0 k1 n1 b1 a1 c1 q1 w0 w1 t0 t1 t2 t3 t4 t5 t6 t7 t8 t9 t10 t11 t12 t13 : Int} {t : Value} {R : List Rx} {al : Option Addr} {RB : List Rx} (h : DpAt w V C C2 p0 p1 r m j k0 n0 b0 a0 c0 q0 k1 n1 b1 a1 c1 q1 w0 w1 t0 t1 t2 t3 t4 t5 t6 t7 t8 t9 t10 t11 t12 t13 t R al RB wr) (k2 n2 b2 a2 c2 q2 k3 n3 b3 a3 c3 q3 z0 z1 : Int) : DpAt w V C C2 p0 p1 r m j k2 n2 b2 a2 c2 q2 k3 n3 b3 a3 c3 q3 z0 z1 t0 t1 t2 t3 t4 t5 t6 t7 t8 t9 t10 t11 t12 t13 t R al RB ((((((((((((((wr.setCell ⟨C, 0, none⟩ (.int .i64 k2)).setCell ⟨C, 1, none⟩ (.int .i64 n2)).setCell ⟨C, 2, none⟩ (.int .i64 b2)).setCell ⟨C, 3, none⟩ (.int .i64 a2)).setCell ⟨C, 4, none⟩ (.int .i64 c2)).setCell ⟨C, 5, none⟩ (.int .i64 q2)).setCell ⟨C, 6, none⟩ (.int .i64 k3)).setCell ⟨C, 7, none⟩ (.int .i64 n3)).setCell ⟨C, 8, none⟩ (.int .i64 b3)).setCell ⟨C, 9, none⟩ (.int .i64 a3)).setCell ⟨C, 10, none⟩ (.int .i64 c3)).setCell ⟨C, 11, none⟩ (.int .i64 q3)).setCell ⟨C, 12, none⟩ (.int .i64 z0)).setCell ⟨C, 13, none⟩ (.int .i64 z1)) := by
  have h0 := h.set (o := 0) (x := .int .i64 k2) (h.hS.set0 k2)
  have h1 := h0.set (o := 1) (x := .int .i64 n2) (h0.hS.set1 n2)
  have h2 := h1.set (o := 2) (x := .int .i64 b2) (h1.hS.set2 b2)
  have h3 := h2.set (o := 3) (x := .int .i64 a2) (h2.hS.set3 a2)
  have h4 := h3.set (o := 4) (x := .int .i64 c2) (h3.hS.set4 c2)
  have h5 := h4.set (o := 5) (x := .int .i64 q2) (h4.hS.set5 q2)
  have h6 := h5.set (o := 6) (x := .int .i64 k3) (h5.hS.set6 k3)
  have h7 := h6.set (o := 7) (x := .int .i64 n3) (h6.hS.set7 n3)
  have h8 := h7.set (o := 8) (x := .int .i64 b3) (h7.hS.set8 b3)
  have h9 := h8.set (o := 9) (x := .int .i64 a3) (h8.hS.set9 a3)
  have h10 := h9.set (o := 10) (x := .int .i64 c3) (h9.hS.set10 c3)
  have h11 := h10.set (o := 11) (x := .int .i64 q3) (h10.hS.set11 q3)
  have h12 := h11.set (o := 12) (x := .int .i64 z0) (h11.hS.set12 z0)
  have h13 := h12.set (o := 13) (x := .int .i64 z1) (h12.hS.set13 z1)
  exact h13

/-- append, kept whole -/
def appe (ats : Array TypeId) (ty : TypeId) (args : Array Value) : Sem Value := Builtin.append_ ats ty args
theorem appe_whole (ats : Array TypeId) (ty : TypeId) (args : Array Value) : Builtin.append_ ats ty args = appe ats ty args := rfl
/-- one round more, in a region that draws -/
theorem DpAt.push {w wr : World} {V C C2 : Nat} {p0 p1 r m j k0 n0 b0 a0 c0 q0 k1 n1 b1 a1 c1 q1 w0 w1 t0 t1 t2 t3 t4 t5 t6 t7 t8 t9 t10 t11 t12 t13 : Int} {t : Value} {R : List Rx} {al : Option Addr} {RB : List Rx} (h : DpAt w V C C2 p0 p1 r m j k0 n0 b0 a0 c0 q0 k1 n1 b1 a1 c1 q1 w0 w1 t0 t1 t2 t3 t4 t5 t6 t7 t8 t9 t10 t11 t12 t13 t R al RB wr) (hl : R.length + 1 ≤ 4194304) (hV : V ≤ wr.heap.size) (x : Rx) :
    ∃ t' w2, (appe #[41, 41] 41 #[t, .slice (some ⟨wr.heap.size, 0, none⟩) 1 1]).run Try.prog (wr.alloc (.cells #[.int .i64 x.s0, .int .i64 x.s1, .int .i64 x.c0, .int .i64 x.c1, .int .i64 x.l0, .int .i64 x.l1] 34)).drew = .ok t' w2 ∧ DpAt w V C C2 p0 p1 r m j k0 n0 b0 a0 c0 q0 k1 n1 b1 a1 c1 q1 w0 w1 t0 t1 t2 t3 t4 t5 t6 t7 t8 t9 t10 t11 t12 t13 t' (R ++ [x]) al RB w2 ∧ ∀ b, b < wr.heap.size → (∀ q, t.ownBlock = some q → q ≠ b) → w2.heap[b]? = wr.heap[b]? := by
  obtain ⟨i0, hi, hz0, hz1, hz2⟩ := info_parts Try.info34
  obtain ⟨l0, l1, l2, l3, l4⟩ := h.lo
  have hd := h.drew
  have hs : wr.drew.heap.size = wr.heap.size := rfl
  obtain ⟨t', w2, hrun, hown, hgrow, _, hat⟩ := run_append_own_at (P := Try.prog) (wr.drew.alloc (.cells #[.int .i64 x.s0, .int .i64 x.s1, .int .i64 x.c0, .int .i64 x.c1, .int .i64 x.l0, .int .i64 x.l1] 34)) V 41 41 34 i0 (.agg #[.int .i64 0, .int .i64 0, .int .i64 0, .int .i64 0, .int .i64 0, .int .i64 0]) 6 48 Try.underlying41 hi hz0 hz1 hz2 rfl (by decide) t _ _ (hd.own.out.alloc _) ⟨wr.heap.size, 0, none⟩ 1 1 (cellsR x) rfl (cell_six_new wr.drew x) (by simp [cellsR, Value.oneCell']) (by unfold maxLen; omega) (by omega) (by simp; omega)
  refine ⟨t', w2, hrun, (?_ : _ ∧ _)⟩
  have hsz : (wr.drew.alloc (.cells #[.int .i64 x.s0, .int .i64 x.s1, .int .i64 x.c0, .int .i64 x.c1, .int .i64 x.l0, .int .i64 x.l1] 34)).heap.size = wr.heap.size + 1 := by simp
  have hC : C < wr.heap.size := block_lt h.hS.c0
  have hC2 : C2 < wr.heap.size := block_lt h.hT.c0
  have hw : w.heap.size < wr.heap.size := block_lt h.hR.c0
  have blk : ∀ b, b < wr.heap.size → (∀ q, t.ownBlock = some q → q ≠ b) → w2.heap[b]? = wr.heap[b]? := fun b hb hne => (hgrow.block b (by omega) (fun e => hne b e.symm rfl)).trans (Below.heap_alloc wr.drew _ b hb)
  have hap := h.app
  have hlt := fun q hq => h.own.out.lt q hq
  refine ⟨?_, blk⟩
  refine ⟨h.hR.same (fun q => World.cell?_of_block (blk _ hw (fun q hq => by have := (hlt q hq).1; show q ≠ w.heap.size; omega))) (fun q => World.frozen?_of_block (blk _ hw (fun q hq => by have := (hlt q hq).1; show q ≠ w.heap.size; omega))), h.hS.same (fun q => World.cell?_of_block (blk _ hC (fun q hq => (hap q hq).1))) (fun q => World.frozen?_of_block (blk _ hC (fun q hq => (hap q hq).1))), h.hT.same (fun q => World.cell?_of_block (blk _ hC2 (fun q hq => (hap q hq).2.1))) (fun q => World.frozen?_of_block (blk _ hC2 (fun q hq => (hap q hq).2.1))), ⟨?_⟩, ?_, h.hB.blocks (fun z hz => blk _ (l4 z hz).2 (fun q hq => (hap q hq).2.2 z hz)), ⟨l0, l1, l2, l3, fun z hz => ⟨(l4 z hz).1, ?_⟩⟩, ?_⟩
  · rw [List.length_append, flatR_append, show flatR [x] = cellsR x by simp [flatR]]; exact hown
  · intro q hq
    rcases hat with e | e
    · exact hap q (e ▸ hq)
    · rw [hq] at e
      injection e with e
      refine ⟨by omega, by omega, fun z hz => ?_⟩
      have := (l4 z hz).2
      omega
  · have := hgrow.size; have := (l4 z hz).2; omega
  · have b1 := balloc hd.below (.cells #[.int .i64 x.s0, .int .i64 x.s1, .int .i64 x.c0, .int .i64 x.c1, .int .i64 x.l0, .int .i64 x.l1] 34)
    exact b1.grown hgrow b1.size fun q hq => by have := (hlt q hq).1; omega

end Go.Proofs.Ytobgjnjndkfjoaa.D
