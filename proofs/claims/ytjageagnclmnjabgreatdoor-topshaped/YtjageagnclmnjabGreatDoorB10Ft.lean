/- PROVED: the document's own SOf: the region in which four rows grow by one each, whole. the document's own SOf: the region in which a state is appended. the three rows of steady's finding, that grow, each in a block of its own, and blocks that they leave alone. CONDITIONS: none beyond each theorem's own. -/
import Derived.Test.YtjageagnclmnjabGreatDoorB09Chn
import Derived.Test.YtjageagnclmnjabGreatDoorB07Fam
import Derived.RangeFuncNested
namespace Go.Proofs.YtjageagnclmnjabGreatDoor.D
set_option maxRecDepth 100000
open Go.RowKit K
set_option linter.unusedVariables false

theorem Fam.ext {B0 : Nat} {K' : Nat → Prop} {cur cur' : Nat → Value} {n n' : Nat → Nat} {xs xs' : Nat → List Value} {wr : World} (h : Fam B0 K' cur n xs wr) (e : ∀ c, c < 5 → cur' c = cur c ∧ n' c = n c ∧ xs' c = xs c) : Fam B0 K' cur' n' xs' wr :=
  ⟨fun c hc => by rw [(e c hc).1, (e c hc).2.1, (e c hc).2.2]; exact h.own c hc, fun c d hc hd hne g hg => by rw [(e d hd).1]; rw [(e c hc).1] at hg; exact h.ap c d hc hd hne g hg, fun g hg => ⟨(h.kb g hg).1, fun c hc => by rw [(e c hc).1]; exact (h.kb g hg).2 c hc⟩, h.sz⟩
def el25 (k : Nat) (tz lx ly : Int) (rr : Rx) : Nat → Value
  | 1 => .int .i64 (k : Int)
  | 2 => .int .i64 tz
  | 3 => .agg #[.int .i64 lx, .int .i64 ly]
  | _ => .agg #[.int .i64 rr.s0, .int .i64 rr.s1, .int .i64 rr.c0, .int .i64 rr.c1, .int .i64 rr.l0, .int .i64 rr.l1]
def new25 (k : Nat) (tz lx ly : Int) (rr : Rx) : Nat → List Value
  | 1 => [.int .i64 (k : Int)]
  | 2 => [.int .i64 tz]
  | 3 => [.int .i64 lx, .int .i64 ly]
  | _ => cellsR rr
theorem So.ext {w : World} {r : Ru} {C : Nat} {K' : Nat → Prop} {v v2 : Nat → Value} {n n2 : Nat → Nat} {xs xs2 : Nat → List Value} {wr : World} (h : So w r C K' v n xs wr) (e : ∀ c, c < 5 → v2 c = v c ∧ n2 c = n c ∧ xs2 c = xs c) : So w r C K' v2 n2 xs2 wr :=
  ⟨h.rul, h.res, ⟨fun c hc => by rw [(e c hc).1]; exact h.fiv.c c hc⟩, Fam.ext h.fam e, h.kin, h.cc, h.below⟩
/-- rows behind t steps, but the states are those behind one more: then one more for each -/
theorem So.step {w : World} {r : Ru} {C : Nat} {K' : Nat → Prop} {v : Nat → Value} {t k : Nat} {tz lx ly : Int} {rd : Rx} {W6 : World} (hk : ∀ g, kk w C g → K' g)
    (h : So w r C K' v (fun c => if c = 0 then (xp r (t + 1)).1.length else t + 1) (fun c => if c = 0 then flS (xp r (t + 1)).1 else fx r t c ++ new25 k tz lx ly rd c) W6)
    (f1 : fx r (t + 1) 1 = fx r t 1 ++ [.int .i64 (k : Int)]) (f2 : fx r (t + 1) 2 = fx r t 2 ++ [.int .i64 tz]) (f3 : fx r (t + 1) 3 = fx r t 3 ++ [.int .i64 lx, .int .i64 ly]) (f4 : fx r (t + 1) 4 = fx r t 4 ++ cellsR rd) : So w r C (kk w C) v (fn r (t + 1)) (fx r (t + 1)) W6 := by
  refine (h.less hk (fun g q => q)).ext fun c hc => ?_
  rcases (show c = 0 ∨ c = 1 ∨ c = 2 ∨ c = 3 ∨ c = 4 by omega) with rfl | rfl | rfl | rfl | rfl
  · exact ⟨rfl, rfl, rfl⟩
  · exact ⟨rfl, rfl, f1⟩
  · exact ⟨rfl, rfl, f2⟩
  · exact ⟨rfl, rfl, f3⟩
  · exact ⟨rfl, rfl, f4⟩

end Go.Proofs.YtjageagnclmnjabGreatDoor.D

namespace Go.Proofs.YtjageagnclmnjabGreatDoor.D
set_option maxRecDepth 100000
open Go.RowKit K
set_option linter.unusedVariables false

section
variable {P : Program} {ops : Array Oper} {Q : Exit → Act → World → Prop} {rest : List Oper} {o : Oper} {a : Act} {w w' : World} {v : Value}
end
section
variable {ev : Operand → Value} {w : World}
theorem eb_sta {o : Oper} {N x : Nat} {y : Sx} (ho : o.op = .load 147 (.tmp x)) (h : ev (.tmp x) = .pointer (some ⟨N, 0, none⟩)) (hs : Sta w N y.f0.k y.f0.n y.f0.b y.f0.a y.f0.s y.f0.q y.f1.k y.f1.n y.f1.b y.f1.a y.f1.s y.f1.q y.w0 y.w1) : (execOp ev o).run Tryz.prog w = .ok (.value (.agg #[.int .i64 y.f0.k, .int .i64 y.f0.n, .int .i64 y.f0.b, .int .i64 y.f0.a, .int .i64 y.f0.s, .int .i64 y.f0.q, .int .i64 y.f1.k, .int .i64 y.f1.n, .int .i64 y.f1.b, .int .i64 y.f1.a, .int .i64 y.f1.s, .int .i64 y.f1.q, .int .i64 y.w0, .int .i64 y.w1])) w := by
  obtain ⟨x0, x1, x2, x3, x4, x5, x6, x7, x8, x9, x10, x11, x12, x13, _⟩ := hs
  simp [execOp, ho, h, go_sem, x0, x1, x2, x3, x4, x5, x6, x7, x8, x9, x10, x11, x12, x13]
theorem eb_bs25 {o : Oper} {s : Nat} {y : Sx} (ho : o.op = .buildSlice 115 1 #[(0, .tmp s)]) (h : ev (.tmp s) = .agg #[.int .i64 y.f0.k, .int .i64 y.f0.n, .int .i64 y.f0.b, .int .i64 y.f0.a, .int .i64 y.f0.s, .int .i64 y.f0.q, .int .i64 y.f1.k, .int .i64 y.f1.n, .int .i64 y.f1.b, .int .i64 y.f1.a, .int .i64 y.f1.s, .int .i64 y.f1.q, .int .i64 y.w0, .int .i64 y.w1]) : (execOp ev o).run Tryz.prog w = .ok (.value (.slice (some ⟨w.heap.size, 0, none⟩) 1 1)) (w.alloc (.cells #[.int .i64 y.f0.k, .int .i64 y.f0.n, .int .i64 y.f0.b, .int .i64 y.f0.a, .int .i64 y.f0.s, .int .i64 y.f0.q, .int .i64 y.f1.k, .int .i64 y.f1.n, .int .i64 y.f1.b, .int .i64 y.f1.a, .int .i64 y.f1.s, .int .i64 y.f1.q, .int .i64 y.w0, .int .i64 y.w1] 147)) := by
  simp [execOp, ho, h, go_sem]
end
end Go.Proofs.YtjageagnclmnjabGreatDoor.D

namespace Go.Proofs.YtjageagnclmnjabGreatDoor.F3
open Go.RowKit
set_option linter.unusedVariables false

/-- what the rows are of: states, steps, ints: types, cells, bytes, the slices' types -/
def fty : Nat → Nat
  | 0 => 147
  | 1 => 123
  | _ => 3
def fsz : Nat → Nat
  | 0 => 14
  | 1 => 6
  | _ => 1
def fby : Nat → Nat
  | 0 => 112
  | 1 => 48
  | _ => 8
def fsl : Nat → Nat
  | 0 => 115
  | 1 => 117
  | _ => 24

/-- three rows in blocks of their own, apart from one another and from the blocks of K -/
structure Fam (B0 : Nat) (K : Nat → Prop) (cur : Nat → Value) (n : Nat → Nat) (xs : Nat → List Value) (wr : World) : Prop where
  own : ∀ c, c < 3 → wr.ownsRow B0 (fty c) (fsz c) (cur c) (n c) (xs c)
  ap : ∀ c d, c < 3 → d < 3 → c ≠ d → ∀ g, (cur c).ownBlock = some g → (cur d).ownBlock ≠ some g
  kb : ∀ g, K g → g < wr.heap.size ∧ ∀ c, c < 3 → (cur c).ownBlock ≠ some g
  sz : B0 ≤ wr.heap.size
theorem Fam.kept {B0 : Nat} {K : Nat → Prop} {cur : Nat → Value} {n : Nat → Nat} {xs : Nat → List Value} {wr w' : World} (h : Fam B0 K cur n xs wr) (b : Below wr.heap.size wr w') : Fam B0 K cur n xs w' :=
  ⟨fun c hc => own_same (h.own c hc) fun g hg => b.block g ((h.own c hc).lt g hg).2, h.ap, fun g hg => ⟨Nat.lt_of_lt_of_le (h.kb g hg).1 b.size, (h.kb g hg).2⟩, Nat.le_trans h.sz b.size⟩
theorem Fam.less {B0 : Nat} {K K' : Nat → Prop} {cur : Nat → Value} {n : Nat → Nat} {xs : Nat → List Value} {wr : World} (h : Fam B0 K cur n xs wr) (hk : ∀ g, K' g → K g) : Fam B0 K' cur n xs wr :=
  ⟨h.own, h.ap, fun g hg => h.kb g (hk g hg), h.sz⟩
/-- what is made anew is apart from them -/
theorem Fam.alloc {B0 : Nat} {K : Nat → Prop} {cur : Nat → Value} {n : Nat → Nat} {xs : Nat → List Value} {wr : World} (h : Fam B0 K cur n xs wr) (o : Obj) : Fam B0 (fun g => K g ∨ g = wr.heap.size) cur n xs (wr.alloc o) := by
  have k := h.kept (balloc (Below.refl _ _) o)
  refine ⟨k.own, k.ap, fun g hg => ?_, k.sz⟩
  rcases hg with hg | rfl
  · exact k.kb g hg
  · exact ⟨by simp, fun c hc q => by have := ((h.own c hc).lt _ q).2; omega⟩
/-- a block of K is written -/
theorem Fam.put {B0 : Nat} {K : Nat → Prop} {cur : Nat → Value} {n : Nat → Nat} {xs : Nat → List Value} {wr : World} (h : Fam B0 K cur n xs wr) {p : Addr} (hp : K p.block) (x : Value) : Fam B0 K cur n xs (wr.setCell p x) :=
  ⟨fun c hc => own_same (h.own c hc) fun g hg => Below.heap_setCell _ _ _ _ (fun e => (h.kb _ hp).2 c hc (by rw [← e]; exact hg)), h.ap, fun g hg => by have := h.kb g hg; simpa using this, by simpa using h.sz⟩
/-- one row has grown -/
theorem Fam.grow {B0 : Nat} {K : Nat → Prop} {cur : Nat → Value} {n : Nat → Nat} {xs : Nat → List Value} {W w2 : World} (h : Fam B0 K cur n xs W) {c : Nat} (hc : c < 3) {t' : Value} {m : Nat} {zs : List Value}
    (ho : w2.ownsRow B0 (fty c) (fsz c) t' m zs) (hg : W.grownBy w2 (cur c).ownBlock) (hat : t'.ownBlock = (cur c).ownBlock ∨ t'.ownBlock = some W.heap.size) :
    Fam B0 K (up cur c t') (up n c m) (up xs c zs) w2 ∧ ∀ g, K g → w2.heap[g]? = W.heap[g]? := by
  have blk : ∀ g, g < W.heap.size → (cur c).ownBlock ≠ some g → w2.heap[g]? = W.heap[g]? := fun g h1 h2 => hg.block g h1 (fun q => h2 q.symm)
  have hsz := hg.size
  have new : ∀ g, g < W.heap.size → (cur c).ownBlock ≠ some g → t'.ownBlock ≠ some g := fun g h1 h2 q => by
    rcases hat with e | e
    · exact h2 (by rw [← e]; exact q)
    · rw [e] at q; injection q with q; omega
  refine ⟨⟨fun d hd => ?_, fun d e hd he hne g hdg => ?_, fun g hk => ⟨by have := (h.kb g hk).1; omega, fun d hd => ?_⟩, by have := h.sz; omega⟩, fun g hk => blk g (h.kb g hk).1 ((h.kb g hk).2 c hc)⟩
  · by_cases e : d = c
    · subst e; rw [up_at, up_at, up_at]; exact ho
    · rw [up_ne _ _ _ e, up_ne _ _ _ e, up_ne _ _ _ e]
      exact own_same (h.own d hd) fun g hq => blk g ((h.own d hd).lt g hq).2 (fun q => h.ap d c hd hc e g hq q)
  · by_cases e1 : d = c
    · subst e1
      rw [up_at] at hdg
      rw [up_ne _ _ _ (Ne.symm hne)]
      intro q
      exact new g ((h.own e he).lt g q).2 (fun q2 => h.ap d e hd he hne g q2 q) hdg
    · rw [up_ne _ _ _ e1] at hdg
      by_cases e2 : e = c
      · subst e2
        rw [up_at]
        exact new g ((h.own d hd).lt g hdg).2 (fun q => h.ap d e hd he hne g hdg q)
      · rw [up_ne _ _ _ e2]; exact h.ap d e hd he hne g hdg
  · by_cases e : d = c
    · subst e; rw [up_at]; exact new g (h.kb g hk).1 ((h.kb g hk).2 d hd)
    · rw [up_ne _ _ _ e]; exact (h.kb g hk).2 d hd

theorem Tryz.inf76 : (Tryz.prog.info? 123).map (fun i => (i.zero, i.size, i.bytes)) = some (some (.agg #[.int .i64 0, .int .i64 0, .int .i64 0, .int .i64 0, .int .i64 0, .int .i64 0]), 6, 48) := by kernel_rfl
/-- what is known of the elements -/
theorem fam_info (c : Nat) (hc : c < 3) : ∃ i z, Tryz.prog.underlying (fsl c) = some (.slice (fty c)) ∧ Tryz.prog.info? (fty c) = some i ∧ i.zero = some z ∧ i.size = fsz c ∧ i.bytes = fby c ∧ z.cells.size = fsz c ∧ 0 < fsz c := by
  rcases (show c = 0 ∨ c = 1 ∨ c = 2 by omega) with rfl | rfl | rfl
  · obtain ⟨i0, hi, hz0, hz1, hz2⟩ := info_parts Tryz.info48
    exact ⟨i0, _, Tryz.underlying115, hi, hz0, hz1, hz2, rfl, by decide⟩
  · obtain ⟨i0, hi, hz0, hz1, hz2⟩ := info_parts Tryz.inf76
    exact ⟨i0, _, Tryz.underlying117, hi, hz0, hz1, hz2, rfl, by decide⟩
  · obtain ⟨i0, hi, hz0, hz1, hz2⟩ := info_parts Tryz.inf3
    exact ⟨i0, _, Tryz.underlying24, hi, hz0, hz1, hz2, rfl, by decide⟩
/-- ONE ELEMENT MORE, out of a block of its own -/
theorem Fam.append {B0 : Nat} {K : Nat → Prop} {cur : Nat → Value} {n : Nat → Nat} {xs : Nat → List Value} {W : World} (h : Fam B0 K cur n xs W) {c : Nat} (hc : c < 3) (hn : n c + 1 ≤ 1048576) {b : Nat} {news : List Value} {fr : Nat × Nat} {tb : Nat}
    (hb : W.heap[b]? = some (.cells news.toArray tb fr)) (hl : news.length = fsz c) (h1 : ∀ u ∈ news, u.oneCell' = true) (ty : Nat) :
    ∃ g cap w2, (Builtin.append_ #[fsl c, fsl c] ty #[cur c, .slice (some ⟨b, 0, none⟩) 1 1]).run Tryz.prog W = .ok (.slice (some ⟨g, 0, none⟩) (n c + 1) cap) w2 ∧
      Fam B0 K (up cur c (.slice (some ⟨g, 0, none⟩) (n c + 1) cap)) (up n c (n c + 1)) (up xs c (xs c ++ news)) w2 ∧ (∀ g, K g → w2.heap[g]? = W.heap[g]?) ∧ W.grownBy w2 (cur c).ownBlock := by
  obtain ⟨i, z, ht, hi, hz, hs, hby, hzs, hsz⟩ := fam_info c hc
  have hbytes : (n c + 1) * fby c ≤ 140737488355328 := by
    have : fby c ≤ 112 := by rcases (show c = 0 ∨ c = 1 ∨ c = 2 by omega) with rfl | rfl | rfl <;> decide
    exact Nat.le_trans (Nat.mul_le_mul hn this) (by decide)
  obtain ⟨v', w2, hr, h2, h3, _, h5⟩ := run_append_own_at (P := Tryz.prog) W B0 (fsl c) ty (fty c) i z (fsz c) (fby c) ht hi hz hs hby hzs hsz (cur c) (n c) (xs c) (h.own c hc) ⟨b, 0, none⟩ 1 1 news (by rw [hl, Nat.one_mul]) (fun j u hu => by
    rw [Addr.add_lit, Nat.zero_add]
    simp [World.cell?, hb]
    simpa using hu) h1 (by unfold maxLen; omega) hbytes h.sz
  obtain ⟨hl2, ⟨_, e2⟩ | ⟨g, cap, cu, e, _⟩⟩ := id h2
  · omega
  · subst e
    obtain ⟨a1, a2⟩ := h.grow hc h2 h3 h5
    exact ⟨g, cap, w2, hr, a1, a2, h3⟩


/-- a row's block is a row of cells -/
theorem Fam.cells {B0 : Nat} {K : Nat → Prop} {cur : Nat → Value} {n : Nat → Nat} {xs : Nat → List Value} {W : World} (h : Fam B0 K cur n xs W) {c : Nat} (hc : c < 3) {g : Nat} (hg : (cur c).ownBlock = some g) : ∃ o : Obj, W.heap[g]? = some o ∧ o.isCells = true := by
  obtain ⟨_, ⟨e, _⟩ | ⟨g', cap, cu, e, _, hh, _⟩⟩ := h.own c hc
  · rw [e] at hg; cases hg
  · rw [e] at hg
    have : g' = g := by simpa [Value.ownBlock] using hg
    subst this
    exact ⟨_, hh, rfl⟩
theorem Fam.ext {B0 : Nat} {K' : Nat → Prop} {cur cur' : Nat → Value} {n n' : Nat → Nat} {xs xs' : Nat → List Value} {wr : World} (h : Fam B0 K' cur n xs wr) (e : ∀ c, c < 3 → cur' c = cur c ∧ n' c = n c ∧ xs' c = xs c) : Fam B0 K' cur' n' xs' wr :=
  ⟨fun c hc => by rw [(e c hc).1, (e c hc).2.1, (e c hc).2.2]; exact h.own c hc, fun c d hc hd hne g hg => by rw [(e d hd).1]; rw [(e c hc).1] at hg; exact h.ap c d hc hd hne g hg, fun g hg => ⟨(h.kb g hg).1, fun c hc => by rw [(e c hc).1]; exact (h.kb g hg).2 c hc⟩, h.sz⟩
/-- whatever happens elsewhere -/
theorem Fam.same {B0 : Nat} {K : Nat → Prop} {cur : Nat → Value} {n : Nat → Nat} {xs : Nat → List Value} {wr w' : World} (h : Fam B0 K cur n xs wr) (b : ∀ c, c < 3 → ∀ g, (cur c).ownBlock = some g → w'.heap[g]? = wr.heap[g]?) (hs : wr.heap.size ≤ w'.heap.size) : Fam B0 K cur n xs w' :=
  ⟨fun c hc => own_same (h.own c hc) (b c hc), h.ap, fun g hg => ⟨Nat.lt_of_lt_of_le (h.kb g hg).1 hs, (h.kb g hg).2⟩, Nat.le_trans h.sz hs⟩

end Go.Proofs.YtjageagnclmnjabGreatDoor.F3
