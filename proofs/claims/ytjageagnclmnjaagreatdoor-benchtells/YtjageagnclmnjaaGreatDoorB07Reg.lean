/- PROVED: how rows of pairs and rows of rounds lie in memory, what keeps them; what lies there while Play goes on. a region that draws its order, by what holds of it behind whichever of its operations have come up. five rows of one struct that grow, each in a block of its own, and blocks that they leave alone. on plain lists: what the document's own SOf gathers behind so many steps. the document's own SOf: the region in which four rows grow by one each, in whatever order. CONDITIONS: none beyond each theorem's own. -/
import Derived.Test.YtjageagnclmnjaaGreatDoorB02DMem
import Derived.Test.YtjageagnclmnjaaGreatDoorB01Tx
import Derived.Test.YtjageagnclmnjaaGreatDoorB00KNums
import Derived.Deep.RegionHeld3
import Derived.Maps.AppendAt
import Derived.Test.YtjageagnclmnjaaGreatDoorB06St
namespace Go.Proofs.YtjageagnclmnjaaGreatDoor.D
open Go.RowKit K

/-- a row of pairs -/
def VRow (w : World) (ao : Option Addr) (ps : List (Int × Int)) : Prop :=
  ps = [] ∨ ∃ b o, ao = some ⟨b, o, none⟩ ∧ ∀ j, j < ps.length → w.cell? ⟨b, o + j * 2, none⟩ = some (.int .i64 (ps.getD j (0, 0)).1) ∧ w.cell? ⟨b, o + j * 2 + 1, none⟩ = some (.int .i64 (ps.getD j (0, 0)).2)
theorem VRow.kept {w w' : World} {ao : Option Addr} {ps : List (Int × Int)} (h : VRow w ao ps) (g : Below w.heap.size w w') : VRow w' ao ps := by
  rcases h with h | ⟨b, o, e, h⟩
  · exact .inl h
  · refine .inr ⟨b, o, e, fun j hj => ?_⟩
    obtain ⟨h1, h2⟩ := h j hj
    have hl : b < w.heap.size := block_lt h1
    exact ⟨(g.cell (p := ⟨b, o + j * 2, none⟩) hl).trans h1, (g.cell (p := ⟨b, o + j * 2 + 1, none⟩) hl).trans h2⟩
/-- no round -/
def R0 : Rx := ⟨0, 0, 0, 0, 0, 0⟩
def cellsR (x : Rx) : List Value := [.int .i64 x.s0, .int .i64 x.s1, .int .i64 x.c0, .int .i64 x.c1, .int .i64 x.l0, .int .i64 x.l1]
/-- the cells of rounds, one after another -/
def flatR : List Rx → List Value
  | [] => []
  | x :: l => cellsR x ++ flatR l
theorem flatR_append (a b : List Rx) : flatR (a ++ b) = flatR a ++ flatR b := by
  induction a with
  | nil => rfl
  | cons x l ih => simp [flatR, ih]
theorem flatR_get (l : List Rx) : ∀ j i, j < l.length → i < 6 → (flatR l)[j * 6 + i]? = (cellsR (l.getD j R0))[i]? := by
  induction l with
  | nil => intro j i h; simp at h
  | cons x l ih =>
    intro j i h hi
    cases j with
    | zero =>
      rw [flatR, Nat.zero_mul, Nat.zero_add, List.getElem?_append_left (by simpa [cellsR] using hi)]; rfl
    | succ j =>
      rw [flatR, List.getElem?_append_right (by simp [cellsR]; omega)]
      have := ih j i (by simpa using h) hi
      rw [show (j + 1) * 6 + i - (cellsR x).length = j * 6 + i by simp [cellsR]; omega]
      exact this
/-- one round in memory, at o in block b -/
structure RAt (w : World) (b o : Nat) (x : Rx) : Prop where
  c0 : w.cell? ⟨b, o, none⟩ = some (.int .i64 x.s0)
  c1 : w.cell? ⟨b, o + 1, none⟩ = some (.int .i64 x.s1)
  c2 : w.cell? ⟨b, o + 2, none⟩ = some (.int .i64 x.c0)
  c3 : w.cell? ⟨b, o + 3, none⟩ = some (.int .i64 x.c1)
  c4 : w.cell? ⟨b, o + 4, none⟩ = some (.int .i64 x.l0)
  c5 : w.cell? ⟨b, o + 5, none⟩ = some (.int .i64 x.l1)
theorem RAt.kept {w w' : World} {b o : Nat} {x : Rx} (h : RAt w b o x) (g : Below w.heap.size w w') : RAt w' b o x := by
  have hl : b < w.heap.size := block_lt h.c0
  exact ⟨(g.cell (p := ⟨b, o, none⟩) hl).trans h.c0, (g.cell (p := ⟨b, o + 1, none⟩) hl).trans h.c1, (g.cell (p := ⟨b, o + 2, none⟩) hl).trans h.c2, (g.cell (p := ⟨b, o + 3, none⟩) hl).trans h.c3, (g.cell (p := ⟨b, o + 4, none⟩) hl).trans h.c4, (g.cell (p := ⟨b, o + 5, none⟩) hl).trans h.c5⟩
end Go.Proofs.YtjageagnclmnjaaGreatDoor.D

namespace Go.Proofs.YtjageagnclmnjaaGreatDoor
open Go.RowKit
set_option linter.unusedVariables false

theorem count_less {p q : Nat → Bool} : ∀ (l : List Nat), (∀ x ∈ l, q x = true → p x = true) → ∀ y, y ∈ l → p y = true → q y = false → l.countP q < l.countP p
  | [], _, y, hy, _, _ => by cases hy
  | x :: l, h, y, hy, h1, h2 => by
    have le : l.countP q ≤ l.countP p := List.countP_mono_left fun z hz hq => h z (by simp [hz]) hq
    rcases List.mem_cons.1 hy with rfl | hy
    · rw [List.countP_cons_of_pos h1, List.countP_cons_of_neg (by simp [h2])]
      omega
    · have ih := count_less l (fun z hz hq => h z (by simp [hz]) hq) y hy h1 h2
      by_cases hq : q x = true
      · rw [List.countP_cons_of_pos hq, List.countP_cons_of_pos (h x (by simp) hq)]; omega
      · rw [List.countP_cons_of_neg hq]
        by_cases hp : p x = true
        · rw [List.countP_cons_of_pos hp]; omega
        · rw [List.countP_cons_of_neg hp]; exact ih

section
variable {P : Program} {ops : Array Oper} {Q : Exit → Act → World → Prop} {md : Region.Mode}
/-- how many have not come up yet -/
def left (ops : Array Oper) (L : Array Bool) : Nat := (List.range ops.size).countP fun i => !L.getD i true
theorem left_less {L : Array Bool} {i : Nat} (h : i ∈ Region.ready md ops L) : left ops (L.setIfInBounds i true) < left ops L := by
  obtain ⟨h0, o, ho, _⟩ := mem_ready.1 h
  have hi : i < ops.size := (Array.getElem?_eq_some_iff.1 ho).1
  refine count_less _ (fun x _ hx => ?_) i (List.mem_range.2 hi) (by simp [h0]) ?_
  · by_cases e : i = x
    · subst e; simp [h0]
    · rw [getD_set_ne true e] at hx; exact hx
  · by_cases hs : i < L.size
    · simp [hs]
    · simp [Array.getD, hs] at h0
/-- WHAT HOLDS BEHIND WHICHEVER HAVE COME UP: each of those that may come up next keeps it; where none is left it is what was to be shown -/
theorem wpAny_inv (I : Array Bool → Act → World → Prop) (hstep : ∀ L a w, I L a w → ∀ i, i ∈ Region.ready md ops L → wpOp P ops Q i (I (L.setIfInBounds i true)) a w)
    (hend : ∀ L a w, I L a w → Region.ready md ops L = [] → Q .normal a w) : ∀ (fuel : Nat) (L : Array Bool) (a : Act) (w : World), left ops L ≤ fuel → I L a w → wpAny P md ops Q fuel L a w := by
  intro fuel
  induction fuel with
  | zero =>
    intro L a w hf hI
    have hr : Region.ready md ops L = [] := by
      cases hr : Region.ready md ops L with
      | nil => rfl
      | cons i r =>
        have := left_less (md := md) (ops := ops) (L := L) (i := i) (by rw [hr]; simp)
        omega
    exact ⟨hr, hend L a w hI hr⟩
  | succ fuel ih =>
    intro L a w hf hI
    refine ⟨fun hr => hend L a w hI hr, fun i hi => wpOp_mono (fun a' w' h => ih _ a' w' ?_ h) (hstep L a w hI i hi)⟩
    have := left_less hi
    omega
theorem left_all (ops : Array Oper) : left ops (Array.replicate ops.size false) ≤ ops.size := by
  unfold left
  exact Nat.le_trans (List.countP_le_length) (by simp)
theorem wp_region_inv {id : Nat} {a : Act} {w : World} (hm : P.follows .mixedOrders = true) (I : Array Bool → Act → World → Prop) (hI : I (Array.replicate ops.size false) a w.drew)
    (hstep : ∀ L a w, I L a w → ∀ i, i ∈ Region.ready .any ops L → wpOp P ops Q i (I (L.setIfInBounds i true)) a w)
    (hend : ∀ L a w, I L a w → Region.ready .any ops L = [] → Q .normal a w) : (Code.region id ops true).wp P Q a w :=
  wp_region_any hm (wpAny_inv I hstep hend _ _ _ _ (left_all ops) hI)
end

end Go.Proofs.YtjageagnclmnjaaGreatDoor

namespace Go.Proofs.YtjageagnclmnjaaGreatDoor
open Go.RowKit
set_option linter.unusedVariables false

/-- what the rows are of: states, ints, ints, pairs, rounds: types, cells, bytes, the slices' types -/
def fty : Nat → Nat
  | 0 => 45
  | 1 => 3
  | 2 => 3
  | 3 => 31
  | _ => 86
def fsz : Nat → Nat
  | 0 => 14
  | 1 => 1
  | 2 => 1
  | 3 => 2
  | _ => 6
def fby : Nat → Nat
  | 0 => 112
  | 1 => 8
  | 2 => 8
  | 3 => 16
  | _ => 48
def fsl : Nat → Nat
  | 0 => 89
  | 1 => 66
  | 2 => 66
  | 3 => 30
  | _ => 40
def up {α : Type} (f : Nat → α) (c : Nat) (x : α) : Nat → α := fun d => if d = c then x else f d
theorem up_at {α : Type} (f : Nat → α) (c : Nat) (x : α) : up f c x c = x := if_pos rfl
theorem up_ne {α : Type} (f : Nat → α) (c : Nat) (x : α) {d : Nat} (h : d ≠ c) : up f c x d = f d := if_neg h

/-- five rows in blocks of their own, apart from one another and from the blocks of K -/
structure Fam (B0 : Nat) (K : Nat → Prop) (cur : Nat → Value) (n : Nat → Nat) (xs : Nat → List Value) (wr : World) : Prop where
  own : ∀ c, c < 5 → wr.ownsRow B0 (fty c) (fsz c) (cur c) (n c) (xs c)
  ap : ∀ c d, c < 5 → d < 5 → c ≠ d → ∀ g, (cur c).ownBlock = some g → (cur d).ownBlock ≠ some g
  kb : ∀ g, K g → g < wr.heap.size ∧ ∀ c, c < 5 → (cur c).ownBlock ≠ some g
  sz : B0 ≤ wr.heap.size
theorem own_same {w w' : World} {base e s : Nat} {t : Value} {n : Nat} {xs : List Value} (h : w.ownsRow base e s t n xs) (hb : ∀ g, t.ownBlock = some g → w'.heap[g]? = w.heap[g]?) : w'.ownsRow base e s t n xs := by
  obtain ⟨hl, h2⟩ := h
  refine ⟨hl, ?_⟩
  rcases h2 with e | ⟨g, cap, cur, e, hg, hh, r⟩
  · exact .inl e
  · exact .inr ⟨g, cap, cur, e, hg, by rw [hb g (by rw [e]; rfl)]; exact hh, r⟩
theorem Fam.kept {B0 : Nat} {K : Nat → Prop} {cur : Nat → Value} {n : Nat → Nat} {xs : Nat → List Value} {wr w' : World} (h : Fam B0 K cur n xs wr) (b : Below wr.heap.size wr w') : Fam B0 K cur n xs w' :=
  ⟨fun c hc => own_same (h.own c hc) fun g hg => b.block g ((h.own c hc).lt g hg).2, h.ap, fun g hg => ⟨Nat.lt_of_lt_of_le (h.kb g hg).1 b.size, (h.kb g hg).2⟩, Nat.le_trans h.sz b.size⟩
theorem Fam.drewN {B0 : Nat} {K : Nat → Prop} {cur : Nat → Value} {n : Nat → Nat} {xs : Nat → List Value} {wr : World} (h : Fam B0 K cur n xs wr) (q : Nat) : Fam B0 K cur n xs (wr.drewN q) := h.kept (below_drewN (Below.refl _ _) q)
theorem Fam.less {B0 : Nat} {K K' : Nat → Prop} {cur : Nat → Value} {n : Nat → Nat} {xs : Nat → List Value} {wr : World} (h : Fam B0 K cur n xs wr) (hk : ∀ g, K' g → K g) : Fam B0 K' cur n xs wr :=
  ⟨h.own, h.ap, fun g hg => h.kb g (hk g hg), h.sz⟩
/-- what is made anew is apart from them -/
theorem Fam.alloc {B0 : Nat} {K : Nat → Prop} {cur : Nat → Value} {n : Nat → Nat} {xs : Nat → List Value} {wr : World} (h : Fam B0 K cur n xs wr) (o : Obj) : Fam B0 (fun g => K g ∨ g = wr.heap.size) cur n xs (wr.alloc o) := by
  have k := h.kept (balloc (Below.refl _ _) o)
  refine ⟨k.own, k.ap, fun g hg => ?_, k.sz⟩
  rcases hg with hg | rfl
  · exact k.kb g hg
  · exact ⟨by simp, fun c hc q => by have := ((h.own c hc).lt _ q).2; omega⟩
/-- a block of K is written -/
theorem Fam.put {B0 : Nat} {K : Nat → Prop} {cur : Nat → Value} {n : Nat → Nat} {xs : Nat → List Value} {wr : World} (h : Fam B0 K cur n xs wr) {p : Addr} (hp : K p.block) (x : Value) : Fam B0 K cur n xs (wr.setCell p x) :=
  ⟨fun c hc => own_same (h.own c hc) fun g hg => Below.heap_setCell _ _ _ _ (fun e => (h.kb _ hp).2 c hc (by rw [← e]; exact hg)), h.ap, fun g hg => by have := h.kb g hg; simpa using this, by simpa using h.sz⟩
/-- one row has grown -/
theorem Fam.grow {B0 : Nat} {K : Nat → Prop} {cur : Nat → Value} {n : Nat → Nat} {xs : Nat → List Value} {W w2 : World} (h : Fam B0 K cur n xs W) {c : Nat} (hc : c < 5) {t' : Value} {m : Nat} {zs : List Value}
    (ho : w2.ownsRow B0 (fty c) (fsz c) t' m zs) (hg : W.grownBy w2 (cur c).ownBlock) (hat : t'.ownBlock = (cur c).ownBlock ∨ t'.ownBlock = some W.heap.size) :
    Fam B0 K (up cur c t') (up n c m) (up xs c zs) w2 ∧ ∀ g, K g → w2.heap[g]? = W.heap[g]? := by
  have blk : ∀ g, g < W.heap.size → (cur c).ownBlock ≠ some g → w2.heap[g]? = W.heap[g]? := fun g h1 h2 => hg.block g h1 (fun q => h2 q.symm)
  have hsz := hg.size
  have new : ∀ g, g < W.heap.size → (cur c).ownBlock ≠ some g → t'.ownBlock ≠ some g := fun g h1 h2 q => by
    rcases hat with e | e
    · exact h2 (by rw [← e]; exact q)
    · rw [e] at q; injection q with q; omega
  refine ⟨⟨fun d hd => ?_, fun d e hd he hne g hdg => ?_, fun g hk => ⟨by have := (h.kb g hk).1; omega, fun d hd => ?_⟩, by have := h.sz; omega⟩, fun g hk => blk g (h.kb g hk).1 ((h.kb g hk).2 c hc)⟩
  · by_cases e : d = c
    · subst e; rw [up_at, up_at, up_at]; exact ho
    · rw [up_ne _ _ _ e, up_ne _ _ _ e, up_ne _ _ _ e]
      exact own_same (h.own d hd) fun g hq => blk g ((h.own d hd).lt g hq).2 (fun q => h.ap d c hd hc e g hq q)
  · by_cases e1 : d = c
    · subst e1
      rw [up_at] at hdg
      rw [up_ne _ _ _ (Ne.symm hne)]
      intro q
      exact new g ((h.own e he).lt g q).2 (fun q2 => h.ap d e hd he hne g q2 q) hdg
    · rw [up_ne _ _ _ e1] at hdg
      by_cases e2 : e = c
      · subst e2
        rw [up_at]
        exact new g ((h.own d hd).lt g hdg).2 (fun q => h.ap d e hd he hne g hdg q)
      · rw [up_ne _ _ _ e2]; exact h.ap d e hd he hne g hdg
  · by_cases e : d = c
    · subst e; rw [up_at]; exact new g (h.kb g hk).1 ((h.kb g hk).2 d hd)
    · rw [up_ne _ _ _ e]; exact (h.kb g hk).2 d hd

theorem Tryz.info48 : (Tryz.prog.info? 45).map (fun i => (i.zero, i.size, i.bytes)) = some (some (.agg #[.int .i64 0, .int .i64 0, .int .i64 0, .int .i64 0, .int .i64 0, .int .i64 0, .int .i64 0, .int .i64 0, .int .i64 0, .int .i64 0, .int .i64 0, .int .i64 0, .int .i64 0, .int .i64 0]), 14, 112) := by kernel_rfl
theorem Tryz.inf3 : (Tryz.prog.info? 3).map (fun i => (i.zero, i.size, i.bytes)) = some (some (.int .i64 0), 1, 8) := by kernel_rfl
theorem Tryz.inf22 : (Tryz.prog.info? 31).map (fun i => (i.zero, i.size, i.bytes)) = some (some (.agg #[.int .i64 0, .int .i64 0]), 2, 16) := by kernel_rfl
theorem Tryz.inf62 : (Tryz.prog.info? 86).map (fun i => (i.zero, i.size, i.bytes)) = some (some (.agg #[.int .i64 0, .int .i64 0, .int .i64 0, .int .i64 0, .int .i64 0, .int .i64 0]), 6, 48) := by kernel_rfl
/-- what is known of the elements -/
theorem fam_info (c : Nat) (hc : c < 5) : ∃ i z, Tryz.prog.underlying (fsl c) = some (.slice (fty c)) ∧ Tryz.prog.info? (fty c) = some i ∧ i.zero = some z ∧ i.size = fsz c ∧ i.bytes = fby c ∧ z.cells.size = fsz c ∧ 0 < fsz c := by
  rcases (show c = 0 ∨ c = 1 ∨ c = 2 ∨ c = 3 ∨ c = 4 by omega) with rfl | rfl | rfl | rfl | rfl
  · obtain ⟨i0, hi, hz0, hz1, hz2⟩ := info_parts Tryz.info48
    exact ⟨i0, _, Tryz.underlying89, hi, hz0, hz1, hz2, rfl, by decide⟩
  · obtain ⟨i0, hi, hz0, hz1, hz2⟩ := info_parts Tryz.inf3
    exact ⟨i0, _, Tryz.underlying66, hi, hz0, hz1, hz2, rfl, by decide⟩
  · obtain ⟨i0, hi, hz0, hz1, hz2⟩ := info_parts Tryz.inf3
    exact ⟨i0, _, Tryz.underlying66, hi, hz0, hz1, hz2, rfl, by decide⟩
  · obtain ⟨i0, hi, hz0, hz1, hz2⟩ := info_parts Tryz.inf22
    exact ⟨i0, _, Tryz.underlying30, hi, hz0, hz1, hz2, rfl, by decide⟩
  · obtain ⟨i0, hi, hz0, hz1, hz2⟩ := info_parts Tryz.inf62
    exact ⟨i0, _, Tryz.underlying40, hi, hz0, hz1, hz2, rfl, by decide⟩
/-- ONE ELEMENT MORE, out of a block of its own -/
theorem Fam.append {B0 : Nat} {K : Nat → Prop} {cur : Nat → Value} {n : Nat → Nat} {xs : Nat → List Value} {W : World} (h : Fam B0 K cur n xs W) {c : Nat} (hc : c < 5) (hn : n c + 1 ≤ 1048576) {b : Nat} {news : List Value} {fr : Nat × Nat} {tb : Nat}
    (hb : W.heap[b]? = some (.cells news.toArray tb fr)) (hl : news.length = fsz c) (h1 : ∀ u ∈ news, u.oneCell' = true) (ty : Nat) :
    ∃ g cap w2, (Builtin.append_ #[fsl c, fsl c] ty #[cur c, .slice (some ⟨b, 0, none⟩) 1 1]).run Tryz.prog W = .ok (.slice (some ⟨g, 0, none⟩) (n c + 1) cap) w2 ∧
      Fam B0 K (up cur c (.slice (some ⟨g, 0, none⟩) (n c + 1) cap)) (up n c (n c + 1)) (up xs c (xs c ++ news)) w2 ∧ (∀ g, K g → w2.heap[g]? = W.heap[g]?) ∧ W.grownBy w2 (cur c).ownBlock := by
  obtain ⟨i, z, ht, hi, hz, hs, hby, hzs, hsz⟩ := fam_info c hc
  have hbytes : (n c + 1) * fby c ≤ 140737488355328 := by
    have : fby c ≤ 112 := by rcases (show c = 0 ∨ c = 1 ∨ c = 2 ∨ c = 3 ∨ c = 4 by omega) with rfl | rfl | rfl | rfl | rfl <;> decide
    exact Nat.le_trans (Nat.mul_le_mul hn this) (by decide)
  obtain ⟨v', w2, hr, h2, h3, _, h5⟩ := run_append_own_at (P := Tryz.prog) W B0 (fsl c) ty (fty c) i z (fsz c) (fby c) ht hi hz hs hby hzs hsz (cur c) (n c) (xs c) (h.own c hc) ⟨b, 0, none⟩ 1 1 news (by rw [hl, Nat.one_mul]) (fun j u hu => by
    rw [Addr.add_lit, Nat.zero_add]
    simp [World.cell?, hb]
    simpa using hu) h1 (by unfold maxLen; omega) hbytes h.sz
  obtain ⟨hl2, ⟨_, e2⟩ | ⟨g, cap, cu, e, _⟩⟩ := id h2
  · omega
  · subst e
    obtain ⟨a1, a2⟩ := h.grow hc h2 h3 h5
    exact ⟨g, cap, w2, hr, a1, a2, h3⟩

end Go.Proofs.YtjageagnclmnjaaGreatDoor

namespace Go.Proofs.YtjageagnclmnjaaGreatDoor
theorem ex_stay {α : Type} [DecidableEq α] {step : α → Nat → α} {E : Nat} {s0 : α} {t : Nat} (h : (ex step E s0 t).1[t / E]? = none) : ex step E s0 (t + 1) = ex step E s0 t := by
  rw [ex, h]
theorem ex_go {α : Type} [DecidableEq α] {step : α → Nat → α} {E : Nat} {s0 : α} {t : Nat} {x : α} (h : (ex step E s0 t).1[t / E]? = some x) : ex step E s0 (t + 1) = (nx (ex step E s0 t).1 (step x (t % E)), (ex step E s0 t).2 ++ [ix (ex step E s0 t).1 (step x (t % E))]) := by
  rw [ex, h]
end Go.Proofs.YtjageagnclmnjaaGreatDoor
namespace Go.Proofs.YtjageagnclmnjaaGreatDoor.D
open Go.RowKit K
set_option linter.unusedVariables false

/-- how many may be late, and one; how many steps a state has -/
def jj (r : Ru) : Nat := r.j.toNat + 1
def ee (r : Ru) : Nat := jj r * jj r
theorem jj_pos (r : Ru) : 1 ≤ jj r := by unfold jj; omega
theorem ee_pos (r : Ru) : 0 < ee r := Nat.mul_pos (jj_pos r) (jj_pos r)
theorem jj_cast {r : Ru} (h : ranges r) : (jj r : Int) = r.j + 1 ∧ jj r ≤ 4 ∧ ee r ≤ 16 := by
  have h2 := h.2.2
  have : jj r ≤ 4 := by unfold jj; omega
  refine ⟨by unfold jj; omega, this, ?_⟩
  unfold ee
  exact Nat.le_trans (Nat.mul_le_mul this this) (by decide)
/-- the step number n of a state -/
def sp (r : Ru) (s : Sx) (n : Nat) : Sx := K.step r s ((n / jj r : Nat) : Int) ((n % jj r : Nat) : Int)
def xp (r : Ru) (t : Nat) : List Sx × List Nat := ex (sp r) (ee r) (K.start r) t
theorem sp_lates {r : Ru} (h : ranges r) {n : Nat} (hn : n < ee r) : lates r ((n / jj r : Nat) : Int) ((n % jj r : Nat) : Int) := by
  obtain ⟨e, _, _⟩ := jj_cast h
  have h1 : n / jj r < jj r := Nat.div_lt_of_lt_mul hn
  have h2 : n % jj r < jj r := Nat.mod_lt _ (jj_pos r)
  unfold lates
  generalize n / jj r = q at *
  generalize n % jj r = p at *
  omega
/-- every state is right -/
theorem xp_right {r : Ru} (h : kinds r ∧ ranges r) : ∀ t, ∀ s ∈ (xp r t).1, pright r s := by
  intro t
  induction t with
  | zero =>
    intro s hs
    have : s = K.start r := by simpa [xp, ex] using hs
    rw [this]; exact start_right h
  | succ t ih =>
    intro s hs
    cases hx : (xp r t).1[t / ee r]? with
    | none =>
      have e : xp r (t + 1) = xp r t := ex_stay hx
      rw [e] at hs; exact ih s hs
    | some x =>
      have e := ex_go (step := sp r) (E := ee r) (s0 := K.start r) hx
      have hs2 : s ∈ YtjageagnclmnjaaGreatDoor.nx (xp r t).1 (sp r x (t % ee r)) := by
        have : xp r (t + 1) = _ := e
        rw [this] at hs; exact hs
      unfold YtjageagnclmnjaaGreatDoor.nx at hs2
      split at hs2
      · exact ih s hs2
      · rcases List.mem_append.1 hs2 with q | q
        · exact ih s q
        · have : s = sp r x (t % ee r) := by simpa using q
          rw [this]
          exact step_right (ih x (List.mem_of_getElem? hx)) (sp_lates h.2 (Nat.mod_lt _ (ee_pos r)))

/-- a state's cells -/
def cS (s : Sx) : List Value := [.int .i64 s.f0.k, .int .i64 s.f0.n, .int .i64 s.f0.b, .int .i64 s.f0.a, .int .i64 s.f0.s, .int .i64 s.f0.q, .int .i64 s.f1.k, .int .i64 s.f1.n, .int .i64 s.f1.b, .int .i64 s.f1.a, .int .i64 s.f1.s, .int .i64 s.f1.q, .int .i64 s.w0, .int .i64 s.w1]
def flS : List Sx → List Value
  | [] => []
  | s :: l => cS s ++ flS l
theorem flS_len (l : List Sx) : (flS l).length = l.length * 14 := by
  induction l with
  | nil => rfl
  | cons s l ih => simp only [flS, cS, List.length_append, List.length_cons, List.length_nil, ih]; omega
theorem flS_append (a b : List Sx) : flS (a ++ b) = flS a ++ flS b := by
  induction a with
  | nil => rfl
  | cons s l ih => simp [flS, ih]
theorem flS_get (l : List Sx) : ∀ (j i : Nat) (s : Sx), l[j]? = some s → i < 14 → (flS l)[j * 14 + i]? = (cS s)[i]? := by
  induction l with
  | nil => intro j i s h; simp at h
  | cons x l ih =>
    intro j i s h hi
    cases j with
    | zero =>
      have e : x = s := by simpa using h
      subst e
      rw [flS, Nat.zero_mul, Nat.zero_add, List.getElem?_append_left (by simpa [cS] using hi)]
    | succ j =>
      rw [flS, List.getElem?_append_right (by simp [cS]; omega), show (j + 1) * 14 + i - (cS x).length = j * 14 + i by simp [cS]; omega]
      exact ih j i s (by simpa using h) hi
/-- the rounds -/
def rdL (r : Ru) : Nat → List Rx
  | 0 => []
  | t + 1 => rdL r t ++ [K.round r ((xp r t).1.getD (t / ee r) (K.start r))]
/-- the five rows behind t steps -/
def fx (r : Ru) (t : Nat) : Nat → List Value
  | 0 => flS (xp r t).1
  | 1 => (List.range t).map fun i => .int .i64 ((i / ee r : Nat) : Int)
  | 2 => (xp r t).2.map fun i => .int .i64 ((i : Nat) : Int)
  | 3 => (List.range t).flatMap fun i => [.int .i64 ((i % ee r / jj r : Nat) : Int), .int .i64 ((i % ee r % jj r : Nat) : Int)]
  | _ => flatR (rdL r t)
def fn (r : Ru) (t : Nat) : Nat → Nat
  | 0 => (xp r t).1.length
  | _ => t
theorem fx_zero (r : Ru) : fx r 0 0 = cS (K.start r) ∧ fx r 0 1 = [] ∧ fx r 0 2 = [] ∧ fx r 0 3 = [] ∧ fx r 0 4 = [] := ⟨by simp [fx, xp, ex, flS], rfl, rfl, rfl, rfl⟩
/-- one step more -/
theorem fx_succ {r : Ru} {t : Nat} {x : Sx} (hx : (xp r t).1[t / ee r]? = some x) :
    (xp r (t + 1)).1 = YtjageagnclmnjaaGreatDoor.nx (xp r t).1 (sp r x (t % ee r)) ∧
    fx r (t + 1) 1 = fx r t 1 ++ [.int .i64 ((t / ee r : Nat) : Int)] ∧
    fx r (t + 1) 2 = fx r t 2 ++ [.int .i64 ((ix (xp r t).1 (sp r x (t % ee r)) : Nat) : Int)] ∧
    fx r (t + 1) 3 = fx r t 3 ++ [.int .i64 ((t % ee r / jj r : Nat) : Int), .int .i64 ((t % ee r % jj r : Nat) : Int)] ∧
    fx r (t + 1) 4 = fx r t 4 ++ cellsR (K.round r x) := by
  have e : xp r (t + 1) = (YtjageagnclmnjaaGreatDoor.nx (xp r t).1 (sp r x (t % ee r)), (xp r t).2 ++ [ix (xp r t).1 (sp r x (t % ee r))]) := ex_go hx
  refine ⟨by rw [e], ?_, ?_, ?_, ?_⟩
  · simp [fx, List.range_succ]
  · show (xp r (t + 1)).2.map _ = _
    rw [e]; simp [fx]
  · simp [fx, List.range_succ]
  · show flatR (rdL r t ++ [_]) = _
    rw [flatR_append, List.getD_eq_getElem?_getD, hx]
    simp [flatR, fx]

end Go.Proofs.YtjageagnclmnjaaGreatDoor.D

namespace Go.Proofs.YtjageagnclmnjaaGreatDoor
open Go.RowKit
set_option linter.unusedVariables false

section
variable {P : Program} {ops : Array Oper} {Q : Exit → Act → World → Prop}
theorem wpOp_value {i : Nat} {o : Oper} {K : Act → World → Prop} {a : Act} {w w' : World} {v : Value} (ho : ops[i]? = some o) (hg : o.guard = none) (hr : (execOp a.eval o).run P w = .ok (.value v) w') (h : K (a.put o.dst v) w') : wpOp P ops Q i K a w := by
  unfold wpOp
  have hw : Region.wanted o (yielded ops a.tmps) = true := by simp [Region.wanted, hg]
  simp only [ho, hw, if_true, Oper.wp, hr, Oper.upon]
  exact .inl h
theorem wpOp_skip {i : Nat} {o : Oper} {K : Act → World → Prop} {a : Act} {w w' : World} (ho : ops[i]? = some o) (hg : o.guard = none) (hr : (execOp a.eval o).run P w = .ok .skip w') (h : K (a.put o.dst undef) w') : wpOp P ops Q i K a w := by
  unfold wpOp
  have hw : Region.wanted o (yielded ops a.tmps) = true := by simp [Region.wanted, hg]
  simp only [ho, hw, if_true, Oper.wp, hr, Oper.upon]
  exact .inl h
end

section
variable {ev : Operand → Value} {w : World}
theorem ex_fa {o : Oper} {C c t : Nat} (ho : o.op = .fieldAddr 102 (.tmp t) c) (hc : c = 1 ∨ c = 2 ∨ c = 3 ∨ c = 4) (h : ev (.tmp t) = .pointer (some ⟨C, 0, none⟩)) : (execOp ev o).run Tryz.prog w = .ok (.value (.pointer (some ⟨C, c, none⟩))) w := by
  rcases hc with rfl | rfl | rfl | rfl <;> simp [execOp, ho, h, go_sem]
theorem ex_mv {o : Oper} {s : Nat} {x : Value} (ho : o.op = .move (.tmp s)) (h : ev (.tmp s) = x) : (execOp ev o).run Tryz.prog w = .ok (.value x) w := by
  simp [execOp, ho, h, go_sem]
theorem ex_ld {o : Oper} {C c s T : Nat} {x : Value} (ho : o.op = .load T (.tmp s)) (hT : T = 66 ∨ T = 30 ∨ T = 40) (h : ev (.tmp s) = .pointer (some ⟨C, c, none⟩)) (hx : w.cell? ⟨C, c, none⟩ = some x) : (execOp ev o).run Tryz.prog w = .ok (.value x) w := by
  rcases hT with rfl | rfl | rfl <;> simp [execOp, ho, h, go_sem, hx]
theorem ex_pair {o : Oper} {X s : Nat} {x y : Value} (ho : o.op = .load 31 (.tmp s)) (h : ev (.tmp s) = .pointer (some ⟨X, 0, none⟩)) (h0 : w.cell? ⟨X, 0, none⟩ = some x) (h1 : w.cell? ⟨X, 1, none⟩ = some y) : (execOp ev o).run Tryz.prog w = .ok (.value (.agg #[x, y])) w := by
  simp [execOp, ho, h, go_sem, h0, h1]
theorem ex_six {o : Oper} {X s : Nat} {x0 x1 x2 x3 x4 x5 : Value} (ho : o.op = .load 86 (.tmp s)) (h : ev (.tmp s) = .pointer (some ⟨X, 0, none⟩)) (h0 : w.cell? ⟨X, 0, none⟩ = some x0) (h1 : w.cell? ⟨X, 1, none⟩ = some x1) (h2 : w.cell? ⟨X, 2, none⟩ = some x2) (h3 : w.cell? ⟨X, 3, none⟩ = some x3) (h4 : w.cell? ⟨X, 4, none⟩ = some x4) (h5 : w.cell? ⟨X, 5, none⟩ = some x5) : (execOp ev o).run Tryz.prog w = .ok (.value (.agg #[x0, x1, x2, x3, x4, x5])) w := by
  simp [execOp, ho, h, go_sem, h0, h1, h2, h3, h4, h5]
theorem ex_one {o : Oper} {s : Nat} {k : Int} (ho : o.op = .buildSlice 66 1 #[(0, .tmp s)]) (h : ev (.tmp s) = .int .i64 k) : (execOp ev o).run Tryz.prog w = .ok (.value (.slice (some ⟨w.heap.size, 0, none⟩) 1 1)) (w.alloc (.cells #[.int .i64 k] 3)) := by
  simp [execOp, ho, h, go_sem]
theorem ex_two {o : Oper} {s : Nat} {x y : Int} (ho : o.op = .buildSlice 30 1 #[(0, .tmp s)]) (h : ev (.tmp s) = .agg #[.int .i64 x, .int .i64 y]) : (execOp ev o).run Tryz.prog w = .ok (.value (.slice (some ⟨w.heap.size, 0, none⟩) 1 1)) (w.alloc (.cells #[.int .i64 x, .int .i64 y] 31)) := by
  simp [execOp, ho, h, go_sem]
theorem ex_rnd {o : Oper} {s : Nat} {x0 x1 x2 x3 x4 x5 : Int} (ho : o.op = .buildSlice 40 1 #[(0, .tmp s)]) (h : ev (.tmp s) = .agg #[.int .i64 x0, .int .i64 x1, .int .i64 x2, .int .i64 x3, .int .i64 x4, .int .i64 x5]) : (execOp ev o).run Tryz.prog w = .ok (.value (.slice (some ⟨w.heap.size, 0, none⟩) 1 1)) (w.alloc (.cells #[.int .i64 x0, .int .i64 x1, .int .i64 x2, .int .i64 x3, .int .i64 x4, .int .i64 x5] 86)) := by
  simp [execOp, ho, h, go_sem]
theorem ex_app {o : Oper} {s x t : Nat} {v u v' : Value} {w' : World} (ho : o.op = .call { callee := .builtin .append, args := #[.tmp s, .tmp x], argTypes := #[t, t] }) (hs : ev (.tmp s) = v) (hx : ev (.tmp x) = u) (hr : (Builtin.append_ #[t, t] o.type #[v, u]).run Tryz.prog w = .ok v' w') : (execOp ev o).run Tryz.prog w = .ok (.value v') w' := by
  unfold execOp
  simp only [ho, resolve, invoke, builtin, Sem.run_bind, Sem.run_pure, Result.andThen_ok, List.map_toArray, List.map_cons, List.map_nil, hs, hx, hr]
theorem ex_st {o : Oper} {C c s x T : Nat} {ao : Option Addr} {l cp : Nat} {u : Value} (ho : o.op = .store T (.tmp s) (.tmp x)) (hT : T = 66 ∨ T = 30 ∨ T = 40) (h : ev (.tmp s) = .pointer (some ⟨C, c, none⟩)) (hx : ev (.tmp x) = .slice ao l cp) (hc : w.cell? ⟨C, c, none⟩ = some u) (hf : w.frozen? ⟨C, c, none⟩ = false) : (execOp ev o).run Tryz.prog w = .ok .skip (w.setCell ⟨C, c, none⟩ (.slice ao l cp)) := by
  rcases hT with rfl | rfl | rfl <;> simp [execOp, ho, h, go_sem, hx, hc, hf]
end

end Go.Proofs.YtjageagnclmnjaaGreatDoor
