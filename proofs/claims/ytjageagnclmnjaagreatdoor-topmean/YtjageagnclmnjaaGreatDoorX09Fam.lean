/- PROVED: a region that draws its order, by what holds of it behind whichever of its operations have come up. five rows of one struct that grow, each in a block of its own, and blocks that they leave alone. CONDITIONS: none beyond each theorem's own. -/
import Derived.Test.YtjageagnclmnjaaGreatDoorX00KNums
import Derived.Deep.RegionHeld3
import Derived.Maps.AppendAt
namespace Go.Proofs.YtjageagnclmnjaaGreatDoor
open Go.RowKit
set_option linter.unusedVariables false

theorem count_less {p q : Nat → Bool} : ∀ (l : List Nat), (∀ x ∈ l, q x = true → p x = true) → ∀ y, y ∈ l → p y = true → q y = false → l.countP q < l.countP p
  | [], _, y, hy, _, _ => by cases hy
  | x :: l, h, y, hy, h1, h2 => by
    have le : l.countP q ≤ l.countP p := List.countP_mono_left fun z hz hq => h z (by simp [hz]) hq
    rcases List.mem_cons.1 hy with rfl | hy
    · rw [List.countP_cons_of_pos h1, List.countP_cons_of_neg (by simp [h2])]
      omega
    · have ih := count_less l (fun z hz hq => h z (by simp [hz]) hq) y hy h1 h2
      by_cases hq : q x = true
      · rw [List.countP_cons_of_pos hq, List.countP_cons_of_pos (h x (by simp) hq)]; omega
      · rw [List.countP_cons_of_neg hq]
        by_cases hp : p x = true
        · rw [List.countP_cons_of_pos hp]; omega
        · rw [List.countP_cons_of_neg hp]; exact ih

section
variable {P : Program} {ops : Array Oper} {Q : Exit → Act → World → Prop} {md : Region.Mode}
/-- how many have not come up yet -/
def left (ops : Array Oper) (L : Array Bool) : Nat := (List.range ops.size).countP fun i => !L.getD i true
theorem left_less {L : Array Bool} {i : Nat} (h : i ∈ Region.ready md ops L) : left ops (L.setIfInBounds i true) < left ops L := by
  obtain ⟨h0, o, ho, _⟩ := mem_ready.1 h
  have hi : i < ops.size := (Array.getElem?_eq_some_iff.1 ho).1
  refine count_less _ (fun x _ hx => ?_) i (List.mem_range.2 hi) (by simp [h0]) ?_
  · by_cases e : i = x
    · subst e; simp [h0]
    · rw [getD_set_ne true e] at hx; exact hx
  · by_cases hs : i < L.size
    · simp [hs]
    · simp [Array.getD, hs] at h0
/-- WHAT HOLDS BEHIND WHICHEVER HAVE COME UP: each of those that may come up next keeps it; where none is left it is what was to be shown -/
theorem wpAny_inv (I : Array Bool → Act → World → Prop) (hstep : ∀ L a w, I L a w → ∀ i, i ∈ Region.ready md ops L → wpOp P ops Q i (I (L.setIfInBounds i true)) a w)
    (hend : ∀ L a w, I L a w → Region.ready md ops L = [] → Q .normal a w) : ∀ (fuel : Nat) (L : Array Bool) (a : Act) (w : World), left ops L ≤ fuel → I L a w → wpAny P md ops Q fuel L a w := by
  intro fuel
  induction fuel with
  | zero =>
    intro L a w hf hI
    have hr : Region.ready md ops L = [] := by
      cases hr : Region.ready md ops L with
      | nil => rfl
      | cons i r =>
        have := left_less (md := md) (ops := ops) (L := L) (i := i) (by rw [hr]; simp)
        omega
    exact ⟨hr, hend L a w hI hr⟩
  | succ fuel ih =>
    intro L a w hf hI
    refine ⟨fun hr => hend L a w hI hr, fun i hi => wpOp_mono (fun a' w' h => ih _ a' w' ?_ h) (hstep L a w hI i hi)⟩
    have := left_less hi
    omega
theorem left_all (ops : Array Oper) : left ops (Array.replicate ops.size false) ≤ ops.size := by
  unfold left
  exact Nat.le_trans (List.countP_le_length) (by simp)
theorem wp_region_inv {id : Nat} {a : Act} {w : World} (hm : P.follows .mixedOrders = true) (I : Array Bool → Act → World → Prop) (hI : I (Array.replicate ops.size false) a w.drew)
    (hstep : ∀ L a w, I L a w → ∀ i, i ∈ Region.ready .any ops L → wpOp P ops Q i (I (L.setIfInBounds i true)) a w)
    (hend : ∀ L a w, I L a w → Region.ready .any ops L = [] → Q .normal a w) : (Code.region id ops true).wp P Q a w :=
  wp_region_any hm (wpAny_inv I hstep hend _ _ _ _ (left_all ops) hI)
end

end Go.Proofs.YtjageagnclmnjaaGreatDoor

namespace Go.Proofs.YtjageagnclmnjaaGreatDoor
open Go.RowKit
set_option linter.unusedVariables false

/-- what the rows are of: states, ints, ints, pairs, rounds: types, cells, bytes, the slices' types -/
def fty : Nat → Nat
  | 0 => 45
  | 1 => 3
  | 2 => 3
  | 3 => 31
  | _ => 86
def fsz : Nat → Nat
  | 0 => 14
  | 1 => 1
  | 2 => 1
  | 3 => 2
  | _ => 6
def fby : Nat → Nat
  | 0 => 112
  | 1 => 8
  | 2 => 8
  | 3 => 16
  | _ => 48
def fsl : Nat → Nat
  | 0 => 89
  | 1 => 66
  | 2 => 66
  | 3 => 30
  | _ => 40
def up {α : Type} (f : Nat → α) (c : Nat) (x : α) : Nat → α := fun d => if d = c then x else f d
theorem up_at {α : Type} (f : Nat → α) (c : Nat) (x : α) : up f c x c = x := if_pos rfl
theorem up_ne {α : Type} (f : Nat → α) (c : Nat) (x : α) {d : Nat} (h : d ≠ c) : up f c x d = f d := if_neg h

/-- five rows in blocks of their own, apart from one another and from the blocks of K -/
structure Fam (B0 : Nat) (K : Nat → Prop) (cur : Nat → Value) (n : Nat → Nat) (xs : Nat → List Value) (wr : World) : Prop where
  own : ∀ c, c < 5 → wr.ownsRow B0 (fty c) (fsz c) (cur c) (n c) (xs c)
  ap : ∀ c d, c < 5 → d < 5 → c ≠ d → ∀ g, (cur c).ownBlock = some g → (cur d).ownBlock ≠ some g
  kb : ∀ g, K g → g < wr.heap.size ∧ ∀ c, c < 5 → (cur c).ownBlock ≠ some g
  sz : B0 ≤ wr.heap.size
theorem own_same {w w' : World} {base e s : Nat} {t : Value} {n : Nat} {xs : List Value} (h : w.ownsRow base e s t n xs) (hb : ∀ g, t.ownBlock = some g → w'.heap[g]? = w.heap[g]?) : w'.ownsRow base e s t n xs := by
  obtain ⟨hl, h2⟩ := h
  refine ⟨hl, ?_⟩
  rcases h2 with e | ⟨g, cap, cur, e, hg, hh, r⟩
  · exact .inl e
  · exact .inr ⟨g, cap, cur, e, hg, by rw [hb g (by rw [e]; rfl)]; exact hh, r⟩
theorem Fam.kept {B0 : Nat} {K : Nat → Prop} {cur : Nat → Value} {n : Nat → Nat} {xs : Nat → List Value} {wr w' : World} (h : Fam B0 K cur n xs wr) (b : Below wr.heap.size wr w') : Fam B0 K cur n xs w' :=
  ⟨fun c hc => own_same (h.own c hc) fun g hg => b.block g ((h.own c hc).lt g hg).2, h.ap, fun g hg => ⟨Nat.lt_of_lt_of_le (h.kb g hg).1 b.size, (h.kb g hg).2⟩, Nat.le_trans h.sz b.size⟩
theorem Fam.less {B0 : Nat} {K K' : Nat → Prop} {cur : Nat → Value} {n : Nat → Nat} {xs : Nat → List Value} {wr : World} (h : Fam B0 K cur n xs wr) (hk : ∀ g, K' g → K g) : Fam B0 K' cur n xs wr :=
  ⟨h.own, h.ap, fun g hg => h.kb g (hk g hg), h.sz⟩
/-- what is made anew is apart from them -/
theorem Fam.alloc {B0 : Nat} {K : Nat → Prop} {cur : Nat → Value} {n : Nat → Nat} {xs : Nat → List Value} {wr : World} (h : Fam B0 K cur n xs wr) (o : Obj) : Fam B0 (fun g => K g ∨ g = wr.heap.size) cur n xs (wr.alloc o) := by
  have k := h.kept (balloc (Below.refl _ _) o)
  refine ⟨k.own, k.ap, fun g hg => ?_, k.sz⟩
  rcases hg with hg | rfl
  · exact k.kb g hg
  · exact ⟨by simp, fun c hc q => by have := ((h.own c hc).lt _ q).2; omega⟩
/-- a block of K is written -/
theorem Fam.put {B0 : Nat} {K : Nat → Prop} {cur : Nat → Value} {n : Nat → Nat} {xs : Nat → List Value} {wr : World} (h : Fam B0 K cur n xs wr) {p : Addr} (hp : K p.block) (x : Value) : Fam B0 K cur n xs (wr.setCell p x) :=
  ⟨fun c hc => own_same (h.own c hc) fun g hg => Below.heap_setCell _ _ _ _ (fun e => (h.kb _ hp).2 c hc (by rw [← e]; exact hg)), h.ap, fun g hg => by have := h.kb g hg; simpa using this, by simpa using h.sz⟩
/-- one row has grown -/
theorem Fam.grow {B0 : Nat} {K : Nat → Prop} {cur : Nat → Value} {n : Nat → Nat} {xs : Nat → List Value} {W w2 : World} (h : Fam B0 K cur n xs W) {c : Nat} (hc : c < 5) {t' : Value} {m : Nat} {zs : List Value}
    (ho : w2.ownsRow B0 (fty c) (fsz c) t' m zs) (hg : W.grownBy w2 (cur c).ownBlock) (hat : t'.ownBlock = (cur c).ownBlock ∨ t'.ownBlock = some W.heap.size) :
    Fam B0 K (up cur c t') (up n c m) (up xs c zs) w2 ∧ ∀ g, K g → w2.heap[g]? = W.heap[g]? := by
  have blk : ∀ g, g < W.heap.size → (cur c).ownBlock ≠ some g → w2.heap[g]? = W.heap[g]? := fun g h1 h2 => hg.block g h1 (fun q => h2 q.symm)
  have hsz := hg.size
  have new : ∀ g, g < W.heap.size → (cur c).ownBlock ≠ some g → t'.ownBlock ≠ some g := fun g h1 h2 q => by
    rcases hat with e | e
    · exact h2 (by rw [← e]; exact q)
    · rw [e] at q; injection q with q; omega
  refine ⟨⟨fun d hd => ?_, fun d e hd he hne g hdg => ?_, fun g hk => ⟨by have := (h.kb g hk).1; omega, fun d hd => ?_⟩, by have := h.sz; omega⟩, fun g hk => blk g (h.kb g hk).1 ((h.kb g hk).2 c hc)⟩
  · by_cases e : d = c
    · subst e; rw [up_at, up_at, up_at]; exact ho
    · rw [up_ne _ _ _ e, up_ne _ _ _ e, up_ne _ _ _ e]
      exact own_same (h.own d hd) fun g hq => blk g ((h.own d hd).lt g hq).2 (fun q => h.ap d c hd hc e g hq q)
  · by_cases e1 : d = c
    · subst e1
      rw [up_at] at hdg
      rw [up_ne _ _ _ (Ne.symm hne)]
      intro q
      exact new g ((h.own e he).lt g q).2 (fun q2 => h.ap d e hd he hne g q2 q) hdg
    · rw [up_ne _ _ _ e1] at hdg
      by_cases e2 : e = c
      · subst e2
        rw [up_at]
        exact new g ((h.own d hd).lt g hdg).2 (fun q => h.ap d e hd he hne g hdg q)
      · rw [up_ne _ _ _ e2]; exact h.ap d e hd he hne g hdg
  · by_cases e : d = c
    · subst e; rw [up_at]; exact new g (h.kb g hk).1 ((h.kb g hk).2 d hd)
    · rw [up_ne _ _ _ e]; exact (h.kb g hk).2 d hd

theorem Tryz.info48 : (Tryz.prog.info? 45).map (fun i => (i.zero, i.size, i.bytes)) = some (some (.agg #[.int .i64 0, .int .i64 0, .int .i64 0, .int .i64 0, .int .i64 0, .int .i64 0, .int .i64 0, .int .i64 0, .int .i64 0, .int .i64 0, .int .i64 0, .int .i64 0, .int .i64 0, .int .i64 0]), 14, 112) := by kernel_rfl
theorem Tryz.inf3 : (Tryz.prog.info? 3).map (fun i => (i.zero, i.size, i.bytes)) = some (some (.int .i64 0), 1, 8) := by kernel_rfl
theorem Tryz.inf22 : (Tryz.prog.info? 31).map (fun i => (i.zero, i.size, i.bytes)) = some (some (.agg #[.int .i64 0, .int .i64 0]), 2, 16) := by kernel_rfl
theorem Tryz.inf62 : (Tryz.prog.info? 86).map (fun i => (i.zero, i.size, i.bytes)) = some (some (.agg #[.int .i64 0, .int .i64 0, .int .i64 0, .int .i64 0, .int .i64 0, .int .i64 0]), 6, 48) := by kernel_rfl
/-- what is known of the elements -/
theorem fam_info (c : Nat) (hc : c < 5) : ∃ i z, Tryz.prog.underlying (fsl c) = some (.slice (fty c)) ∧ Tryz.prog.info? (fty c) = some i ∧ i.zero = some z ∧ i.size = fsz c ∧ i.bytes = fby c ∧ z.cells.size = fsz c ∧ 0 < fsz c := by
  rcases (show c = 0 ∨ c = 1 ∨ c = 2 ∨ c = 3 ∨ c = 4 by omega) with rfl | rfl | rfl | rfl | rfl
  · obtain ⟨i0, hi, hz0, hz1, hz2⟩ := info_parts Tryz.info48
    exact ⟨i0, _, Tryz.underlying89, hi, hz0, hz1, hz2, rfl, by decide⟩
  · obtain ⟨i0, hi, hz0, hz1, hz2⟩ := info_parts Tryz.inf3
    exact ⟨i0, _, Tryz.underlying66, hi, hz0, hz1, hz2, rfl, by decide⟩
  · obtain ⟨i0, hi, hz0, hz1, hz2⟩ := info_parts Tryz.inf3
    exact ⟨i0, _, Tryz.underlying66, hi, hz0, hz1, hz2, rfl, by decide⟩
  · obtain ⟨i0, hi, hz0, hz1, hz2⟩ := info_parts Tryz.inf22
    exact ⟨i0, _, Tryz.underlying30, hi, hz0, hz1, hz2, rfl, by decide⟩
  · obtain ⟨i0, hi, hz0, hz1, hz2⟩ := info_parts Tryz.inf62
    exact ⟨i0, _, Tryz.underlying40, hi, hz0, hz1, hz2, rfl, by decide⟩
/-- ONE ELEMENT MORE, out of a block of its own -/
theorem Fam.append {B0 : Nat} {K : Nat → Prop} {cur : Nat → Value} {n : Nat → Nat} {xs : Nat → List Value} {W : World} (h : Fam B0 K cur n xs W) {c : Nat} (hc : c < 5) (hn : n c + 1 ≤ 1048576) {b : Nat} {news : List Value} {fr : Nat × Nat} {tb : Nat}
    (hb : W.heap[b]? = some (.cells news.toArray tb fr)) (hl : news.length = fsz c) (h1 : ∀ u ∈ news, u.oneCell' = true) (ty : Nat) :
    ∃ g cap w2, (Builtin.append_ #[fsl c, fsl c] ty #[cur c, .slice (some ⟨b, 0, none⟩) 1 1]).run Tryz.prog W = .ok (.slice (some ⟨g, 0, none⟩) (n c + 1) cap) w2 ∧
      Fam B0 K (up cur c (.slice (some ⟨g, 0, none⟩) (n c + 1) cap)) (up n c (n c + 1)) (up xs c (xs c ++ news)) w2 ∧ (∀ g, K g → w2.heap[g]? = W.heap[g]?) ∧ W.grownBy w2 (cur c).ownBlock := by
  obtain ⟨i, z, ht, hi, hz, hs, hby, hzs, hsz⟩ := fam_info c hc
  have hbytes : (n c + 1) * fby c ≤ 140737488355328 := by
    have : fby c ≤ 112 := by rcases (show c = 0 ∨ c = 1 ∨ c = 2 ∨ c = 3 ∨ c = 4 by omega) with rfl | rfl | rfl | rfl | rfl <;> decide
    exact Nat.le_trans (Nat.mul_le_mul hn this) (by decide)
  obtain ⟨v', w2, hr, h2, h3, _, h5⟩ := run_append_own_at (P := Tryz.prog) W B0 (fsl c) ty (fty c) i z (fsz c) (fby c) ht hi hz hs hby hzs hsz (cur c) (n c) (xs c) (h.own c hc) ⟨b, 0, none⟩ 1 1 news (by rw [hl, Nat.one_mul]) (fun j u hu => by
    rw [Addr.add_lit, Nat.zero_add]
    simp [World.cell?, hb]
    simpa using hu) h1 (by unfold maxLen; omega) hbytes h.sz
  obtain ⟨hl2, ⟨_, e2⟩ | ⟨g, cap, cu, e, _⟩⟩ := id h2
  · omega
  · subst e
    obtain ⟨a1, a2⟩ := h.grow hc h2 h3 h5
    exact ⟨g, cap, w2, hr, a1, a2, h3⟩

end Go.Proofs.YtjageagnclmnjaaGreatDoor
