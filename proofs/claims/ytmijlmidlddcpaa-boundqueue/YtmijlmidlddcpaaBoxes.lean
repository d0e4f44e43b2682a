/- PROVED: how bound.Far's boxes and its row of ticks lie in memory. CONDITIONS: none beyond each theorem's own. -/
import Derived.Test.YtmijlmidlddcpaaAns
import Derived.Test.YtmijlmidlddcpaaStack
import Derived.Maps.AppendAt
namespace Go.Proofs.Ytmijlmidlddcpaa
open Go.RowKit

/-- four boxes, and the row that one of them holds -/
structure Boxes (w v : World) (F G C T : Nat) (s1 s2 t u : Value) (S : List Int) : Prop where
  cF : v.cell? ⟨F, 0, none⟩ = some s1
  cG : v.cell? ⟨G, 0, none⟩ = some s2
  cC : v.cell? ⟨C, 0, none⟩ = some u
  zC : v.frozen? ⟨C, 0, none⟩ = false
  cT : v.cell? ⟨T, 0, none⟩ = some t
  zT : v.frozen? ⟨T, 0, none⟩ = false
  own : v.ownsRow (C + 1) 3 1 u S.length (S.map (Value.int .i64))
  apart : ∀ q, u.ownBlock = some q → q ≠ T
  lo : w.heap.size ≤ C ∧ F < C ∧ G < C ∧ C < T
  below : Below w.heap.size w v

theorem Boxes.drewN {w v : World} {F G C T : Nat} {s1 s2 t u : Value} {S : List Int} (h : Boxes w v F G C T s1 s2 t u S) (q : Nat) : Boxes w (v.drewN q) F G C T s1 s2 t u S :=
  ⟨h.cF, h.cG, h.cC, h.zC, h.cT, h.zT, own_drew h.own q, h.apart, h.lo, below_drewN h.below q⟩

theorem own_set {v : World} {base : Nat} {u : Value} {n : Nat} {xs : List Value} (h : v.ownsRow base 3 1 u n xs) (a : Addr) (y : Value) (hne : ∀ q, u.ownBlock = some q → q ≠ a.block) : (v.setCell a y).ownsRow base 3 1 u n xs := by
  obtain ⟨hl, h2⟩ := h
  refine ⟨hl, ?_⟩
  rcases h2 with e | ⟨g, cap, cur, e, hg, hh, r⟩
  · exact .inl e
  · refine .inr ⟨g, cap, cur, e, hg, ?_, r⟩
    rw [Below.heap_setCell _ _ _ _ (hne g (by rw [e]; rfl))]; exact hh
theorem own_take {v : World} {base r cap l : Nat} {S : List Int} (h : v.ownsRow base 3 1 (.slice (some ⟨r, 0, none⟩) S.length cap) S.length (S.map (Value.int .i64))) (hl : l ≤ S.length) :
    v.ownsRow base 3 1 (.slice (some ⟨r, 0, none⟩) l cap) (S.take l).length ((S.take l).map (Value.int .i64)) := by
  obtain ⟨_, ⟨e, _⟩ | ⟨g, cp, cur, e, hg, hh, h1, h2, h3, h4⟩⟩ := h
  · cases e
  · injection e with e1 _ e2
    injection e1 with e1
    injection e1 with e1 _ _
    subst e1 e2
    have el : (S.take l).length = l := by simp; omega
    refine ⟨by simp, .inr ⟨r, cap, cur, by rw [el], hg, hh, by omega, h2, h3, ?_⟩⟩
    rw [el, List.map_take, ← h4, List.take_take]
    congr 1
    omega
theorem ne_of_blk {a b c d : Nat} (h : a ≠ b) : (⟨a, c, none⟩ : Addr) ≠ ⟨b, d, none⟩ := fun q => h (by injection q)

theorem Boxes.pop {w v : World} {F G C T r cap l : Nat} {s1 s2 t : Value} {S : List Int} (h : Boxes w v F G C T s1 s2 t (.slice (some ⟨r, 0, none⟩) S.length cap) S) (hl : S.length = l + 1) :
    Boxes w (v.setCell ⟨C, 0, none⟩ (.slice (some ⟨r, 0, none⟩) l cap)) F G C T s1 s2 t (.slice (some ⟨r, 0, none⟩) l cap) (S.take l) := by
  obtain ⟨l0, l1, l2, l3⟩ := h.lo
  have hr := (h.own.lt r rfl).1
  refine ⟨?_, ?_, ?_, ?_, ?_, ?_, ?_, fun q hq => h.apart q hq, h.lo, h.below.setCell (p := ⟨C, 0, none⟩) l0 _⟩
  · rw [World.cell?_setCell_other _ _ _ _ (ne_of_blk (by omega))]; exact h.cF
  · rw [World.cell?_setCell_other _ _ _ _ (ne_of_blk (by omega))]; exact h.cG
  · exact World.cell?_setCell_same _ _ _ h.cC
  · rw [World.frozen?_setCell]; exact h.zC
  · rw [World.cell?_setCell_other _ _ _ _ (ne_of_blk (by omega))]; exact h.cT
  · rw [World.frozen?_setCell]; exact h.zT
  · refine own_set (own_take h.own (by omega)) _ _ fun q hq => ?_
    have : r = q := by simpa [Value.ownBlock] using hq
    show q ≠ C
    omega

theorem Boxes.push {w v v2 : World} {F G C T : Nat} {s1 s2 t u u2 : Value} {S : List Int} {x : Int} {o : Obj} (h : Boxes w v F G C T s1 s2 t u S)
    (ho : v2.ownsRow (C + 1) 3 1 u2 (S.length + 1) (S.map (Value.int .i64) ++ [.int .i64 x])) (hg : (v.alloc o).grownBy v2 u.ownBlock) (hw : u2.ownBlock = u.ownBlock ∨ u2.ownBlock = some (v.alloc o).heap.size) :
    v2.cell? ⟨C, 0, none⟩ = some u ∧ v2.frozen? ⟨C, 0, none⟩ = false ∧ Boxes w (v2.setCell ⟨C, 0, none⟩ u2) F G C T s1 s2 t u2 (S ++ [x]) := by
  obtain ⟨l0, l1, l2, l3⟩ := h.lo
  have hs : (v.alloc o).heap.size = v.heap.size + 1 := by simp
  have hT : T < v.heap.size := block_lt h.cT
  have hne : ∀ b, b ≤ C → some b ≠ u.ownBlock := fun b hb e => by have := (h.own.lt b e.symm).1; omega
  have hneT : some T ≠ u.ownBlock := fun e => h.apart T e.symm rfl
  have blk : ∀ b, b < v.heap.size → some b ≠ u.ownBlock → v2.heap[b]? = v.heap[b]? := fun b hb he => (hg.block b (by omega) he).trans (Below.heap_alloc v o b hb)
  have hC : C < v.heap.size := block_lt h.cC
  have cC2 : v2.cell? ⟨C, 0, none⟩ = some u := (World.cell?_of_block (blk C hC (hne C (Nat.le_refl _)))).trans h.cC
  have zC2 : v2.frozen? ⟨C, 0, none⟩ = false := (World.frozen?_of_block (blk C hC (hne C (Nat.le_refl _)))).trans h.zC
  refine ⟨cC2, zC2, ?_⟩
  have b1 : Below w.heap.size w v2 := by
    have b1 := balloc h.below o
    exact b1.grown hg b1.size fun q hq => by have := (h.own.lt q hq).1; omega
  refine ⟨?_, ?_, World.cell?_setCell_same _ _ _ cC2, ?_, ?_, ?_, ?_, fun q hq => ?_, h.lo, b1.setCell (p := ⟨C, 0, none⟩) l0 _⟩
  · rw [World.cell?_setCell_other _ _ _ _ (ne_of_blk (by omega))]
    exact (World.cell?_of_block (blk F (by omega) (hne F (by omega)))).trans h.cF
  · rw [World.cell?_setCell_other _ _ _ _ (ne_of_blk (by omega))]
    exact (World.cell?_of_block (blk G (by omega) (hne G (by omega)))).trans h.cG
  · rw [World.frozen?_setCell]; exact zC2
  · rw [World.cell?_setCell_other _ _ _ _ (ne_of_blk (by omega))]
    exact (World.cell?_of_block (blk T hT hneT)).trans h.cT
  · rw [World.frozen?_setCell]; exact (World.frozen?_of_block (blk T hT hneT)).trans h.zT
  · refine own_set (by simpa using ho) _ _ fun q hq => ?_
    have := (ho.lt q hq).1
    show q ≠ C
    omega
  · rcases hw with e | e
    · exact h.apart q (e ▸ hq)
    · rw [hq] at e
      injection e with e
      omega

theorem Boxes.next {w v : World} {F G C T : Nat} {s1 s2 t u : Value} {S : List Int} (h : Boxes w v F G C T s1 s2 t u S) (y : Value) :
    Boxes w (v.alloc (.cells #[y] 3)) F G C v.heap.size s1 s2 y u S := by
  obtain ⟨l0, l1, l2, l3⟩ := h.lo
  have hC : C < v.heap.size := block_lt h.cC
  have o : ∀ b, b < v.heap.size → (v.alloc (.cells #[y] 3)).heap[b]? = v.heap[b]? := fun b hb => Below.heap_alloc _ _ _ hb
  refine ⟨(World.cell?_of_block (o F (by omega))).trans h.cF, (World.cell?_of_block (o G (by omega))).trans h.cG, (World.cell?_of_block (o C hC)).trans h.cC, (World.frozen?_of_block (o C hC)).trans h.zC, ?_, ?_, h.own.alloc _, fun q hq => ?_, ⟨l0, l1, l2, hC⟩, balloc h.below _⟩
  · rw [World.cell?_alloc_at _ _ _ _ rfl]; rfl
  · rw [World.frozen?_alloc_at _ _ _ _ rfl]
  · have := (h.own.lt q hq).2; omega
theorem Boxes.start (w : World) (s1 s2 t : Value) :
    Boxes w ((((w.alloc (.cells #[s1] 22)).alloc (.cells #[s2] 22)).alloc (.cells #[.slice none 0 0] 22)).alloc (.cells #[t] 3)) w.heap.size (w.heap.size + 1) (w.heap.size + 1 + 1) (w.heap.size + 1 + 1 + 1) s1 s2 t (.slice none 0 0) [] := by
  have e1 : (w.alloc (.cells #[s1] 22)).heap.size = w.heap.size + 1 := by simp
  have e2 : ((w.alloc (.cells #[s1] 22)).alloc (.cells #[s2] 22)).heap.size = w.heap.size + 1 + 1 := by simp
  have e3 : (((w.alloc (.cells #[s1] 22)).alloc (.cells #[s2] 22)).alloc (.cells #[.slice none 0 0] 22)).heap.size = w.heap.size + 1 + 1 + 1 := by simp
  have b1 := balloc (Below.refl w.heap.size w) (.cells #[s1] 22)
  have b2 := balloc b1 (.cells #[s2] 22)
  have b3 := balloc b2 (.cells #[.slice none 0 0] 22)
  have b4 := balloc b3 (.cells #[t] 3)
  refine ⟨?_, ?_, ?_, ?_, ?_, ?_, World.ownsRow_nil _ _ _ _, fun q hq => by simp [Value.ownBlock] at hq, ⟨by omega, by omega, by omega, by omega⟩, b4⟩
  · rw [World.cell?_alloc_past _ _ _ (by rw [e3]; omega), World.cell?_alloc_past _ _ _ (by rw [e2]; omega), World.cell?_alloc_past _ _ _ (by rw [e1]; omega), World.cell?_alloc_at _ _ _ _ rfl]; rfl
  · rw [World.cell?_alloc_past _ _ _ (by rw [e3]; omega), World.cell?_alloc_past _ _ _ (by rw [e2]; omega), World.cell?_alloc_at _ _ _ _ e1.symm]; rfl
  · rw [World.cell?_alloc_past _ _ _ (by rw [e3]; omega), World.cell?_alloc_at _ _ _ _ e2.symm]; rfl
  · rw [World.frozen?_alloc_past _ _ _ (by rw [e3]; omega), World.frozen?_alloc_at _ _ _ _ e2.symm]
  · rw [World.cell?_alloc_at _ _ _ _ e3.symm]; rfl
  · rw [World.frozen?_alloc_at _ _ _ _ e3.symm]

/-- how many ticks are left, by the box that holds the tick -/
def tickOf (p : Value) (v : World) : Nat := match p with
  | .pointer (some a) => match v.cell? a with
    | some (.int _ t) => (t + 1).toNat
    | _ => 0
  | _ => 0
theorem tickOf_at {v : World} {a : Addr} {t : Int} (h : v.cell? a = some (.int .i64 t)) : tickOf (.pointer (some a)) v = (t + 1).toNat := by unfold tickOf; simp only [h]
/-- how long the row is that a box holds -/
def lenAt (C : Nat) (v : World) : Nat := match v.cell? ⟨C, 0, none⟩ with
  | some (.slice _ l _) => l
  | _ => 0
theorem lenAt_is {v : World} {C l cap : Nat} {a : Option Addr} (h : v.cell? ⟨C, 0, none⟩ = some (.slice a l cap)) : lenAt C v = l := by unfold lenAt; simp only [h]

/-- where a question turns from no to yes -/
theorem turns (P : Nat → Bool) (n : Nat) (mono : ∀ p q, p ≤ q → q < n → P p = true → P q = true) : ∃ h, h ≤ n ∧ (∀ p, p < h → P p = false) ∧ ∀ p, h ≤ p → p < n → P p = true := by
  induction n with
  | zero => exact ⟨0, Nat.le_refl _, fun p h => by omega, fun p _ h => by omega⟩
  | succ n ih =>
    obtain ⟨h, h1, h2, h3⟩ := ih fun p q a b c => mono p q a (by omega) c
    by_cases c : h < n
    · exact ⟨h, by omega, h2, fun p a b => mono h p a b (h3 h (Nat.le_refl _) c)⟩
    · obtain rfl : h = n := by omega
      cases e : P h with
      | true => exact ⟨h, by omega, h2, fun p a b => by obtain rfl : p = h := by omega
                                                        exact e⟩
      | false => exact ⟨h + 1, Nat.le_refl _, fun p a => by
          by_cases q : p = h
          · subst q; exact e
          · exact h2 p (by omega), fun p a b => by omega⟩

end Go.Proofs.Ytmijlmidlddcpaa
