/- PROVED: pairs that are gathered in a row of the call's own. CONDITIONS: none beyond each theorem's own. -/
import Derived.Test.YtobgjnjndkfjoaaDRow
namespace Go.Proofs.Ytobgjnjndkfjoaa.D
open Go.RowKit K

def flatV : List (Int × Int) → List Value
  | [] => []
  | p :: l => .int .i64 p.1 :: .int .i64 p.2 :: flatV l
theorem flatV_len (l : List (Int × Int)) : (flatV l).length = l.length * 2 := by
  induction l with
  | nil => rfl
  | cons r t ih => simp only [flatV, List.length_cons, ih]; omega
theorem flatV_append (a b : List (Int × Int)) : flatV (a ++ b) = flatV a ++ flatV b := by
  induction a with
  | nil => rfl
  | cons r t ih => simp [flatV, ih]
theorem flatV_get (l : List (Int × Int)) : ∀ j, j < l.length → (flatV l)[j * 2]? = some (.int .i64 (l.getD j (0, 0)).1) ∧ (flatV l)[j * 2 + 1]? = some (.int .i64 (l.getD j (0, 0)).2) := by
  induction l with
  | nil => intro j h; simp at h
  | cons r t ih =>
    intro j h
    cases j with
    | zero => exact ⟨rfl, rfl⟩
    | succ j =>
      have := ih j (by simpa using h)
      rw [show (j + 1) * 2 = j * 2 + 1 + 1 by omega]
      exact this
theorem flatV_one (l : List (Int × Int)) : ∀ u ∈ flatV l, u.oneCell' = true := by
  induction l with
  | nil => intro u h; cases h
  | cons r t ih =>
    intro u h
    simp only [flatV, List.mem_cons] at h
    rcases h with rfl | rfl | h
    · rfl
    · rfl
    · exact ih u h
theorem Try.info22 : (Try.prog.info? 22).map (fun i => (i.zero, i.size, i.bytes)) = some (some (.agg #[.int .i64 0, .int .i64 0]), 2, 16) := by kernel_rfl
theorem owned2 {w : World} {base : Nat} {t : Value} {n : Nat} {ps : List (Int × Int)} (hn : ps.length = n) (h : w.ownsRow base 22 2 t n (flatV ps)) : ∃ ao cap, t = .slice ao n cap ∧ n ≤ cap ∧ VRow w ao ps := by
  subst hn
  obtain ⟨hl, ⟨e, e2⟩ | ⟨g, cap, cur, e, hg, hh, hnc, _, hcs, htk⟩⟩ := h
  · exact ⟨none, 0, by rw [e, e2], by omega, .inl (List.eq_nil_of_length_eq_zero e2)⟩
  · refine ⟨_, cap, e, hnc, .inr ⟨g, 0, rfl, fun j hj => ?_⟩⟩
    obtain ⟨f1, f2⟩ := flatV_get ps j hj
    rw [← htk, List.getElem?_take_of_lt (by omega)] at f1 f2
    rw [Nat.zero_add]
    simp [World.cell?, hh]
    exact ⟨by simpa using f1, by simpa using f2⟩
theorem own_keptV {wr w1 : World} {base : Nat} {t : Value} {n : Nat} {xs : List Value} (h : wr.ownsRow base 22 2 t n xs) (b : Below wr.heap.size wr w1) : w1.ownsRow base 22 2 t n xs := by
  obtain ⟨hl, h2⟩ := h
  refine ⟨hl, ?_⟩
  rcases h2 with e | ⟨g, cap, cur, e, hg, hh, r⟩
  · exact .inl e
  · refine .inr ⟨g, cap, cur, e, hg, ?_, r⟩
    have : g < wr.heap.size := lt_of_block hh
    rw [b.block g this]; exact hh
/-- what has been gathered so far -/
structure VGath (w : World) (t : Value) (wr : World) (ps : List (Int × Int)) : Prop where
  own : wr.ownsRow w.heap.size 22 2 t ps.length (flatV ps)
  below : Below w.heap.size w wr
theorem VGath.start (w : World) : VGath w (.slice none 0 0) w [] := ⟨World.ownsRow_nil _ _ _ _, Below.refl _ _⟩
theorem VGath.next {w : World} {t t' : Value} {wr w2 : World} {ps : List (Int × Int)} (h : VGath w t wr ps) {x y : Int}
    (ho : w2.ownsRow w.heap.size 22 2 t' (ps.length + 1) (flatV ps ++ [.int .i64 x, .int .i64 y])) {o : Obj} (hg : (wr.alloc o).grownBy w2 t.ownBlock) : VGath w t' w2 (ps ++ [(x, y)]) := by
  refine ⟨by rw [flatV_append, List.length_append]; exact ho, ?_⟩
  have b1 := balloc h.below o
  exact b1.grown hg b1.size (fun q hq => (h.own.lt q hq).1)
theorem VGath.done {w : World} {t : Value} {wr : World} {ps : List (Int × Int)} (h : VGath w t wr ps) {n : Nat} (hn : ps.length = n) : ∃ ao cap, t = .slice ao n cap ∧ n ≤ cap ∧ VRow wr ao ps := owned2 hn (hn ▸ h.own)
theorem cell_pair_new (w : World) (x y : Int) (j : Nat) (u : Value) (h : [Value.int .i64 x, .int .i64 y][j]? = some u) : (w.alloc (.cells #[.int .i64 x, .int .i64 y] 22)).cell? ((⟨w.heap.size, 0, none⟩ : Addr).add j) = some u := by
  rw [Addr.add_lit, Nat.zero_add]
  exact (World.cell?_alloc_at (w := w) #[.int .i64 x, .int .i64 y] 22 w.heap.size j rfl).trans (by simpa using h)

end Go.Proofs.Ytobgjnjndkfjoaa.D
