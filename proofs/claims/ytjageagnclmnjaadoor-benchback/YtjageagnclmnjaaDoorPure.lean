/- PROVED: rows of numbers that a function tells. CONDITIONS: none beyond each theorem's own. -/
namespace Go.Proofs.YtjageagnclmnjaaDoor

/-- the first k of what f tells -/
def outs (f : Nat → Int) (k : Nat) : List Int := (List.range k).map f
theorem outs_len (f : Nat → Int) (k : Nat) : (outs f k).length = k := by simp [outs]
theorem outs_succ (f : Nat → Int) (k : Nat) : outs f (k + 1) = outs f k ++ [f k] := by simp [outs, List.range_succ]
theorem outs_getD (f : Nat → Int) (k j : Nat) (h : j < k) : (outs f k).getD j 0 = f j := by
  simp [outs, List.getD_eq_getElem?_getD, h]
theorem outs_ext {f g : Nat → Int} {k : Nat} (h : ∀ j, j < k → f j = g j) : outs f k = outs g k := by
  unfold outs; apply List.map_congr_left; intro a ha; exact h a (List.mem_range.1 ha)
theorem list_ext {xs ys : List Int} (hl : xs.length = ys.length) (h : ∀ j, j < xs.length → xs.getD j 0 = ys.getD j 0) : xs = ys := by
  apply List.ext_getElem hl
  intro j h1 h2
  have := h j h1
  rw [List.getD_eq_getElem?_getD, List.getD_eq_getElem?_getD, List.getElem?_eq_getElem h1, List.getElem?_eq_getElem h2] at this
  exact this
theorem outs_self (xs : List Int) : outs (fun j => xs.getD j 0) xs.length = xs :=
  list_ext (outs_len _ _) fun j hj => by rw [outs_len] at hj; exact outs_getD _ _ _ hj

end Go.Proofs.YtjageagnclmnjaaDoor
