/- PROVED: means that forget, on plain integers: what a mean is, that it lies between, that it rises with what it is of. CONDITIONS: none beyond each theorem's own. -/
namespace Go.Proofs.Ytgfmaolifnnkgaa

/-- a number as it counts -/
def cnt (x : Int) : Int := min (max x 0) 1099511627776
theorem cnt_lo (x : Int) : 0 ≤ cnt x := by unfold cnt; omega
theorem cnt_hi (x : Int) : cnt x ≤ 1099511627776 := by unfold cnt; omega
theorem cnt_id {x : Int} (h : 0 ≤ x) (k : x ≤ 1099511627776) : cnt x = x := by unfold cnt; omega

/-- the mean ahead of the k-th number, in 65536-ths -/
def mean (N : Int) (f : Nat → Int) : Nat → Int
  | 0 => cnt (f 0) * 65536
  | k + 1 => mean N f k + (cnt (f k) * 65536 - mean N f k) / N
/-- what is told of it -/
def told (N : Int) (f : Nat → Int) (k : Nat) : Int := mean N f (k + 1) / 65536
def outs (N : Int) (f : Nat → Int) (k : Nat) : List Int := (List.range k).map (told N f)

theorem outs_len (N : Int) (f : Nat → Int) (k : Nat) : (outs N f k).length = k := by simp [outs]
theorem outs_succ (N : Int) (f : Nat → Int) (k : Nat) : outs N f (k + 1) = outs N f k ++ [told N f k] := by simp [outs, List.range_succ]
theorem outs_getD (N : Int) (f : Nat → Int) (k j : Nat) (h : j < k) : (outs N f k).getD j 0 = told N f j := by
  simp [outs, List.getD_eq_getElem?_getD, h]

theorem ediv_up {a N : Int} (hN : 1 ≤ N) (h : a ≤ 0) : a ≤ a / N := by
  rw [Int.le_ediv_iff_mul_le (by omega)]
  have := Int.mul_le_mul_of_nonpos_left (a := a) h hN
  omega
theorem ediv_neg {a N : Int} (hN : 1 ≤ N) (h : a ≤ 0) : a / N ≤ 0 := by
  have := Int.ediv_le_ediv (c := N) (by omega) h
  simpa using this

theorem step_lo {N m c lo : Int} (hN : 1 ≤ N) (h1 : lo ≤ m) (h2 : lo ≤ c) : lo ≤ m + (c - m) / N := by
  rcases Int.le_total 0 (c - m) with h | h
  · have := Int.ediv_nonneg h (by omega : 0 ≤ N); omega
  · have := ediv_up hN h; omega
theorem step_hi {N m c hi : Int} (hN : 1 ≤ N) (h1 : m ≤ hi) (h2 : c ≤ hi) : m + (c - m) / N ≤ hi := by
  rcases Int.le_total 0 (c - m) with h | h
  · have := Int.ediv_le_self N h; omega
  · have := ediv_neg hN h; omega

theorem step_mono {N m c m' c' : Int} (hN : 1 ≤ N) (h1 : m ≤ m') (h2 : c ≤ c') : m + (c - m) / N ≤ m' + (c' - m') / N := by
  have e : ∀ a b : Int, a + (b - a) / N = (b + a * (N - 1)) / N := fun a b => by
    rw [Int.add_comm, ← Int.add_mul_ediv_right _ _ (by omega : N ≠ 0), Int.mul_sub, Int.mul_one]
    congr 1; omega
  rw [e, e]
  refine Int.ediv_le_ediv (by omega) ?_
  have := Int.mul_le_mul_of_nonneg_right h1 (by omega : 0 ≤ N - 1)
  omega

theorem mean_lo (N : Int) (f : Nat → Int) (hN : 1 ≤ N) (k : Nat) : 0 ≤ mean N f k := by
  induction k with
  | zero => have := cnt_lo (f 0); simp only [mean]; omega
  | succ k ih => have := cnt_lo (f k); exact step_lo hN ih (by omega)
theorem mean_hi (N : Int) (f : Nat → Int) (hN : 1 ≤ N) (k : Nat) : mean N f k ≤ 72057594037927936 := by
  induction k with
  | zero => have := cnt_hi (f 0); simp only [mean]; omega
  | succ k ih => have := cnt_hi (f k); exact step_hi hN ih (by omega)
theorem mean_one (N : Int) (f : Nat → Int) : mean N f 1 = cnt (f 0) * 65536 := by simp [mean]
theorem told_lo (N : Int) (f : Nat → Int) (hN : 1 ≤ N) (k : Nat) : 0 ≤ told N f k := by have := mean_lo N f hN (k + 1); unfold told; omega
theorem told_hi (N : Int) (f : Nat → Int) (hN : 1 ≤ N) (k : Nat) : told N f k ≤ 1099511627776 := by have := mean_hi N f hN (k + 1); unfold told; omega

theorem mean_congr {N : Int} {f g : Nat → Int} {n : Nat} (h : ∀ j, j < n → cnt (f j) = cnt (g j)) : ∀ k, k ≤ n → 0 < n → mean N f k = mean N g k := by
  intro k
  induction k with
  | zero => intro _ h0; simp only [mean]; rw [h 0 h0]
  | succ k ih => intro hk h0; simp only [mean]; rw [ih (by omega) h0, h k (by omega)]
theorem outs_congr {N : Int} {f g : Nat → Int} {n : Nat} (h : ∀ j, j < n → cnt (f j) = cnt (g j)) : outs N f n = outs N g n := by
  unfold outs
  refine List.map_congr_left fun k hk => ?_
  have hk := List.mem_range.1 hk
  unfold told
  rw [mean_congr h (k + 1) (by omega) (by omega)]

/-- where no number is less, no mean is -/
theorem mean_rises {N : Int} {f g : Nat → Int} {n : Nat} (hN : 1 ≤ N) (h : ∀ j, j < n → cnt (f j) ≤ cnt (g j)) : ∀ k, k ≤ n → 0 < n → mean N f k ≤ mean N g k := by
  intro k
  induction k with
  | zero => intro _ h0; simp only [mean]; have := h 0 h0; omega
  | succ k ih => intro hk h0; have := h k (by omega); exact step_mono hN (ih (by omega) h0) (by omega)
theorem told_rises {N : Int} {f g : Nat → Int} {n : Nat} (hN : 1 ≤ N) (h : ∀ j, j < n → cnt (f j) ≤ cnt (g j)) (k : Nat) (hk : k < n) : told N f k ≤ told N g k := by
  have := mean_rises hN h (k + 1) (by omega) (by omega)
  unfold told; omega

/-- what stays is meant -/
theorem mean_still {N : Int} {f : Nat → Int} {c : Int} {n : Nat} (h : ∀ j, j < n → cnt (f j) = c) : ∀ k, k ≤ n → 0 < n → mean N f k = c * 65536 := by
  intro k
  induction k with
  | zero => intro _ h0; simp only [mean]; rw [h 0 h0]
  | succ k ih => intro hk h0; simp only [mean]; rw [ih (by omega) h0, h k (by omega), Int.sub_self, Int.zero_ediv, Int.add_zero]
theorem told_still {N : Int} {f : Nat → Int} {c : Int} {n : Nat} (h : ∀ j, j < n → cnt (f j) = c) (k : Nat) (hk : k < n) : told N f k = c := by
  unfold told
  rw [mean_still h (k + 1) (by omega) (by omega)]; omega

/-- of what has been seen, the least and the greatest -/
structure Btw (N : Int) (f : Nat → Int) (k : Nat) (lo hi : Int) : Prop where
  l0 : 0 ≤ lo
  l1 : lo ≤ 1152921504606846976
  h0 : 0 ≤ hi
  h1 : hi ≤ 1152921504606846976
  lo : 0 < k → lo * 65536 ≤ mean N f k
  hi : 0 < k → mean N f k ≤ hi * 65536
theorem Btw.start (N : Int) (f : Nat → Int) : Btw N f 0 1152921504606846976 0 := ⟨by omega, by omega, by omega, by omega, fun h => by omega, fun h => by omega⟩
theorem Btw.step {N : Int} {f : Nat → Int} {k : Nat} {lo hi : Int} (hN : 1 ≤ N) (h : Btw N f k lo hi) : Btw N f (k + 1) (min lo (cnt (f k))) (max hi (cnt (f k))) := by
  have c0 := cnt_lo (f k)
  have c1 := cnt_hi (f k)
  obtain ⟨a, b, c, d, e1, e2⟩ := h
  refine ⟨by omega, by omega, by omega, by omega, fun _ => ?_, fun _ => ?_⟩
  · cases k with
    | zero => rw [mean_one]; omega
    | succ k => have := e1 (by omega); exact step_lo hN (by omega) (by omega)
  · cases k with
    | zero => rw [mean_one]; omega
    | succ k => have := e2 (by omega); exact step_hi hN (by omega) (by omega)
theorem Btw.told {N : Int} {f : Nat → Int} {k : Nat} {lo hi : Int} (h : Btw N f (k + 1) lo hi) : lo ≤ told N f k ∧ told N f k ≤ hi := by
  have a := h.lo (by omega)
  have b := h.hi (by omega)
  unfold Ytgfmaolifnnkgaa.told
  omega

/-- rounded towards what is less: of what is less, by what it lacks -/
theorem down_neg {d n : Int} (hn : 1 ≤ n) : (-d + n - 1) / n = -(d / n) := by
  have h1 := Int.mul_ediv_add_emod d n
  have h2 := Int.emod_nonneg d (by omega : n ≠ 0)
  have h3 := Int.emod_lt_of_pos d (by omega : 0 < n)
  have e : -d + n - 1 = (n - 1 - d % n) + n * (-(d / n)) := by
    rw [Int.mul_neg]; omega
  rw [e, Int.add_mul_ediv_left _ _ (by omega : n ≠ 0), Int.ediv_eq_zero_of_lt (by omega) (by omega)]
  omega

/-- how far apart two are -/
def apart (a b : Int) : Int := max (a - b) (b - a)
/-- how far each number is from the mean told ahead of it -/
def far (N : Int) (f : Nat → Int) (k : Nat) : Int := apart (cnt (f k)) (told N f (k - 1))
def fars (N : Int) (f : Nat → Int) (k : Nat) : List Int := (List.range k).map (far N f)
theorem fars_len (N : Int) (f : Nat → Int) (k : Nat) : (fars N f k).length = k := by simp [fars]
theorem fars_succ (N : Int) (f : Nat → Int) (k : Nat) : fars N f (k + 1) = fars N f k ++ [far N f k] := by simp [fars, List.range_succ]
theorem fars_getD (N : Int) (f : Nat → Int) (k j : Nat) (h : j < k) : (fars N f k).getD j 0 = far N f j := by
  simp [fars, List.getD_eq_getElem?_getD, h]
theorem far_lo (N : Int) (f : Nat → Int) (k : Nat) : 0 ≤ far N f k := by unfold far apart; omega
theorem far_hi (N : Int) (f : Nat → Int) (hN : 1 ≤ N) (k : Nat) : far N f k ≤ 1099511627776 := by
  have a := cnt_lo (f k)
  have b := cnt_hi (f k)
  have c := told_lo N f hN (k - 1)
  have d := told_hi N f hN (k - 1)
  unfold far apart; omega
theorem far_still {N : Int} {f : Nat → Int} {c : Int} {n : Nat} (h : ∀ j, j < n → cnt (f j) = c) (k : Nat) (hk : k < n) : far N f k = 0 := by
  unfold far
  rw [told_still h (k - 1) (by omega), h k hk]; unfold apart; omega

/-- which shifts are right -/
def okS (s : Int) : Bool := decide (0 ≤ s ∧ s ≤ 16)
def pw (s : Int) : Int := 2 ^ s.toNat
theorem pw_pos (s : Int) : 1 ≤ pw s := by have := Int.pow_pos (n := 2) (m := s.toNat) (by omega); unfold pw; omega
/-- the answers -/
def smooth (zs : List Int) (s : Int) : List Int := if okS s then outs (pw s) (fun j => zs.getD j 0) zs.length else []
def spread (zs : List Int) (s : Int) : List Int := if okS s then smooth (fars (pw s) (fun j => zs.getD j 0) zs.length) s else []
theorem smooth_ok {zs : List Int} {s : Int} (h : okS s = true) : smooth zs s = outs (pw s) (fun j => zs.getD j 0) zs.length := by simp [smooth, h]
theorem smooth_no {zs : List Int} {s : Int} (h : okS s = false) : smooth zs s = [] := by simp [smooth, h]
theorem spread_ok {zs : List Int} {s : Int} (h : okS s = true) : spread zs s = smooth (fars (pw s) (fun j => zs.getD j 0) zs.length) s := by simp [spread, h]
theorem spread_no {zs : List Int} {s : Int} (h : okS s = false) : spread zs s = [] := by simp [spread, h]
theorem smooth_len {zs : List Int} {s : Int} (h : okS s = true) : (smooth zs s).length = zs.length := by rw [smooth_ok h, outs_len]
theorem spread_len {zs : List Int} {s : Int} (h : okS s = true) : (spread zs s).length = zs.length := by rw [spread_ok h, smooth_len h, fars_len]
theorem smooth_le (zs : List Int) (s : Int) : (smooth zs s).length ≤ zs.length := by
  cases h : okS s with
  | false => rw [smooth_no h]; simp
  | true => rw [smooth_len h]; exact Nat.le_refl _
theorem spread_le (zs : List Int) (s : Int) : (spread zs s).length ≤ zs.length := by
  cases h : okS s with
  | false => rw [spread_no h]; simp
  | true => rw [spread_len h]; exact Nat.le_refl _

end Go.Proofs.Ytgfmaolifnnkgaa
