/- PROVED: least sums, what is over, closed rows, on plain integers, and what the promises say of one another. what leastSum and mostOver answer. what Conv and Over answer. a bucket on plain integers: its line, what keeps to it, what it lets through, and what the promises say of one another. CONDITIONS: none beyond each theorem's own. -/
import Derived.Test.YtjageagnclmnjabGreatDoorW38BAns
import Derived.Deep.RegionWith
namespace Go.Proofs.YtjageagnclmnjabGreatDoor.B
set_option maxRecDepth 100000

theorem plus_comm (a b : Int) : plus a b = plus b a := by unfold plus; rw [Int.add_comm]
theorem plus_mono {a b c d : Int} (h1 : fit a ≤ fit c) (h2 : fit b ≤ fit d) : plus a b ≤ plus c d := by
  unfold plus; exact fit_mono (by omega)
theorem plus_inf (a : Int) : plus a 1152921504606846976 = 1152921504606846976 := by
  have := fit_lo a
  unfold plus
  rw [fit_of 1152921504606846976 (by omega) (by omega)]
  generalize fit a = x at *
  unfold fit; omega
theorem plus_zero (a : Int) : plus a 0 = fit a := by
  unfold plus
  rw [fit_of 0 (by omega) (by omega), Int.add_zero, fit_fit]
theorem zero_plus (a : Int) : plus 0 a = fit a := by rw [plus_comm, plus_zero]
theorem plus_assoc (a b c : Int) : plus (plus a b) c = plus a (plus b c) := by
  have := fit_lo a; have := fit_lo b; have := fit_lo c
  unfold plus
  rw [fit_fit, fit_fit]
  generalize fit a = x at *
  generalize fit b = y at *
  generalize fit c = z at *
  unfold fit
  omega
theorem fit_plus (a b : Int) : fit (plus a b) = plus a b := fit_fit _
/-- the least sum of F at s and G at t - s, of the first k of s -/
def lsum (F G : Nat → Int) (t : Nat) : Nat → Int
  | 0 => 1152921504606846976
  | k + 1 => min (lsum F G t k) (plus (F k) (G (t - k)))
theorem lsum_lo (F G : Nat → Int) (t k : Nat) : 0 ≤ lsum F G t k := by
  induction k with
  | zero => simp [lsum]
  | succ k ih => have := plus_lo (F k) (G (t - k)); simp only [lsum]; omega
theorem lsum_hi (F G : Nat → Int) (t k : Nat) : lsum F G t k ≤ 1152921504606846976 := by
  induction k with
  | zero => simp [lsum]
  | succ k ih => simp only [lsum]; omega
theorem lsum_le (F G : Nat → Int) (t k s : Nat) (h : s < k) : lsum F G t k ≤ plus (F s) (G (t - s)) := by
  induction k with
  | zero => omega
  | succ k ih =>
    simp only [lsum]
    by_cases e : s = k
    · subst e; omega
    · have := ih (by omega); omega
theorem le_lsum (F G : Nat → Int) (t k : Nat) (x : Int) (hx : x ≤ 1152921504606846976) (h : ∀ s, s < k → x ≤ plus (F s) (G (t - s))) : x ≤ lsum F G t k := by
  induction k with
  | zero => exact hx
  | succ k ih =>
    have := ih fun s hs => h s (by omega)
    have := h k (by omega)
    simp only [lsum]; omega
theorem lsum_at (F G : Nat → Int) (t k : Nat) : lsum F G t k = 1152921504606846976 ∨ ∃ s, s < k ∧ lsum F G t k = plus (F s) (G (t - s)) := by
  induction k with
  | zero => exact .inl rfl
  | succ k ih =>
    simp only [lsum]
    rcases Int.le_total (lsum F G t k) (plus (F k) (G (t - k))) with h | h
    · rw [Int.min_eq_left h]
      rcases ih with e | ⟨s, hs, e⟩
      · exact .inl e
      · exact .inr ⟨s, by omega, e⟩
    · exact .inr ⟨k, by omega, Int.min_eq_right h⟩
theorem lsum_ext {F G F' G' : Nat → Int} {t : Nat} (k : Nat) (hk : k ≤ t + 1) (hF : ∀ j, j ≤ t → F j = F' j) (hG : ∀ j, j ≤ t → G j = G' j) : lsum F G t k = lsum F' G' t k := by
  induction k with
  | zero => rfl
  | succ k ih => simp only [lsum]; rw [ih (by omega), hF k (by omega), hG (t - k) (by omega)]

/-- at tick t -/
def cv (F G : Nat → Int) (t : Nat) : Int := lsum F G t (t + 1)
theorem cv_lo (F G : Nat → Int) (t : Nat) : 0 ≤ cv F G t := lsum_lo _ _ _ _
theorem cv_hi (F G : Nat → Int) (t : Nat) : cv F G t ≤ 1152921504606846976 := lsum_hi _ _ _ _
theorem cv_fit (F G : Nat → Int) (t : Nat) : fit (cv F G t) = cv F G t := fit_of _ (cv_lo _ _ _) (cv_hi _ _ _)
theorem cv_le (F G : Nat → Int) (t s : Nat) (h : s ≤ t) : cv F G t ≤ plus (F s) (G (t - s)) := lsum_le _ _ _ _ _ (by omega)
theorem le_cv (F G : Nat → Int) (t : Nat) (x : Int) (hx : x ≤ 1152921504606846976) (h : ∀ s, s ≤ t → x ≤ plus (F s) (G (t - s))) : x ≤ cv F G t := le_lsum _ _ _ _ _ hx fun s hs => h s (by omega)
theorem cv_at (F G : Nat → Int) (t : Nat) : cv F G t = 1152921504606846976 ∨ ∃ s, s ≤ t ∧ cv F G t = plus (F s) (G (t - s)) := by
  rcases lsum_at F G t (t + 1) with e | ⟨s, hs, e⟩
  · exact .inl e
  · exact .inr ⟨s, by omega, e⟩
theorem cv_ext {F G F' G' : Nat → Int} {t : Nat} (hF : ∀ j, j ≤ t → F j = F' j) (hG : ∀ j, j ≤ t → G j = G' j) : cv F G t = cv F' G' t := lsum_ext _ (Nat.le_refl _) hF hG
theorem cv_mono {F G F' G' : Nat → Int} {t : Nat} (hF : ∀ j, j ≤ t → fit (F j) ≤ fit (F' j)) (hG : ∀ j, j ≤ t → fit (G j) ≤ fit (G' j)) : cv F G t ≤ cv F' G' t :=
  le_cv _ _ _ _ (cv_hi _ _ _) fun s hs => Int.le_trans (cv_le F G t s hs) (plus_mono (hF s hs) (hG (t - s) (by omega)))

theorem cv_comm_le (F G : Nat → Int) (t : Nat) : cv F G t ≤ cv G F t := le_cv _ _ _ _ (cv_hi _ _ _) fun s hs => by
  have := cv_le F G t (t - s) (by omega)
  rw [show t - (t - s) = s by omega, plus_comm] at this
  exact this
theorem cv_comm (F G : Nat → Int) (t : Nat) : cv F G t = cv G F t := Int.le_antisymm (cv_comm_le F G t) (cv_comm_le G F t)
theorem cv_assoc_le (F G H : Nat → Int) (t : Nat) : cv F (cv G H) t ≤ cv (cv F G) H t := le_cv _ _ _ _ (cv_hi _ _ _) fun s hs => by
  rcases cv_at F G s with e | ⟨r, hr, e⟩
  · rw [e, plus_comm, plus_inf]; exact cv_hi _ _ _
  · rw [e, plus_assoc]
    refine Int.le_trans (cv_le F (cv G H) t r (by omega)) (plus_mono (Int.le_refl _) ?_)
    rw [cv_fit, fit_plus]
    have := cv_le G H (t - r) (s - r) (by omega)
    rw [show t - r - (s - r) = t - s by omega] at this
    exact this
theorem cv_assoc (F G H : Nat → Int) (t : Nat) : cv F (cv G H) t = cv (cv F G) H t := by
  refine Int.le_antisymm (cv_assoc_le F G H t) ?_
  have h1 : cv (cv F G) H t = cv H (cv G F) t := by rw [cv_comm]; exact cv_ext (fun _ _ => rfl) fun j _ => cv_comm F G j
  have h2 : cv F (cv G H) t = cv (cv H G) F t := by rw [cv_comm]; exact cv_ext (fun j _ => cv_comm G H j) fun _ _ => rfl
  rw [h1, h2]
  exact cv_assoc_le H G F t
/-! Rows. -/
def conv (f g : List Int) : List Int := outs (cv (fun j => f.getD j 0) fun j => g.getD j 0) (min f.length g.length)
theorem conv_len (f g : List Int) : (conv f g).length = min f.length g.length := outs_len _ _
theorem conv_getD (f g : List Int) (t : Nat) (h : t < min f.length g.length) : (conv f g).getD t 0 = cv (fun j => f.getD j 0) (fun j => g.getD j 0) t := outs_getD _ _ _ h
/-- the most by which F has more than G, of the first k -/
def mo (F G : Nat → Int) : Nat → Int
  | 0 => 0
  | k + 1 => max (mo F G k) (less (F k) (G k))
def ov (F G : Nat → Int) (n m t : Nat) : Int := mo (fun u => F (t + u)) G (min (n - t) m)
def over (f g : List Int) : List Int := outs (ov (fun j => f.getD j 0) (fun j => g.getD j 0) f.length g.length) f.length
/-- never more than its parts -/
def parts (f : List Int) : Prop := (f.length = 0 ∨ fit (f.getD 0 0) = 0) ∧ ∀ t, t < f.length → ∀ s, s ≤ t → fit (f.getD t 0) ≤ plus (f.getD s 0) (f.getD (t - s) 0)

/-- the first k numbers of what is closed -/
def clo (F : Nat → Int) : Nat → List Int
  | 0 => []
  | k + 1 => clo F k ++ [if k = 0 then 0 else cv (fun j => if j < k then (clo F k).getD j 0 else F k) (fun j => if j < k then (clo F k).getD j 0 else F k) k]
theorem clo_len (F : Nat → Int) (k : Nat) : (clo F k).length = k := by
  induction k with
  | zero => rfl
  | succ k ih => simp [clo, ih]
def clf (F : Nat → Int) (t : Nat) : Int := (clo F (t + 1)).getD t 0
theorem snoc_old (R : List Int) (v : Int) (j : Nat) (h : j < R.length) : (R ++ [v]).getD j 0 = R.getD j 0 := by
  rw [List.getD_eq_getElem?_getD, List.getD_eq_getElem?_getD, List.getElem?_append_left h]
theorem snoc_new (R : List Int) (v : Int) (j : Nat) (h : j = R.length) : (R ++ [v]).getD j 0 = v := by
  subst h; simp [List.getD_eq_getElem?_getD]
theorem clo_getD (F : Nat → Int) (k j : Nat) (h : j < k) : (clo F k).getD j 0 = clf F j := by
  induction k with
  | zero => omega
  | succ k ih =>
    by_cases e : j = k
    · subst e; rfl
    · simp only [clo]
      rw [snoc_old _ _ _ (by rw [clo_len]; omega)]
      exact ih (by omega)
theorem clf_zero (F : Nat → Int) : clf F 0 = 0 := rfl
theorem clf_eq (F : Nat → Int) (t : Nat) (h : 0 < t) : clf F t = cv (fun j => if j < t then clf F j else F t) (fun j => if j < t then clf F j else F t) t := by
  unfold clf
  simp only [clo]
  rw [snoc_new _ _ _ (by rw [clo_len]), if_neg (by omega)]
  have e : ∀ j, j ≤ t → (if j < t then (clo F t).getD j 0 else F t) = if j < t then clf F j else F t := fun j hj => by
    by_cases k : j < t
    · rw [if_pos k, if_pos k]; exact clo_getD F t j k
    · rw [if_neg k, if_neg k]
  exact cv_ext e e
theorem clf_lo (F : Nat → Int) (t : Nat) : 0 ≤ clf F t := by
  by_cases h : 0 < t
  · rw [clf_eq F t h]; exact cv_lo _ _ _
  · obtain rfl : t = 0 := by omega
    exact Int.le_refl _
theorem clf_hi (F : Nat → Int) (t : Nat) : clf F t ≤ 1152921504606846976 := by
  by_cases h : 0 < t
  · rw [clf_eq F t h]; exact cv_hi _ _ _
  · obtain rfl : t = 0 := by omega
    rw [clf_zero]; omega
theorem clf_fit (F : Nat → Int) (t : Nat) : fit (clf F t) = clf F t := fit_of _ (clf_lo _ _) (clf_hi _ _)
theorem clf_parts (F : Nat → Int) (t s : Nat) (hs : s ≤ t) : clf F t ≤ plus (clf F s) (clf F (t - s)) := by
  by_cases h0 : s = 0
  · subst h0; rw [clf_zero, Nat.sub_zero, zero_plus, clf_fit]; omega
  · by_cases h1 : s = t
    · subst h1; rw [Nat.sub_self, clf_zero, plus_zero, clf_fit]; omega
    · have k := cv_le (fun j => if j < t then clf F j else F t) (fun j => if j < t then clf F j else F t) t s hs
      rw [← clf_eq F t (by omega)] at k
      simp only [if_pos (show s < t by omega), if_pos (show t - s < t by omega)] at k
      exact k
/-- numbers from 0 to Inf -/
def fits2 (f : List Int) : Prop := ∀ t, t < f.length → fit (f.getD t 0) = f.getD t 0
/-! Least sums rise. -/
/-! The document's own way: by all pairs. -/
def eo (F G : Nat → Int) (m s u t : Nat) : Int := if t ≤ s ∧ s < t + u then mo (fun u => F (t + u)) G (s - t + 1) else mo (fun u => F (t + u)) G (min (s - t) m)
/-! With itself, again and again. -/
structure Mid (f g : List Int) : Prop where
  len : g.length = f.length
  zero : g.getD 0 0 = 0
  fits : fits2 g
  lo : ∀ t, t < f.length → clf (fun j => f.getD j 0) t ≤ g.getD t 0
  hi : ∀ t, 0 < t → t < f.length → g.getD t 0 ≤ fit (f.getD t 0)
theorem Mid.conv {f g : List Int} (h : Mid f g) (h0 : 0 < f.length) : Mid f (conv g g) ∧ ∀ t, t < f.length → (conv g g).getD t 0 ≤ g.getD t 0 := by
  have hl := h.len
  have hle : ∀ t, t < f.length → (YtjageagnclmnjabGreatDoor.B.conv g g).getD t 0 ≤ g.getD t 0 := fun t ht => by
    rw [conv_getD _ _ _ (by omega)]
    have := cv_le (fun j => g.getD j 0) (fun j => g.getD j 0) t t (Nat.le_refl _)
    simp only [Nat.sub_self, h.zero, plus_zero, h.fits t (by omega)] at this
    exact this
  have hfit : fits2 (YtjageagnclmnjabGreatDoor.B.conv g g) := fun t ht => by
    rw [conv_len] at ht; rw [conv_getD _ _ _ ht, cv_fit]
  refine ⟨⟨by rw [conv_len]; omega, ?_, hfit, fun t ht => ?_, fun t h0 ht => Int.le_trans (hle t ht) (h.hi t h0 ht)⟩, hle⟩
  · have h1 := hle 0 h0
    have h2 := hfit 0 (by rw [conv_len]; omega)
    have := fit_lo ((YtjageagnclmnjabGreatDoor.B.conv g g).getD 0 0)
    rw [h.zero] at h1
    omega
  · rw [conv_getD _ _ _ (by omega)]
    refine le_cv _ _ _ _ (clf_hi _ _) fun s hs => Int.le_trans (clf_parts _ t s hs) (plus_mono ?_ ?_)
    · rw [clf_fit, h.fits s (by omega)]; exact h.lo s (by omega)
    · rw [clf_fit, h.fits (t - s) (by omega)]; exact h.lo (t - s) (by omega)
/-- how much there is in all -/
def weight (g : List Int) : Nat := (g.map Int.toNat).sum
end Go.Proofs.YtjageagnclmnjabGreatDoor.B

namespace Go.Proofs.YtjageagnclmnjabGreatDoor.B
set_option maxRecDepth 100000
open Go.RowKit

theorem wrapIs (x : Int) : IntKind.i64.wrap x = wrap64 x := by rw [IntKind.wrap_i64]; unfold wrap64; rfl
theorem wrapIn {x : Int} (h : -9223372036854775808 ≤ x ∧ x ≤ 9223372036854775807) : IntKind.i64.wrap x = x := by rw [wrapIs]; exact IntWalk.wrap64_in _ h

set_option maxHeartbeats 1600000 in
theorem leastSum_any (b1 o1 n1 c1 b2 o2 n2 c2 t : Nat) (F G : Nat → Int) (w : World) (hF : ∀ j, j ≤ t → w.cell? ⟨b1, o1 + j, none⟩ = some (.int .i64 (F j))) (hG : ∀ j, j ≤ t → w.cell? ⟨b2, o2 + j, none⟩ = some (.int .i64 (G j)))
    (h1 : t < n1) (h2 : t < n2) (hb : t ≤ 17592186044416) :
    Calls Tryz.prog 31 #[.slice (some ⟨b1, o1, none⟩) n1 c1, .slice (some ⟨b2, o2, none⟩) n2 c2, .int .i64 t] w fun e w' => e = .returned (.int .i64 (cv F G t)) ∧ ∃ q, w' = w.drewN q := by
  have ht1 : IntKind.i64.wrap ((t : Int) + 1) = (t : Int) + 1 := wrapIn (by omega)
  go_enter Tryz.func31, Tryz.ntmps31
  go_wp2
  go_loopw [7, 11] (fun m i wr => ∃ k q : Nat, k ≤ t + 1 ∧ i = .int .i64 k ∧ m = .int .i64 (lsum F G t k) ∧ wr = w.drewN q) (fun _ i _ => t + 1 - (intOf i).toNat)
  case atStart => exact ⟨0, 0, Nat.zero_le _, rfl, rfl, rfl⟩
  case round =>
    obtain ⟨k, q, hk, rfl, rfl, rfl⟩ := hrel
    by_cases hlt : k < t + 1
    · obtain ⟨d, hd⟩ : ∃ d : Nat, t - k = d := ⟨_, rfl⟩
      have hdi : (t : Int) - k = (d : Int) := by omega
      have cx := hF k (by omega)
      have cy := hG d (by omega)
      have hs : Hid (lsum F G t (k + 1) = min (lsum F G t k) (plus (F k) (G d))) := by rw [← hd]; rfl
      have hl1 : (k : Int) < n1 := by omega
      have hl2 : (d : Int) < n2 := by omega
      have hwd : IntKind.i64.wrap (d : Int) = d := wrapIn (by omega)
      have hlt2 : (k : Int) < (t : Int) + 1 := by omega
      generalize F k = x at cx hs
      generalize G d = y at cy hs
      generalize lsum F G t k = m at hs ⊢
      clear hF hG hd
      go_wp2
      go_region_with (go_at_call 32; refine (plus_any _ _ _).mono ?_; rintro e w'' ⟨rfl, rfl⟩)
      all_goals
        go_wp2
        go_roundw
        case rel => exact ⟨k + 1, q + 1, by omega, by go_num, by rw [hs.out], rfl⟩
        case measure => simp [intOf]; omega
    · obtain rfl : k = t + 1 := by omega
      go_wp2
      go_ret
      exact ⟨rfl, q, rfl⟩

end Go.Proofs.YtjageagnclmnjabGreatDoor.B

namespace Go.Proofs.YtjageagnclmnjabGreatDoor.B
set_option maxRecDepth 100000
open Go.RowKit

/-- n numbers that may be written, in block O -/
structure Cells (w : World) (O n : Nat) (V : Nat → Int) : Prop where
  c : ∀ j, j < n → w.cell? ⟨O, j, none⟩ = some (.int .i64 (V j))
  fz : ∀ j, j < n → w.frozen? ⟨O, j, none⟩ = false
theorem Cells.start (w : World) (n : Nat) (V : Nat → Int) (hV : ∀ j, j < n → V j = 0) : Cells (w.alloc (.cells (madeCells #[.int .i64 0] n) 3)) w.heap.size n V := by
  refine ⟨fun j hj => ?_, fun j hj => ?_⟩
  · rw [World.cell?_alloc_at _ _ _ _ rfl, hV j hj]
    simp [madeCells, hj, Nat.mod_one]
  · rw [World.frozen?_alloc_at _ _ _ _ rfl]
theorem Cells.put {w : World} {O n : Nat} {V V' : Nat → Int} (h : Cells w O n V) {k : Nat} (hk : k < n) {v : Int} (hv : V' k = v) (hj : ∀ j, j < n → j ≠ k → V' j = V j) : Cells (w.setCell ⟨O, k, none⟩ (.int .i64 v)) O n V' := by
  refine ⟨fun j hjn => ?_, fun j hjn => ?_⟩
  · by_cases e : j = k
    · subst e; subst hv
      exact World.cell?_setCell_same _ _ _ (h.c j hk)
    · rw [World.cell?_setCell_other _ _ _ _ (fun q => e (by injection q with _ q _; exact q.symm)), hj j hjn e]
      exact h.c j hjn
  · rw [World.frozen?_setCell]; exact h.fz j hjn
theorem Cells.drewN {w : World} {O n : Nat} {V : Nat → Int} (h : Cells w O n V) (q : Nat) : Cells (w.drewN q) O n V := ⟨h.c, h.fz⟩
theorem Cells.ext {w : World} {O n : Nat} {V V' : Nat → Int} (h : Cells w O n V) (e : ∀ j, j < n → V' j = V j) : Cells w O n V' := ⟨fun j hj => by rw [e j hj]; exact h.c j hj, h.fz⟩
theorem Cells.row {w : World} {O n : Nat} {f : Nat → Int} (h : Cells w O n f) : Row w (some ⟨O, 0, none⟩) (outs f n) := .inr ⟨O, 0, rfl, fun j hj => by
  rw [outs_len] at hj
  rw [Nat.zero_add, outs_getD _ _ _ hj]; exact h.c j hj⟩
/-- the first k are there -/
def fill (f : Nat → Int) (k j : Nat) : Int := if j < k then f j else 0
theorem fill_new (f : Nat → Int) (k : Nat) : fill f (k + 1) k = f k := by unfold fill; rw [if_pos (by omega)]
theorem fill_old (f : Nat → Int) (k j : Nat) (h : j ≠ k) : fill f (k + 1) j = fill f k j := by
  unfold fill
  by_cases e : j < k
  · rw [if_pos e, if_pos (by omega)]
  · rw [if_neg e, if_neg (by omega)]
theorem fill_all (f : Nat → Int) (n j : Nat) (h : j < n) : fill f n j = f j := by unfold fill; rw [if_pos h]

theorem Cells.done {w wr : World} {n : Nat} {f : Nat → Int} (h : Cells wr w.heap.size n f) (hb : Below w.heap.size w wr) : Ans w (outs f n) (.returned (.slice (some ⟨w.heap.size, 0, none⟩) n n)) wr :=
  ⟨_, n, by rw [outs_len], by rw [outs_len]; exact Nat.le_refl _, h.row, hb⟩
theorem cells_kept {w wr : World} {b o n : Nat} {F : Nat → Int} (h : ∀ j, j < n → w.cell? ⟨b, o + j, none⟩ = some (.int .i64 (F j))) (hb : Below w.heap.size w wr) (j : Nat) (hj : j < n) : wr.cell? ⟨b, o + j, none⟩ = some (.int .i64 (F j)) :=
  (hb.cell (p := ⟨b, o + j, none⟩) (block_lt (h j hj))).trans (h j hj)

set_option maxHeartbeats 1600000 in
theorem conv_any (a1 a2 : Option Addr) (c1 c2 : Nat) (f g : List Int) (w : World) (k1 : Row w a1 f) (k2 : Row w a2 g) (h1 : f.length ≤ 17592186044416) (h2 : g.length ≤ 17592186044416) :
    Calls Tryz.prog 13 #[.slice a1 f.length c1, .slice a2 g.length c2] w (Ans w (conv f g)) := by
  obtain ⟨m, hm⟩ : ∃ m, min f.length g.length = m := ⟨_, rfl⟩
  have hmi : min (f.length : Int) (g.length : Int) = (m : Int) := by omega
  have hm1 : m ≤ f.length := by omega
  have hm2 : m ≤ g.length := by omega
  unfold conv
  rw [hm]
  clear hm
  generalize hH : cv (fun j => f.getD j 0) (fun j => g.getD j 0) = H
  have HH : Hid (cv (fun j => f.getD j 0) (fun j => g.getD j 0) = H) := hH
  clear hH
  have hmk := run_make_row' (P := Tryz.prog) 24 3 (.int .i64 0) 8 Tryz.underlying24 Tryz.info3 rfl .i64 .i64 m (by omega) (by omega)
  have hst : Cells (w.alloc (.cells (madeCells #[.int .i64 0] m) 3)) w.heap.size m (fill H 0) := Cells.start w m _ fun j _ => rfl
  have hB0 : Below w.heap.size w (w.alloc (.cells (madeCells #[.int .i64 0] m) 3)) := balloc (Below.refl _ _) _
  go_enter Tryz.func13, Tryz.ntmps13
  go_wp2
  go_loopw [15] (fun i wr => ∃ k : Nat, k ≤ m ∧ i = .int .i64 k ∧ Cells wr w.heap.size m (fill H k) ∧ Below w.heap.size w wr) (fun i _ => m - (intOf i).toNat)
  case atStart => exact ⟨0, Nat.zero_le _, rfl, hst, hB0⟩
  case round =>
    obtain ⟨k, hk, rfl, hC, hB⟩ := hrel
    clear hst hB0
    by_cases hlt : k < m
    · obtain ⟨b1, o1, rfl, e1⟩ := k1.at (by omega)
      obtain ⟨b2, o2, rfl, e2⟩ := k2.at (by omega)
      have hs := leastSum_any b1 o1 f.length c1 b2 o2 g.length c2 k (fun j => f.getD j 0) (fun j => g.getD j 0) wr (fun j hj => cells_kept (F := fun j => f.getD j 0) e1 hB j (by omega)) (fun j hj => cells_kept (F := fun j => g.getD j 0) e2 hB j (by omega)) (by omega) (by omega) (by omega)
      rw [HH.out] at hs
      have cc := hC.c k hlt
      have cf := hC.fz k hlt
      have hN := fun q => (hC.drewN q).put (V' := fill H (k + 1)) hlt (fill_new H k) (fun j _ hj => fill_old H k j hj)
      have hltI : (k : Int) < m := by omega
      clear e1 e2 k1 k2 hmk
      generalize H k = y at hs hN
      go_wp2_with (go_at_call 31; refine hs.mono ?_; rintro e w'' ⟨rfl, q, rfl⟩; clear hs)
      go_roundw
      case rel => exact ⟨k + 1, by omega, by go_num, hN q, (below_drewN hB q).setCell (p := ⟨w.heap.size, k, none⟩) (Nat.le_refl _) _⟩
      case measure => simp [intOf]; omega
    · obtain rfl : k = m := by omega
      go_wp2
      go_ret
      exact (hC.ext fun j hj => (fill_all H k j hj).symm).done hB

end Go.Proofs.YtjageagnclmnjabGreatDoor.B

namespace Go.Proofs.YtjageagnclmnjabGreatDoor.B
set_option maxRecDepth 100000
set_option linter.unusedVariables false
set_option linter.unusedSectionVars false

/-- a number from 0 to Most -/
def inr (x : Int) : Prop := 0 ≤ x ∧ x ≤ 1099511627776
instance (x : Int) : Decidable (inr x) := inferInstanceAs (Decidable (_ ∧ _))
def allIn (s : List Int) : Prop := ∀ j, j < s.length → inr (s.getD j 0)
instance (s : List Int) : Decidable (allIn s) := inferInstanceAs (Decidable (∀ j, j < s.length → inr (s.getD j 0)))
def bright (R B : Int) (s : List Int) : Prop := inr R ∧ inr B ∧ s.length < 300 ∧ allIn s
instance (R B : Int) (s : List Int) : Decidable (bright R B s) := inferInstanceAs (Decidable (_ ∧ _ ∧ _ ∧ _))

/-- the line at tick t -/
def lf (R B : Int) (t : Nat) : Int := if t = 0 then 0 else B + ((t : Int) - 1) * min R B
theorem lf_zero (R B : Int) : lf R B 0 = 0 := rfl
theorem lf_succ (R B : Int) (t : Nat) : lf R B (t + 1) = B + (t : Int) * min R B := by
  unfold lf
  rw [if_neg (by omega)]
  congr 2
  omega
theorem lf_next (R B : Int) (t : Nat) : lf R B (t + 1 + 1) = lf R B (t + 1) + min R B := by
  rw [lf_succ, lf_succ]
  have : ((t + 1 : Nat) : Int) * min R B = (t : Int) * min R B + min R B := by
    rw [show ((t + 1 : Nat) : Int) = (t : Int) + 1 by omega, Int.add_mul, Int.one_mul]
  omega
theorem lf_up {R B : Int} (hR : inr R) (hB : inr B) (t : Nat) : lf R B t ≤ lf R B (t + 1) := by
  unfold inr at *
  cases t with
  | zero => rw [lf_zero, lf_succ]; simp; omega
  | succ t => rw [lf_next]; omega
theorem lf_lo {R B : Int} (hR : inr R) (hB : inr B) (t : Nat) : 0 ≤ lf R B t := by
  induction t with
  | zero => exact Int.le_refl _
  | succ t ih => exact Int.le_trans ih (lf_up hR hB t)
theorem lf_hi {R B : Int} (hR : inr R) (hB : inr B) (t : Nat) : lf R B t ≤ t * 1099511627776 := by
  unfold inr at *
  induction t with
  | zero => simp [lf]
  | succ t ih =>
    cases t with
    | zero => rw [lf_succ]; simp; omega
    | succ t => rw [lf_next]; omega
theorem lf_top {R B : Int} (hR : inr R) (hB : inr B) (t : Nat) (h : t ≤ 300) : lf R B t ≤ 329853488332800 := by
  have := lf_hi hR hB t; omega
theorem lf_sub {R B : Int} (hR : inr R) (hB : inr B) (a b : Nat) : lf R B (a + b) ≤ lf R B a + lf R B b := by
  induction b with
  | zero => rw [Nat.add_zero, lf_zero]; omega
  | succ b ih =>
    cases a with
    | zero => rw [Nat.zero_add, lf_zero]; omega
    | succ a =>
      cases b with
      | zero =>
        have : lf R B (0 + 1) = B := by rw [lf_succ]; simp
        rw [this, show a + 1 + (0 + 1) = a + 1 + 1 by omega, lf_next]
        omega
      | succ b =>
        rw [show a + 1 + (b + 1 + 1) = (a + 1 + b) + 1 + 1 by omega, lf_next, lf_next]
        rw [show a + 1 + (b + 1) = a + 1 + b + 1 by omega] at ih
        omega

/-- plain sums -/
def acc (F : Nat → Int) : Nat → Int
  | 0 => 0
  | k + 1 => acc F k + F k
theorem acc_inj {F G : Nat → Int} {n : Nat} (h : ∀ t, t ≤ n → acc F t = acc G t) (j : Nat) (hj : j < n) : F j = G j := by
  have h1 := h j (by omega)
  have h2 := h (j + 1) (by omega)
  simp only [acc] at h2
  omega
theorem acc_ext {F G : Nat → Int} (k : Nat) (h : ∀ j, j < k → F j = G j) : acc F k = acc G k := by
  induction k with
  | zero => rfl
  | succ k ih => simp only [acc]; rw [ih fun j hj => h j (by omega), h k (by omega)]
theorem acc_lo {F : Nat → Int} {n : Nat} (h : ∀ j, j < n → inr (F j)) (k : Nat) (hk : k ≤ n) : 0 ≤ acc F k ∧ acc F k ≤ k * 1099511627776 := by
  induction k with
  | zero => simp [acc]
  | succ k ih =>
    have := ih (by omega)
    have := h k (by omega)
    unfold inr at *
    simp only [acc]
    omega
theorem plus_small {a b : Int} (h0 : 0 ≤ a) (h1 : 0 ≤ b) (h2 : a + b ≤ 1152921504606846976) : plus a b = a + b := by
  unfold plus; rw [fit_of a h0 (by omega), fit_of b h1 (by omega), fit_of _ (by omega) h2]
theorem psum_acc {F : Nat → Int} {n : Nat} (hn : n ≤ 300) (h : ∀ j, j < n → inr (F j)) (k : Nat) (hk : k ≤ n) : psum F k = acc F k := by
  induction k with
  | zero => rfl
  | succ k ih =>
    simp only [psum, acc]
    rw [ih (by omega)]
    have := acc_lo h k (by omega)
    have := h k (by omega)
    unfold inr at *
    exact plus_small (by omega) (by omega) (by omega)

/-- waits, and what the bucket holds, ahead of tick t -/
def st (R B : Int) (F : Nat → Int) : Nat → Int × Int
  | 0 => (0, B)
  | t + 1 => ((st R B F t).1 + F t - min ((st R B F t).1 + F t) (st R B F t).2, min ((st R B F t).2 - min ((st R B F t).1 + F t) (st R B F t).2 + R) B)
def wa (R B : Int) (F : Nat → Int) (t : Nat) : Int := (st R B F t).1
def ho (R B : Int) (F : Nat → Int) (t : Nat) : Int := (st R B F t).2
def go (R B : Int) (F : Nat → Int) (t : Nat) : Int := min (wa R B F t + F t) (ho R B F t)
theorem wa_zero (R B : Int) (F : Nat → Int) : wa R B F 0 = 0 := rfl
theorem ho_zero (R B : Int) (F : Nat → Int) : ho R B F 0 = B := rfl
theorem wa_succ (R B : Int) (F : Nat → Int) (t : Nat) : wa R B F (t + 1) = wa R B F t + F t - go R B F t := rfl
theorem ho_succ (R B : Int) (F : Nat → Int) (t : Nat) : ho R B F (t + 1) = min (ho R B F t - go R B F t + R) B := rfl
def pass (R B : Int) (s : List Int) : List Int := outs (go R B fun j => s.getD j 0) s.length
section
variable {R B : Int} {F : Nat → Int} {n : Nat} (hR : inr R) (hB : inr B) (hF : ∀ j, j < n → inr (F j))
include hR hB hF
theorem st_in (t : Nat) (ht : t ≤ n) : 0 ≤ wa R B F t ∧ 0 ≤ ho R B F t ∧ ho R B F t ≤ B := by
  unfold inr at *
  induction t with
  | zero => rw [wa_zero, ho_zero]; omega
  | succ t ih =>
    have := ih (by omega)
    have := hF t (by omega)
    rw [wa_succ, ho_succ]
    unfold go
    omega
theorem go_in (t : Nat) (ht : t < n) : inr (go R B F t) := by
  have := st_in hR hB hF t (by omega)
  have := hF t ht
  unfold inr go at *
  omega
theorem wa_acc (t : Nat) (ht : t ≤ n) : wa R B F t = acc F t - acc (go R B F) t := by
  induction t with
  | zero => rfl
  | succ t ih => rw [wa_succ, ih (by omega)]; simp only [acc]; omega
theorem wa_top (t : Nat) (ht : t ≤ n) (hn : n ≤ 300) : wa R B F t ≤ 329853488332800 := by
  rw [wa_acc hR hB hF t ht]
  have := acc_lo hF t ht
  have := acc_lo (go_in hR hB hF) t ht
  omega
theorem ho_le (t : Nat) (ht : t ≤ n) (u : Nat) (hu : u ≤ t) : ho R B F t + acc (go R B F) t ≤ acc (go R B F) u + lf R B (t - u + 1) := by
  induction t with
  | zero =>
    obtain rfl : u = 0 := by omega
    rw [ho_zero, lf_succ]; simp; omega
  | succ t ih =>
    have s := st_in hR hB hF t (by omega)
    have := hF t (by omega)
    rw [ho_succ]
    by_cases e : u = t + 1
    · subst e
      rw [Nat.sub_self, lf_succ]; simp; omega
    · have k := ih (by omega) (by omega)
      rw [show t + 1 - u + 1 = t - u + 1 + 1 by omega, lf_next]
      have : go R B F t ≤ ho R B F t := by unfold go; omega
      unfold inr at *
      simp only [acc]
      omega
theorem ho_is (t : Nat) (ht : t ≤ n) : ∃ u, u ≤ t ∧ ho R B F t + acc (go R B F) t = acc (go R B F) u + lf R B (t - u + 1) := by
  induction t with
  | zero => exact ⟨0, Nat.le_refl _, by rw [ho_zero, lf_succ]; simp; omega⟩
  | succ t ih =>
    obtain ⟨u, hu, k⟩ := ih (by omega)
    have s := st_in hR hB hF t (by omega)
    have g : go R B F t ≤ ho R B F t := by unfold go; omega
    unfold inr at *
    by_cases c : ho R B F t - go R B F t + min R B ≤ B
    · refine ⟨u, by omega, ?_⟩
      rw [show t + 1 - u + 1 = t - u + 1 + 1 by omega, lf_next, ho_succ]
      simp only [acc]
      omega
    · refine ⟨t + 1, Nat.le_refl _, ?_⟩
      rw [Nat.sub_self, lf_succ, ho_succ]
      simp
      omega
theorem sum_le (t : Nat) (ht : t ≤ n) : acc (go R B F) t ≤ acc F t := by
  have := wa_acc hR hB hF t ht
  have := (st_in hR hB hF t ht).1
  omega
theorem sum_keeps (t : Nat) (ht : t ≤ n) (u : Nat) (hu : u ≤ t) : acc (go R B F) t ≤ acc (go R B F) u + lf R B (t - u) := by
  by_cases e : u = t
  · subst e; rw [Nat.sub_self, lf_zero]; omega
  · obtain ⟨v, rfl⟩ : ∃ v, t = v + 1 := ⟨t - 1, by omega⟩
    have := ho_le hR hB hF v (by omega) u (by omega)
    rw [show v + 1 - u = v - u + 1 by omega]
    have g : go R B F v ≤ ho R B F v := by unfold go; omega
    simp only [acc]
    omega
theorem sum_is (t : Nat) (ht : t + 1 ≤ n) : acc (go R B F) (t + 1) = acc F (t + 1) ∨ ∃ u, u ≤ t ∧ acc (go R B F) (t + 1) = acc (go R B F) u + lf R B (t + 1 - u) := by
  have hw := wa_acc hR hB hF t (by omega)
  by_cases c : wa R B F t + F t ≤ ho R B F t
  · left
    simp only [acc]
    unfold go at *
    rw [Int.min_eq_left c]; omega
  · right
    obtain ⟨u, hu, k⟩ := ho_is hR hB hF t (by omega)
    refine ⟨u, hu, ?_⟩
    rw [show t + 1 - u = t - u + 1 by omega]
    have g : go R B F t = ho R B F t := by unfold go; omega
    simp only [acc]
    omega
/-- nobody lets more through -/
theorem greedy {G : Nat → Int} (h1 : ∀ t, t ≤ n → acc G t ≤ acc F t) (h2 : ∀ t, t ≤ n → ∀ u, u ≤ t → acc G t ≤ acc G u + lf R B (t - u)) (t : Nat) (ht : t ≤ n) : acc G t ≤ acc (go R B F) t := by
  induction t using Nat.strongRecOn with
  | ind t ih =>
    cases t with
    | zero => exact Int.le_refl _
    | succ t =>
      rcases sum_is hR hB hF t ht with e | ⟨u, hu, e⟩
      · rw [e]; exact h1 _ ht
      · rw [e]
        have := ih u (by omega) (by omega)
        have := h2 (t + 1) ht u (by omega)
        omega
/-- what goes in all is what comes in all, with the line, in least sums -/
theorem sum_cv (hn : n ≤ 300) {A L : Nat → Int} (hA : ∀ j, j ≤ n → A j = acc F j) (hL : ∀ j, j ≤ n → L j = lf R B j) (t : Nat) (ht : t ≤ n) : cv A L t = acc (go R B F) t := by
  have hs : ∀ s v, s ≤ n → v ≤ n → plus (A s) (L v) = acc F s + lf R B v := fun s v h1 h2 => by
    rw [hA s h1, hL v h2]
    have := acc_lo hF s h1
    have := lf_lo hR hB v
    have := lf_top hR hB v (by omega)
    exact plus_small (by omega) (by omega) (by omega)
  have hg := fun t ht => acc_lo (go_in hR hB hF) t ht
  induction t using Nat.strongRecOn with
  | ind t ih =>
    apply Int.le_antisymm
    · cases t with
      | zero =>
        have := cv_le A L 0 0 (Nat.le_refl _)
        rw [hs _ _ (by omega) (by omega)] at this
        exact this
      | succ t =>
        rcases sum_is hR hB hF t ht with e | ⟨u, hu, e⟩
        · rw [e]
          have := cv_le A L (t + 1) (t + 1) (Nat.le_refl _)
          rw [hs _ _ (by omega) (by omega), Nat.sub_self, lf_zero] at this
          omega
        · rw [e]
          have iu := ih u (by omega) (by omega)
          rcases cv_at A L u with k | ⟨s, hsu, k⟩
          · have := hg u (by omega); omega
          · rw [hs _ _ (by omega) (by omega)] at k
            have c := cv_le A L (t + 1) s (by omega)
            rw [hs _ _ (by omega) (by omega)] at c
            have := lf_sub hR hB (u - s) (t + 1 - u)
            rw [show u - s + (t + 1 - u) = t + 1 - s by omega] at this
            omega
    · refine le_cv _ _ _ _ (by have := hg t ht; omega) fun s hst => ?_
      rw [hs _ _ (by omega) (by omega)]
      have := sum_keeps hR hB hF t ht s hst
      have := sum_le hR hB hF s (by omega)
      omega
end

/-- its sums keep to the line -/
def keepsTo (R B : Int) (F : Nat → Int) (n : Nat) : Prop := ∀ t, t ≤ n → ∀ u, u ≤ t → acc F t ≤ acc F u + lf R B (t - u)

/-! Rows. -/
def line (R B : Int) (n : Nat) : List Int := if inr R ∧ inr B then outs (lf R B) n else []
theorem line_right {R B : Int} (hR : inr R) (hB : inr B) (n : Nat) : line R B n = outs (lf R B) n := by unfold line; rw [if_pos ⟨hR, hB⟩]
theorem line_len {R B : Int} (hR : inr R) (hB : inr B) (n : Nat) : (line R B n).length = n := by rw [line_right hR hB, outs_len]
theorem line_getD {R B : Int} (hR : inr R) (hB : inr B) (n j : Nat) (h : j < n) : (line R B n).getD j 0 = lf R B j := by rw [line_right hR hB, outs_getD _ _ _ h]
def keeps (R B : Int) (s : List Int) : Prop := bright R B s ∧ below (of s) (conv (of s) (line R B (s.length + 1)))
instance (R B : Int) (s : List Int) : Decidable (keeps R B s) := inferInstanceAs (Decidable (_ ∧ _))
def let' (R B : Int) (s : List Int) : List Int := if bright R B s then pass R B s else []
theorem of_getD {R B : Int} {s : List Int} (h : bright R B s) (t : Nat) (ht : t ≤ s.length) : (of s).getD t 0 = acc (fun j => s.getD j 0) t := by
  rw [of, outs_getD _ _ _ (by omega)]
  exact psum_acc (n := s.length) (Nat.le_of_lt h.2.2.1) h.2.2.2 t ht
theorem go_ext {R B : Int} {F G : Nat → Int} (j : Nat) (h : ∀ i, i ≤ j → F i = G i) : go R B F j = go R B G j ∧ st R B F j = st R B G j := by
  induction j with
  | zero => exact ⟨by unfold go wa ho st; rw [h 0 (by omega)], rfl⟩
  | succ j ih =>
    have k := (ih fun i hi => h i (by omega)).2
    have e : st R B F (j + 1) = st R B G (j + 1) := by simp only [st]; rw [k, h j (by omega)]
    exact ⟨by unfold go wa ho; rw [e, h (j + 1) (by omega)], e⟩
/-! A line is never more than its parts. -/
/-! The document's own way. -/
/-- the most that may go at tick t: by what went ahead -/
def may (R B : Int) (D : Nat → Int) (w : Int) (t : Nat) : Nat → Int
  | 0 => w
  | k + 1 => min (may R B D w t k) (B + (k : Int) * min R B - (D t - D (t - k)))
end Go.Proofs.YtjageagnclmnjabGreatDoor.B
