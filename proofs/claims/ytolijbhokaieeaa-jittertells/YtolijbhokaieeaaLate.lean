/- PROVED: packets that are late, but in order, on plain integers: which rows are right, when each comes, by how much it is late. CONDITIONS: none beyond each theorem's own. -/
import Derived.Test.YtolijbhokaieeaaPure
import Derived.WalkKit
import Derived.WalkLawsBesides
namespace Go.Proofs.Ytolijbhokaieeaa
open Go.RowKit

/-- a number from 0 to Most -/
def inr (x : Int) : Prop := 0 ≤ x ∧ x ≤ 1099511627776
instance (x : Int) : Decidable (inr x) := inferInstanceAs (Decidable (_ ∧ _))
def allIn (z : List Int) : Prop := ∀ j, j < z.length → inr (z.getD j 0)
instance (z : List Int) : Decidable (allIn z) := inferInstanceAs (Decidable (∀ j, j < z.length → inr (z.getD j 0)))
/-- never falls, of whatever length -/
def jright (t l : List Int) : Prop := t.length = l.length ∧ up t ∧ allIn t ∧ allIn l
instance (t l : List Int) : Decidable (jright t l) := inferInstanceAs (Decidable (_ ∧ _ ∧ _ ∧ _))

/-- the greatest of the first k -/
def pk (t l : List Int) : Nat → Int
  | 0 => 0
  | k + 1 => max (pk t l k) (t.getD k 0 + l.getD k 0)
def passed (t l : List Int) (k : Nat) : Int := pk t l (k + 1)
theorem passed_zero (t l : List Int) : passed t l 0 = max 0 (t.getD 0 0 + l.getD 0 0) := rfl
theorem passed_succ (t l : List Int) (k : Nat) : passed t l (k + 1) = max (passed t l k) (t.getD (k + 1) 0 + l.getD (k + 1) 0) := rfl
def pass (t l : List Int) : List Int := if jright t l then outs (passed t l) t.length else []
theorem pass_yes {t l : List Int} (h : jright t l) : pass t l = outs (passed t l) t.length := if_pos h
theorem pass_no {t l : List Int} (h : ¬ jright t l) : pass t l = [] := if_neg h
theorem pass_len {t l : List Int} (h : jright t l) : (pass t l).length = t.length := by rw [pass_yes h, outs_len]
theorem pass_at {t l : List Int} (h : jright t l) (k : Nat) (hk : k < t.length) : (pass t l).getD k 0 = passed t l k := by rw [pass_yes h, outs_getD _ _ _ hk]

theorem pk_in {t l : List Int} (h : jright t l) (k : Nat) (hk : k ≤ t.length) : 0 ≤ pk t l k ∧ pk t l k ≤ 2199023255552 := by
  induction k with
  | zero => exact ⟨Int.le_refl _, by show (0 : Int) ≤ _; omega⟩
  | succ k ih =>
    have := ih (by omega)
    have a := h.2.2.1 k (by omega)
    have b := h.2.2.2 k (by have := h.1; omega)
    unfold inr at a b
    show 0 ≤ max _ _ ∧ max _ _ ≤ _
    omega
theorem passed_in {t l : List Int} (h : jright t l) (k : Nat) (hk : k < t.length) : 0 ≤ passed t l k ∧ passed t l k ≤ 2199023255552 := pk_in h (k + 1) hk
theorem passed_up (t l : List Int) (k : Nat) : passed t l k ≤ passed t l (k + 1) := by
  show passed t l k ≤ max (passed t l k) _
  omega
theorem passed_lo (t l : List Int) (k : Nat) : t.getD k 0 + l.getD k 0 ≤ passed t l k := by
  show _ ≤ max _ _
  omega
theorem pass_up {t l : List Int} (h : jright t l) : up (pass t l) := by
  intro j hj
  rw [pass_len h] at hj
  rw [pass_at h j (by omega), pass_at h (j + 1) (by omega)]
  exact passed_up _ _ _

/-- nobody is later than the latest one -/
theorem passed_hi {t l : List Int} (h : jright t l) {M : Int} (hM : ∀ j, j < l.length → l.getD j 0 ≤ M) (k : Nat) (hk : k < t.length) : passed t l k ≤ t.getD k 0 + M := by
  have h1 := h.1
  induction k with
  | zero =>
    have a := h.2.2.1 0 (by omega)
    have b := h.2.2.2 0 (by omega)
    have c := hM 0 (by omega)
    unfold inr at a b
    rw [passed_zero]
    omega
  | succ k ih =>
    have := ih (by omega)
    have c := hM (k + 1) (by omega)
    have u := h.2.1 k (by omega)
    rw [passed_succ]
    omega
theorem late_in {t l : List Int} (h : jright t l) {M : Int} (hM : ∀ j, j < l.length → l.getD j 0 ≤ M) (k : Nat) (hk : k < t.length) : l.getD k 0 ≤ passed t l k - t.getD k 0 ∧ passed t l k - t.getD k 0 ≤ M := by
  have := passed_lo t l k
  have := passed_hi h hM k hk
  omega

/-- by how much they came later -/
def dl (t c : List Int) : List Int := outs (fun k => wrap64 (c.getD k 0 - t.getD k 0)) (min t.length c.length)
theorem dl_len (t c : List Int) : (dl t c).length = min t.length c.length := outs_len _ _
theorem dl_at (t c : List Int) (k : Nat) (hk : k < min t.length c.length) : (dl t c).getD k 0 = wrap64 (c.getD k 0 - t.getD k 0) := outs_getD _ _ _ hk
theorem dl_pass {t l : List Int} (h : jright t l) (k : Nat) (hk : k < t.length) : (dl t (pass t l)).getD k 0 = passed t l k - t.getD k 0 := by
  rw [dl_at _ _ _ (by rw [pass_len h]; omega), pass_at h k hk]
  have := passed_in h k hk
  have a := h.2.2.1 k hk
  unfold inr at a
  exact IntWalk.wrap64_in _ (by omega)

/-- who is nowhere late changes nothing -/
theorem pass_still {p b : List Int} (h : jright p b) : pass p (outs (fun _ => 0) p.length) = p := by
  have hz : jright p (outs (fun _ => 0) p.length) := by
    refine ⟨by rw [outs_len], h.2.1, h.2.2.1, fun j hj => ?_⟩
    rw [outs_len] at hj
    rw [outs_getD _ _ _ hj]
    unfold inr; omega
  refine list_ext (pass_len hz) fun k hk => ?_
  rw [pass_len hz] at hk
  rw [pass_at hz k hk]
  induction k with
  | zero =>
    rw [passed_zero, outs_getD _ _ _ hk]
    have a := h.2.2.1 0 hk
    unfold inr at a
    omega
  | succ k ih =>
    rw [passed_succ, outs_getD _ _ _ hk, ih (by omega)]
    have u := h.2.1 k (by omega)
    omega

/-- twice: as late as both say at least -/
theorem passed_twice {t a b : List Int} (h : jright t a) (k : Nat) (hk : k < t.length) : t.getD k 0 + a.getD k 0 + b.getD k 0 ≤ passed (pass t a) b k := by
  have x := passed_lo (pass t a) b k
  rw [pass_at h k hk] at x
  have y := passed_lo t a k
  omega

/-- all that are sent so much later -/
def moved (t : List Int) (d : Int) : List Int := outs (fun k => wrap64 (t.getD k 0 + d)) t.length
theorem moved_len (t : List Int) (d : Int) : (moved t d).length = t.length := outs_len _ _
theorem moved_at {t l : List Int} (h : jright t l) {d : Int} (h0 : 0 ≤ d) (h1 : d ≤ 549755813888) (k : Nat) (hk : k < t.length) : (moved t d).getD k 0 = t.getD k 0 + d := by
  unfold moved
  rw [outs_getD _ _ _ hk]
  have a := h.2.2.1 k hk
  unfold inr at a
  exact IntWalk.wrap64_in _ (by omega)
theorem passed_later {t l : List Int} (h : jright t l) {d : Int} (h0 : 0 ≤ d) (h1 : d ≤ 549755813888) (k : Nat) (hk : k < t.length) : passed (moved t d) l k = passed t l k + d := by
  have e := h.1
  induction k with
  | zero =>
    rw [passed_zero, passed_zero, moved_at h h0 h1 0 hk]
    have a := h.2.2.1 0 hk
    have b := h.2.2.2 0 (by omega)
    unfold inr at a b
    omega
  | succ k ih =>
    rw [passed_succ, passed_succ, moved_at h h0 h1 (k + 1) hk, ih (by omega)]
    omega

end Go.Proofs.Ytolijbhokaieeaa
