/- PROVED: how rows of integers lie in memory, what keeps them. what the small functions answer: num's, the document's own, those that are handed on. CONDITIONS: none. what it is to answer a row; rows that grow by append. packets that are late, but in order, on plain integers: which rows are right, when each comes, by how much it is late. CONDITIONS: none beyond each theorem's own. -/
import Derived.Test.YtjageagnclmnjabGreatDoorRows
import Derived.Test.YtjageagnclmnjabGreatDoorC47JPure
import Derived.WalkKit
import Derived.Lib.MinMax
import Derived.Lib.SlicesMore
import Derived.Deep.Draws
import Derived.WalkSpells
import Derived.WalkLawsBesides
import Derived.Deep.QuietTactic
import Derived.BigQuiet
import Derived.ArgAppend
import Derived.Deep.LoopGhost
import Derived.Deep.OwnRows
section
namespace Go.Proofs.YtjageagnclmnjabGreatDoor.J
set_option maxRecDepth 100000
open Go.RowKit

theorem ret_int {k : IntKind} {a b : Int} (h : a = b) : Ending.returned (.int k a) = .returned (.int k b) := by rw [h]

theorem below_drewN {B : Nat} {w w1 : World} (h : Below B w w1) (n : Nat) : Below B w (w1.drewN n) := by
  induction n with
  | zero => exact h
  | succ n ih => exact Below.drew ih

theorem Tryz.info3 : (Tryz.prog.info? 3).map (fun i => (i.zero, i.size, i.bytes)) = some (some (.int .i64 0), 1, 8) := by kernel_rfl

/-- a slice that holds zs -/
def Row (w : World) (ao : Option Addr) (zs : List Int) : Prop :=
  zs = [] ∨ ∃ b off, ao = some ⟨b, off, none⟩ ∧ ∀ j, j < zs.length → w.cell? ⟨b, off + j, none⟩ = some (.int .i64 (zs.getD j 0))

theorem block_lt {w : World} {a : Addr} {v : Value} (h : w.cell? a = some v) : a.block < w.heap.size := by
  rcases Nat.lt_or_ge a.block w.heap.size with k | k
  · exact k
  · simp [World.cell?, Array.getElem?_eq_none k] at h

theorem Row.kept {w w' : World} {ao : Option Addr} {zs : List Int} (h : Row w ao zs) (b : Below w.heap.size w w') : Row w' ao zs := by
  rcases h with h | ⟨g, off, rfl, h⟩
  · exact .inl h
  · exact .inr ⟨g, off, rfl, fun j hj => (b.cell (p := ⟨g, off + j, none⟩) (block_lt (h j hj))).trans (h j hj)⟩

/-- one of its numbers is there -/
theorem Row.at {w : World} {ao : Option Addr} {zs : List Int} (h : Row w ao zs) (hp : 0 < zs.length) : ∃ b off, ao = some ⟨b, off, none⟩ ∧ ∀ j, j < zs.length → w.cell? ⟨b, off + j, none⟩ = some (.int .i64 (zs.getD j 0)) := by
  rcases h with e | e
  · subst e; simp at hp
  · exact e

theorem bthen {w w1 w2 : World} (h : Below w.heap.size w w1) (k : Below w1.heap.size w1 w2) : Below w.heap.size w w2 := h.trans (k.mono h.size)
theorem balloc {w w1 : World} (h : Below w.heap.size w w1) (o : Obj) : Below w.heap.size w (w1.alloc o) := h.alloc h.size o
theorem Row.alloc {w : World} {ao : Option Addr} {zs : List Int} (h : Row w ao zs) (o : Obj) : Row (w.alloc o) ao zs := h.kept (balloc (Below.refl _ _) o)
theorem Row.drewN {w : World} {ao : Option Addr} {zs : List Int} (h : Row w ao zs) (n : Nat) : Row (w.drewN n) ao zs := h

theorem getD_snoc_old (R : List Int) (v : Int) (j : Nat) (h : j < R.length) : (R ++ [v]).getD j 0 = R.getD j 0 := by
  rw [List.getD_eq_getElem?_getD, List.getD_eq_getElem?_getD, List.getElem?_append_left h]
theorem getD_snoc_new (R : List Int) (v : Int) (j : Nat) (h : j = R.length) : (R ++ [v]).getD j 0 = v := by
  subst h; simp [List.getD_eq_getElem?_getD]

/-- what has been answered so far, in block O, that was made for n numbers -/
structure Out (w : World) (O n : Nat) (R : List Int) : Prop where
  c : ∀ j, j < R.length → w.cell? ⟨O, j, none⟩ = some (.int .i64 (R.getD j 0))
  room : ∀ j, j < n → (w.cell? ⟨O, j, none⟩).isSome = true ∧ w.frozen? ⟨O, j, none⟩ = false

theorem Out.put {w : World} {O n : Nat} {R : List Int} (h : Out w O n R) (hk : R.length < n) (v : Int) : Out (w.setCell ⟨O, R.length, none⟩ (.int .i64 v)) O n (R ++ [v]) := by
  refine ⟨fun j hj => ?_, fun j hj => ?_⟩
  · by_cases e : j = R.length
    · subst e
      rw [getD_snoc_new _ _ _ rfl]
      obtain ⟨u, hu⟩ := Option.isSome_iff_exists.1 (h.room R.length hk).1
      exact World.cell?_setCell_same _ _ _ hu
    · have hj' : j < R.length := by simp at hj; omega
      rw [getD_snoc_old _ _ _ hj', World.cell?_setCell_other _ _ _ _ (fun q => e (by injection q with _ q _; exact q.symm))]
      exact h.c j hj'
  · rw [World.frozen?_setCell]
    refine ⟨?_, (h.room j hj).2⟩
    by_cases e : j = R.length
    · subst e
      obtain ⟨u, hu⟩ := Option.isSome_iff_exists.1 (h.room R.length hk).1
      rw [World.cell?_setCell_same _ _ _ hu]; rfl
    · rw [World.cell?_setCell_other _ _ _ _ (fun q => e (by injection q with _ q _; exact q.symm))]
      exact (h.room j hj).1

theorem Out.drewN {w : World} {O n : Nat} {R : List Int} (h : Out w O n R) (q : Nat) : Out (w.drewN q) O n R := ⟨h.c, h.room⟩
theorem Out.row {w : World} {O n : Nat} {R : List Int} (h : Out w O n R) : Row w (some ⟨O, 0, none⟩) R := .inr ⟨O, 0, rfl, fun j hj => by rw [Nat.zero_add]; exact h.c j hj⟩

theorem owned_row {w : World} {base : Nat} {t : Value} {R : List Int} (h : w.ownsRow base 3 1 t R.length (R.map (Value.int .i64))) : ∃ ao cap, t = .slice ao R.length cap ∧ Row w ao R := by
  obtain ⟨hl, ⟨e, e2⟩ | ⟨g, cap, cur, e, _, hh, _, _, _, htk⟩⟩ := h
  · have hR : R = [] := List.eq_nil_of_length_eq_zero e2
    subst hR
    exact ⟨none, 0, e, .inl rfl⟩
  · refine ⟨_, cap, e, .inr ⟨g, 0, rfl, fun j hj => ?_⟩⟩
    have : (R.map (Value.int .i64))[j]? = some (.int .i64 (R.getD j 0)) := by simp [List.getD_eq_getElem?_getD, hj]
    rw [← htk, List.getElem?_take_of_lt (by omega)] at this
    rw [Nat.zero_add]
    simp [World.cell?, hh]
    simpa using this

/-- rows that grow: what has been gathered so far, in a row of the call's own -/
structure Gath (w : World) (t : Value) (wr : World) (R : List Int) : Prop where
  own : wr.ownsRow w.heap.size 3 1 t R.length (R.map (Value.int .i64))
  below : Below w.heap.size w wr
theorem Gath.step {w : World} {t t' : Value} {wr w1 w2 : World} {R : List Int} (h : Gath w t wr R) {x : Int}
    (hb : Below wr.heap.size wr w1) (ho : w2.ownsRow w.heap.size 3 1 t' (R.length + 1) (R.map (Value.int .i64) ++ [.int .i64 x])) {o : Obj} (hg : (w1.alloc o).grownBy w2 t.ownBlock) : Gath w t' w2 (R ++ [x]) := by
  refine ⟨by simpa using ho, ?_⟩
  have b1 := balloc (bthen h.below hb) o
  exact b1.grown hg b1.size (fun q hq => (h.own.lt q hq).1)

end Go.Proofs.YtjageagnclmnjabGreatDoor.J

end

section
namespace Go.Proofs.YtjageagnclmnjabGreatDoor.J
set_option maxRecDepth 100000
open Go.RowKit

theorem cmpless_any (a b : Int) (w : World) :
    Calls Tryz.prog 47 #[.int .i64 a, .int .i64 b] w fun e w' => e = .returned (.bool (decide (a < b))) ∧ w' = w := by
  have hn : ∀ x w, Calls Tryz.prog 65 #[.int .i64 x] w fun e w' => e = .returned (.bool false) ∧ w' = w := by
    intro x w
    go_enter Tryz.func65, Tryz.ntmps65
    go_wp2
    go_ret
    exact ⟨rfl, rfl⟩
  go_enter Tryz.func47, Tryz.ntmps47
  go_wp2_with (go_at_call 65; refine (hn _ _).mono ?_; rintro e w' ⟨rfl, rfl⟩)
  go_ret
  exact ⟨rfl, rfl⟩

end Go.Proofs.YtjageagnclmnjabGreatDoor.J

end

section
namespace Go.Proofs.YtjageagnclmnjabGreatDoor.J
set_option maxRecDepth 100000
open Go.RowKit

/-- what a call answers: a row -/
def Ans (w : World) (R : List Int) (e : Ending) (w' : World) : Prop :=
  ∃ ao cap, e = .returned (.slice ao R.length cap) ∧ R.length ≤ cap ∧ Row w' ao R ∧ Below w.heap.size w w'

theorem owned_cap {w : World} {base : Nat} {t : Value} {R : List Int} (h : w.ownsRow base 3 1 t R.length (R.map (Value.int .i64))) : ∃ ao cap, t = .slice ao R.length cap ∧ R.length ≤ cap ∧ Row w ao R := by
  obtain ⟨ao, cap, e, hR⟩ := owned_row h
  refine ⟨ao, cap, e, ?_, hR⟩
  obtain ⟨_, ⟨e2, e3⟩ | ⟨g, cap', cur, e2, _, _, hnc, _⟩⟩ := h
  · omega
  · rw [e] at e2; injection e2 with _ _ e2; omega

theorem Gath.done {w : World} {t : Value} {wr : World} {R : List Int} (h : Gath w t wr R) : Ans w R (.returned t) wr := by
  obtain ⟨ao, cap, rfl, hc, hr⟩ := owned_cap h.own
  exact ⟨ao, cap, rfl, hc, hr, h.below⟩
theorem Gath.next {w : World} {t t' : Value} {wr w1 w2 : World} {f : Nat → Int} {k : Nat} (h : Gath w t wr (outs f k)) (hb : Below wr.heap.size wr w1) {x : Int} (hx : x = f k)
    (ho : w2.ownsRow w.heap.size 3 1 t' ((outs f k).length + 1) ((outs f k).map (Value.int .i64) ++ [.int .i64 x])) {o : Obj} (hg : (w1.alloc o).grownBy w2 t.ownBlock) : Gath w t' w2 (outs f (k + 1)) := by
  rw [outs_succ, ← hx]
  exact h.step hb ho hg
end Go.Proofs.YtjageagnclmnjabGreatDoor.J

end

section
namespace Go.Proofs.YtjageagnclmnjabGreatDoor.J
set_option maxRecDepth 100000
open Go.RowKit

/-- a number from 0 to Most -/
def inr (x : Int) : Prop := 0 ≤ x ∧ x ≤ 1099511627776
instance (x : Int) : Decidable (inr x) := inferInstanceAs (Decidable (_ ∧ _))
def allIn (z : List Int) : Prop := ∀ j, j < z.length → inr (z.getD j 0)
instance (z : List Int) : Decidable (allIn z) := inferInstanceAs (Decidable (∀ j, j < z.length → inr (z.getD j 0)))
/-- never falls, of whatever length -/
def jright (t l : List Int) : Prop := t.length = l.length ∧ up t ∧ allIn t ∧ allIn l
instance (t l : List Int) : Decidable (jright t l) := inferInstanceAs (Decidable (_ ∧ _ ∧ _ ∧ _))

/-- the greatest of the first k -/
def pk (t l : List Int) : Nat → Int
  | 0 => 0
  | k + 1 => max (pk t l k) (t.getD k 0 + l.getD k 0)
def passed (t l : List Int) (k : Nat) : Int := pk t l (k + 1)
theorem passed_zero (t l : List Int) : passed t l 0 = max 0 (t.getD 0 0 + l.getD 0 0) := rfl
theorem passed_succ (t l : List Int) (k : Nat) : passed t l (k + 1) = max (passed t l k) (t.getD (k + 1) 0 + l.getD (k + 1) 0) := rfl
def pass (t l : List Int) : List Int := if jright t l then outs (passed t l) t.length else []
theorem pass_yes {t l : List Int} (h : jright t l) : pass t l = outs (passed t l) t.length := if_pos h
theorem pass_no {t l : List Int} (h : ¬ jright t l) : pass t l = [] := if_neg h
theorem pass_len {t l : List Int} (h : jright t l) : (pass t l).length = t.length := by rw [pass_yes h, outs_len]
theorem pass_at {t l : List Int} (h : jright t l) (k : Nat) (hk : k < t.length) : (pass t l).getD k 0 = passed t l k := by rw [pass_yes h, outs_getD _ _ _ hk]

theorem pk_in {t l : List Int} (h : jright t l) (k : Nat) (hk : k ≤ t.length) : 0 ≤ pk t l k ∧ pk t l k ≤ 2199023255552 := by
  induction k with
  | zero => exact ⟨Int.le_refl _, by show (0 : Int) ≤ _; omega⟩
  | succ k ih =>
    have := ih (by omega)
    have a := h.2.2.1 k (by omega)
    have b := h.2.2.2 k (by have := h.1; omega)
    unfold inr at a b
    show 0 ≤ max _ _ ∧ max _ _ ≤ _
    omega
theorem passed_in {t l : List Int} (h : jright t l) (k : Nat) (hk : k < t.length) : 0 ≤ passed t l k ∧ passed t l k ≤ 2199023255552 := pk_in h (k + 1) hk
theorem passed_lo (t l : List Int) (k : Nat) : t.getD k 0 + l.getD k 0 ≤ passed t l k := by
  show _ ≤ max _ _
  omega
/-- nobody is later than the latest one -/
theorem passed_hi {t l : List Int} (h : jright t l) {M : Int} (hM : ∀ j, j < l.length → l.getD j 0 ≤ M) (k : Nat) (hk : k < t.length) : passed t l k ≤ t.getD k 0 + M := by
  have h1 := h.1
  induction k with
  | zero =>
    have a := h.2.2.1 0 (by omega)
    have b := h.2.2.2 0 (by omega)
    have c := hM 0 (by omega)
    unfold inr at a b
    rw [passed_zero]
    omega
  | succ k ih =>
    have := ih (by omega)
    have c := hM (k + 1) (by omega)
    have u := h.2.1 k (by omega)
    rw [passed_succ]
    omega
theorem late_in {t l : List Int} (h : jright t l) {M : Int} (hM : ∀ j, j < l.length → l.getD j 0 ≤ M) (k : Nat) (hk : k < t.length) : l.getD k 0 ≤ passed t l k - t.getD k 0 ∧ passed t l k - t.getD k 0 ≤ M := by
  have := passed_lo t l k
  have := passed_hi h hM k hk
  omega

/-- by how much they came later -/
def dl (t c : List Int) : List Int := outs (fun k => wrap64 (c.getD k 0 - t.getD k 0)) (min t.length c.length)
theorem dl_len (t c : List Int) : (dl t c).length = min t.length c.length := outs_len _ _
theorem dl_at (t c : List Int) (k : Nat) (hk : k < min t.length c.length) : (dl t c).getD k 0 = wrap64 (c.getD k 0 - t.getD k 0) := outs_getD _ _ _ hk
theorem dl_pass {t l : List Int} (h : jright t l) (k : Nat) (hk : k < t.length) : (dl t (pass t l)).getD k 0 = passed t l k - t.getD k 0 := by
  rw [dl_at _ _ _ (by rw [pass_len h]; omega), pass_at h k hk]
  have := passed_in h k hk
  have a := h.2.2.1 k hk
  unfold inr at a
  exact IntWalk.wrap64_in _ (by omega)

end Go.Proofs.YtjageagnclmnjabGreatDoor.J

end
