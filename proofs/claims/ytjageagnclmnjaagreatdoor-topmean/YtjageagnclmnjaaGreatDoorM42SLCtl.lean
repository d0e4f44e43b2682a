/- PROVED: rows of numbers that a function tells. how rows of integers lie in memory, what keeps them. what the variables that the rows list hold: the table of powers of ten, the two errors of strconv, the names of the kinds; and that it stays so. on plain letters: the text of rules, who can read it, and that no two rules have one text. what lies in memory: a pair of numbers of the call's own; what keeps it. what is told of a round, of the call's own, in memory: its six cells. what bench.Parse answers. bench.Parse reads just the texts that rules have. states that are found one after another, on plain lists: each is there once, nothing else is come to, what leads to each is the shortest. how rows of pairs and rows of rounds lie in memory, what keeps them; what lies there while Play goes on. five rows of one struct that grow, each in a block of its own, and blocks that they leave alone. what holds in the document's own SOf behind whichever operations of the region in which four rows grow. what '==' tells of two states. what lies there while the document's own SOf goes on. the document's own SOf: the region in which a step is taken, and what it brings laid into new blocks, in whatever order. the three rows of steady's finding, that grow, each in a block of its own, and blocks that they leave alone. steady's finding in memory: three rows, a map, what keeps them, how each grows. what lies there while steady's search goes on. what holds between two rounds of steady's search. a control of the call's own, in memory: its six cells. a control of the call's own, in memory: its six cells. CONDITIONS: none beyond each theorem's own. -/
import Derived.Test.YtjageagnclmnjaaGreatDoorX00KNums
import Derived.Test.YtjageagnclmnjaaGreatDoorRows
import Derived.WalkKit
import Derived.Lib.MinMax
import Derived.Lib.SlicesMore
import Derived.Deep.Draws
import Derived.WalkSpells
import Derived.WalkLawsBesides
import Derived.Deep.QuietTactic
import Derived.BigQuiet
import Derived.ArgAppend
import Derived.Deep.LoopGhost
import Derived.Deep.OwnRows
import Derived.Stop.LaidErr
import Derived.Lib.LaidTab
import Derived.Lib.ItoaNum
import Derived.Shelf.Strconv.Itoa3
import Derived.MakeChecks
import Derived.OpenShut
import Derived.Test.YtjageagnclmnjaaGreatDoorX01Tx
import Derived.Test.YtjageagnclmnjaaGreatDoorX03DOwn
import Derived.Test.YtjageagnclmnjaaGreatDoorX06Par
import Derived.Test.YtjageagnclmnjaaGreatDoorX05Spl
import Derived.Test.YtjageagnclmnjaaGreatDoorX07St
import Derived.Test.YtjageagnclmnjaaGreatDoorX08DRow
import Derived.Test.YtjageagnclmnjaaGreatDoorX02DMem
import Derived.Test.YtjageagnclmnjaaGreatDoorX09Fam
import Derived.Maps.AppendAt
import Derived.Test.YtjageagnclmnjaaGreatDoorX10SoA
import Derived.Test.YtjageagnclmnjaaGreatDoorX11Chn
import Derived.Test.YtjageagnclmnjaaGreatDoorX12Ft
import Derived.RangeFuncNested
import Derived.Test.YtjageagnclmnjaaGreatDoorX13Fnd
import Derived.Test.YtjageagnclmnjaaGreatDoorX15Sr
import Derived.RangeFuncLeaves
import Derived.Test.YtjageagnclmnjaaGreatDoorX16Lif
import Derived.Test.YtjageagnclmnjaaGreatDoorX18CSame
import Derived.Test.YtjageagnclmnjaaGreatDoorX19LCtl
section
namespace Go.Proofs.YtjageagnclmnjaaGreatDoor

theorem list_ext {xs ys : List Int} (hl : xs.length = ys.length) (h : ∀ j, j < xs.length → xs.getD j 0 = ys.getD j 0) : xs = ys := by
  apply List.ext_getElem hl
  intro j h1 h2
  have := h j h1
  rw [List.getD_eq_getElem?_getD, List.getD_eq_getElem?_getD, List.getElem?_eq_getElem h1, List.getElem?_eq_getElem h2] at this
  exact this
end Go.Proofs.YtjageagnclmnjaaGreatDoor

end

section
namespace Go.Proofs.YtjageagnclmnjaaGreatDoor
open Go.RowKit

theorem Row.drewN {w : World} {ao : Option Addr} {zs : List Int} (h : Row w ao zs) (n : Nat) : Row (w.drewN n) ao zs := h

theorem getD_snoc_old (R : List Int) (v : Int) (j : Nat) (h : j < R.length) : (R ++ [v]).getD j 0 = R.getD j 0 := by
  rw [List.getD_eq_getElem?_getD, List.getD_eq_getElem?_getD, List.getElem?_append_left h]
theorem getD_snoc_new (R : List Int) (v : Int) (j : Nat) (h : j = R.length) : (R ++ [v]).getD j 0 = v := by
  subst h; simp [List.getD_eq_getElem?_getD]

/-- what has been answered so far, in block O, that was made for n numbers -/
structure Out (w : World) (O n : Nat) (R : List Int) : Prop where
  c : ∀ j, j < R.length → w.cell? ⟨O, j, none⟩ = some (.int .i64 (R.getD j 0))
  room : ∀ j, j < n → (w.cell? ⟨O, j, none⟩).isSome = true ∧ w.frozen? ⟨O, j, none⟩ = false

theorem Out.put {w : World} {O n : Nat} {R : List Int} (h : Out w O n R) (hk : R.length < n) (v : Int) : Out (w.setCell ⟨O, R.length, none⟩ (.int .i64 v)) O n (R ++ [v]) := by
  refine ⟨fun j hj => ?_, fun j hj => ?_⟩
  · by_cases e : j = R.length
    · subst e
      rw [getD_snoc_new _ _ _ rfl]
      obtain ⟨u, hu⟩ := Option.isSome_iff_exists.1 (h.room R.length hk).1
      exact World.cell?_setCell_same _ _ _ hu
    · have hj' : j < R.length := by simp at hj; omega
      rw [getD_snoc_old _ _ _ hj', World.cell?_setCell_other _ _ _ _ (fun q => e (by injection q with _ q _; exact q.symm))]
      exact h.c j hj'
  · rw [World.frozen?_setCell]
    refine ⟨?_, (h.room j hj).2⟩
    by_cases e : j = R.length
    · subst e
      obtain ⟨u, hu⟩ := Option.isSome_iff_exists.1 (h.room R.length hk).1
      rw [World.cell?_setCell_same _ _ _ hu]; rfl
    · rw [World.cell?_setCell_other _ _ _ _ (fun q => e (by injection q with _ q _; exact q.symm))]
      exact (h.room j hj).1

theorem Out.drewN {w : World} {O n : Nat} {R : List Int} (h : Out w O n R) (q : Nat) : Out (w.drewN q) O n R := ⟨h.c, h.room⟩
theorem Out.row {w : World} {O n : Nat} {R : List Int} (h : Out w O n R) : Row w (some ⟨O, 0, none⟩) R := .inr ⟨O, 0, rfl, fun j hj => by rw [Nat.zero_add]; exact h.c j hj⟩

end Go.Proofs.YtjageagnclmnjaaGreatDoor

end

section
namespace Go.Proofs.YtjageagnclmnjaaGreatDoor.D
open Go.RowKit
set_option linter.unusedVariables false

theorem Lw.grown {B : Nat} {w w' : World} (h : Lw w) (g : Below B w w') (hB : w.heap.size ≤ B) : Lw w' := h.kept ⟨g.os, g.tape, g.output, g.size, fun k hk => g.block k (by omega)⟩
end Go.Proofs.YtjageagnclmnjaaGreatDoor.D

end

section
namespace Go.Proofs.YtjageagnclmnjaaGreatDoor.D
set_option maxRecDepth 100000
open K
set_option linter.unusedVariables false

theorem dig_inj : ∀ n, n < 17 → ∀ m, m < 17 → dig n = dig m → n = m := by decide +kernel
theorem nme_inj {k l : Int} (hk : 1 ≤ k ∧ k ≤ 3) (hl : 1 ≤ l ∧ l ≤ 3) (h : nme k = nme l) : k = l := by
  rcases (show k = 1 ∨ k = 2 ∨ k = 3 by omega) with rfl | rfl | rfl <;> rcases (show l = 1 ∨ l = 2 ∨ l = 3 by omega) with rfl | rfl | rfl <;> first | rfl | exact absurd h (by decide)
/-- no two have one text -/
theorem tx_inj {r s : Ru} (hr : kinds r ∧ ranges r) (hs : kinds s ∧ ranges s) (h : tx r = tx s) : r = s := by
  have e := congrArg wds h
  rw [tx_words hr.2, tx_words hs.2] at e
  obtain ⟨⟨a0, a1⟩, b1, b2, b3⟩ := hr
  obtain ⟨⟨c0, c1⟩, d1, d2, d3⟩ := hs
  simp only [List.cons.injEq, and_true] at e
  obtain ⟨e0, e1, e2, e3, e4⟩ := e
  have f0 := nme_inj a0 c0 e0
  have f1 := nme_inj a1 c1 e1
  have f2 := dig_inj _ (by omega) _ (by omega) e2
  have f3 := dig_inj _ (by omega) _ (by omega) e3
  have f4 := dig_inj _ (by omega) _ (by omega) e4
  obtain ⟨k0, k1, rr, m, j⟩ := r
  obtain ⟨l0, l1, ss, n, i⟩ := s
  simp only at *
  obtain rfl := f0
  obtain rfl := f1
  obtain rfl : rr = ss := by omega
  obtain rfl : m = n := by omega
  obtain rfl : j = i := by omega
  rfl
end Go.Proofs.YtjageagnclmnjaaGreatDoor.D

end

section
namespace Go.Proofs.YtjageagnclmnjaaGreatDoor.K
open Go.RowKit

theorem Arr.drewN {w : World} {C : Nat} {a b : Int} (h : Arr w C a b) (m : Nat) : Arr (w.drewN m) C a b := h.kept (below_drewN (Below.refl _ _) m)
end Go.Proofs.YtjageagnclmnjaaGreatDoor.K

end

section
namespace Go.Proofs.YtjageagnclmnjaaGreatDoor.K
open Go.RowKit

theorem Rnd.drewN {w : World} {C : Nat} {k n b a s q : Int} (h : Rnd w C k n b a s q) (m : Nat) : Rnd (w.drewN m) C k n b a s q := h.kept (below_drewN (Below.refl _ _) m)
end Go.Proofs.YtjageagnclmnjaaGreatDoor.K

end

section
namespace Go.Proofs.YtjageagnclmnjaaGreatDoor.D
set_option maxRecDepth 100000
open Go.RowKit K
set_option linter.unusedVariables false

section
variable {w v v' : World} {P : Nat} {p0 p1 p2 p3 p4 : ByteArray}
theorem Ps.drewN (h : Ps w P p0 p1 p2 p3 p4 v) (n : Nat) : Ps w P p0 p1 p2 p3 p4 (v.drewN n) := h.kept (below_drewN (Below.refl _ _) n)
end

end Go.Proofs.YtjageagnclmnjaaGreatDoor.D

end

section
namespace Go.Proofs.YtjageagnclmnjaaGreatDoor.D
set_option maxRecDepth 100000
open Go.RowKit K
set_option linter.unusedVariables false

theorem Rd.one {l : List UInt8} {r t : Ru} (h : Rd l r) (g : Rd l t) : r = t := tx_inj (rgt_of h.1) (rgt_of g.1) (h.2.trans g.2.symm)
end Go.Proofs.YtjageagnclmnjaaGreatDoor.D

end

section
namespace Go.Proofs.YtjageagnclmnjaaGreatDoor
set_option linter.unusedVariables false

section
variable {α : Type} [DecidableEq α] (step : α → Nat → α) (E : Nat) (s0 : α)

end
section
variable {α : Type} [DecidableEq α]
theorem ix_at {L : List α} (hd : L.Nodup) {i : Nat} {y : α} (h : L[i]? = some y) : ix L y = i := by
  have hi := (List.getElem?_eq_some_iff.1 h).1
  obtain ⟨h1, h2⟩ := ix_mem (List.mem_of_getElem? h)
  have e : L[ix L y]'h1 = L[i]'hi := by
    have a := (List.getElem?_eq_some_iff.1 h2).2
    have b := (List.getElem?_eq_some_iff.1 h).2
    rw [a, b]
  exact (List.getElem_inj hd).1 e
end

section
variable {α : Type} [DecidableEq α] {step : α → Nat → α} {E : Nat} {s0 : α}
end

end Go.Proofs.YtjageagnclmnjaaGreatDoor

end

section
namespace Go.Proofs.YtjageagnclmnjaaGreatDoor.D
open Go.RowKit K

theorem VRow.alloc {w : World} {ao : Option Addr} {ps : List (Int × Int)} (h : VRow w ao ps) (o : Obj) : VRow (w.alloc o) ao ps := h.kept (balloc (Below.refl _ _) o)

theorem PlAt.drewN {w wr : World} {B : Nat} {p0 p1 r m j k0 n0 b0 a0 c0 q0 k1 n1 b1 a1 c1 q1 w0 w1 : Int} {t : Value} {R : List Rx} (h : PlAt w B p0 p1 r m j k0 n0 b0 a0 c0 q0 k1 n1 b1 a1 c1 q1 w0 w1 t R wr) (q : Nat) : PlAt w B p0 p1 r m j k0 n0 b0 a0 c0 q0 k1 n1 b1 a1 c1 q1 w0 w1 t R (wr.drewN q) := h.kept (below_drewN (Below.refl _ _) q)
theorem PlAt.drew {w wr : World} {B : Nat} {p0 p1 r m j k0 n0 b0 a0 c0 q0 k1 n1 b1 a1 c1 q1 w0 w1 : Int} {t : Value} {R : List Rx} (h : PlAt w B p0 p1 r m j k0 n0 b0 a0 c0 q0 k1 n1 b1 a1 c1 q1 w0 w1 t R wr) : PlAt w B p0 p1 r m j k0 n0 b0 a0 c0 q0 k1 n1 b1 a1 c1 q1 w0 w1 t R wr.drew := h.drewN 1
end Go.Proofs.YtjageagnclmnjaaGreatDoor.D

end

section
namespace Go.Proofs.YtjageagnclmnjaaGreatDoor
open Go.RowKit
set_option linter.unusedVariables false

theorem Fam.drewN {B0 : Nat} {K : Nat → Prop} {cur : Nat → Value} {n : Nat → Nat} {xs : Nat → List Value} {wr : World} (h : Fam B0 K cur n xs wr) (q : Nat) : Fam B0 K cur n xs (wr.drewN q) := h.kept (below_drewN (Below.refl _ _) q)
end Go.Proofs.YtjageagnclmnjaaGreatDoor

end

section
namespace Go.Proofs.YtjageagnclmnjaaGreatDoor
open Go.RowKit
set_option linter.unusedVariables false

/-- which have come up: the append, the literal, the store of row c -/
def lA (L : Array Bool) (c : Nat) : Bool := if 1 ≤ c ∧ c < 5 then L.getD (5 * (c - 1) + 4) false else false
def lB (L : Array Bool) (c : Nat) : Bool := if 1 ≤ c ∧ c < 5 then L.getD (5 * (c - 1) + 3) false else false
theorem lA_set {L : Array Bool} {i : Nat} (hi : i < L.size) (h : ∀ d, d < 4 → i ≠ 5 * d + 4) : lA (L.setIfInBounds i true) = lA L := funext fun c => by
  unfold lA
  by_cases hc : 1 ≤ c ∧ c < 5
  · rw [if_pos hc, if_pos hc, getD_set hi, if_neg (Ne.symm (h (c - 1) (by omega)))]
  · rw [if_neg hc, if_neg hc]
theorem lB_set {L : Array Bool} {i : Nat} (hi : i < L.size) (h : ∀ d, d < 4 → i ≠ 5 * d + 3) : lB (L.setIfInBounds i true) = lB L := funext fun c => by
  unfold lB
  by_cases hc : 1 ≤ c ∧ c < 5
  · rw [if_pos hc, if_pos hc, getD_set hi, if_neg (Ne.symm (h (c - 1) (by omega)))]
  · rw [if_neg hc, if_neg hc]
theorem lS_set {L : Array Bool} {i : Nat} (hi : i < L.size) (h : ∀ d, d < 4 → i ≠ 21 + 2 * d) : lS (L.setIfInBounds i true) = lS L := funext fun c => by
  unfold lS
  by_cases hc : 1 ≤ c ∧ c < 5
  · rw [if_pos hc, if_pos hc, getD_set hi, if_neg (Ne.symm (h (c - 1) (by omega)))]
  · rw [if_neg hc, if_neg hc]

/-- where an operation leaves what it yields, and what that is -/
def slot (i : Nat) : Nat := if i < 20 then 97 + i else 117 + (i - 20) / 2
theorem slot_ne {i j : Nat} (hi : i < 28) (hj : j < 28) (yi : yields i) (yj : yields j) (h : j ≠ i) : slot j ≠ slot i := by
  unfold slot yields at *
  split <;> split <;> omega

structure Rj (B0 : Nat) (K : Nat → Prop) (C : Nat) (v el : Nat → Value) (n : Nat → Nat) (xs new : Nat → List Value) (w1 : World) (B1 : Nat) (wB : World) (L : Array Bool) (y v' : Nat → Value) (b : Nat → Nat) (w : World) : Prop where
  ls : L.size = 28
  sl : ∀ i, i < 28 → yields i → L.getD i false = true → y (slot i) = vl C v el b v' i
  fam : Fam B0 (fun g => K g ∨ ∃ c, c < 5 ∧ lB L c = true ∧ g = b c) (fun c => if lA L c then v' c else v c) (fun c => if lA L c then n c + 1 else n c) (fun c => if lA L c then xs c ++ new c else xs c) w
  lit : ∀ c, c < 5 → lB L c = true → w.heap[b c]? = some (.cells (new c).toArray (fty c) (0, 0)) ∧ b c ≠ C
  cel : ∀ c, 1 ≤ c → c < 5 → w.cell? ⟨C, c, none⟩ = some (if lS L c then v' c else v c) ∧ w.frozen? ⟨C, c, none⟩ = false
  nul : w.cell? ⟨C, 0, none⟩ = some (v 0) ∧ w.frozen? ⟨C, 0, none⟩ = false
  vs : ∀ c, c < 5 → lA L c = true → ∃ g cp, v' c = .slice (some ⟨g, 0, none⟩) (n c + 1) cp
  oth : ∀ g, K g → g ≠ C → w.heap[g]? = w1.heap[g]?
  bel : Below B1 wB w
  clo : ∀ d, d < 4 → L.getD (21 + 2 * d) false = true → L.getD (5 * d + 1) false = true ∧ L.getD (5 * d + 4) false = true
  kC : K C
  b1 : B1 ≤ C ∧ B1 ≤ B0 ∧ B1 ≤ w.heap.size

section
variable {B0 : Nat} {K : Nat → Prop} {C : Nat} {v el : Nat → Value} {n : Nat → Nat} {xs new : Nat → List Value} {w1 : World} {B1 : Nat} {wB : World} {L : Array Bool} {y v' : Nat → Value} {b : Nat → Nat} {w : World}
theorem Rj.slots (h : Rj B0 K C v el n xs new w1 B1 wB L y v' b w) {i : Nat} (hi : i < 28) (yi : yields i) {b2 : Nat → Nat} {v2 : Nat → Value} {x : Value} (hx : x = vl C v el b2 v2 i) (hold : ∀ j, j < 28 → j ≠ i → yields j → L.getD j false = true → vl C v el b2 v2 j = vl C v el b v' j) :
    ∀ j, j < 28 → yields j → (L.setIfInBounds i true).getD j false = true → up y (slot i) x (slot j) = vl C v el b2 v2 j := fun j hj yj hl => by
  rw [getD_set (by rw [h.ls]; exact hi)] at hl
  by_cases e : j = i
  · subst e; rw [up_at]; exact hx
  · rw [if_neg e] at hl
    rw [up_ne _ _ _ (slot_ne hi hj yi yj e), h.sl j hj yj hl, hold j hj e yj hl]
theorem Rj.closed (h : Rj B0 K C v el n xs new w1 B1 wB L y v' b w) {i : Nat} (hi : i < 28) (hd : ∀ d, d < 4 → i = 21 + 2 * d → L.getD (5 * d + 1) false = true ∧ L.getD (5 * d + 4) false = true) :
    ∀ d, d < 4 → (L.setIfInBounds i true).getD (21 + 2 * d) false = true → (L.setIfInBounds i true).getD (5 * d + 1) false = true ∧ (L.setIfInBounds i true).getD (5 * d + 4) false = true := fun d hd4 hl => by
  have hz : i < L.size := by rw [h.ls]; exact hi
  rw [getD_set hz] at hl
  have key : L.getD (5 * d + 1) false = true ∧ L.getD (5 * d + 4) false = true := by
    by_cases e : 21 + 2 * d = i
    · exact hd d hd4 e.symm
    · rw [if_neg e] at hl; exact h.clo d hd4 hl
  refine ⟨getD_set_true key.1, getD_set_true key.2⟩
theorem lB_at {L : Array Bool} {c : Nat} (h1 : 1 ≤ c) (h5 : c < 5) : lB L c = L.getD (5 * (c - 1) + 3) false := by unfold lB; rw [if_pos ⟨h1, h5⟩]
theorem lA_at {L : Array Bool} {c : Nat} (h1 : 1 ≤ c) (h5 : c < 5) : lA L c = L.getD (5 * (c - 1) + 4) false := by unfold lA; rw [if_pos ⟨h1, h5⟩]
theorem lS_at {L : Array Bool} {c : Nat} (h1 : 1 ≤ c) (h5 : c < 5) : lS L c = L.getD (21 + 2 * (c - 1)) false := by unfold lS; rw [if_pos ⟨h1, h5⟩]
theorem lB_new {L : Array Bool} {c : Nat} (h1 : 1 ≤ c) (h5 : c < 5) (hz : 5 * (c - 1) + 3 < L.size) (d : Nat) : lB (L.setIfInBounds (5 * (c - 1) + 3) true) d = if d = c then true else lB L d := by
  by_cases e : d = c
  · subst e; rw [lB_at h1 h5, getD_set hz, if_pos rfl, if_pos rfl]
  · rw [if_neg e]
    unfold lB
    by_cases hd : 1 ≤ d ∧ d < 5
    · rw [if_pos hd, if_pos hd, getD_set hz, if_neg (by omega)]
    · rw [if_neg hd, if_neg hd]
theorem lA_new {L : Array Bool} {c : Nat} (h1 : 1 ≤ c) (h5 : c < 5) (hz : 5 * (c - 1) + 4 < L.size) (d : Nat) : lA (L.setIfInBounds (5 * (c - 1) + 4) true) d = if d = c then true else lA L d := by
  by_cases e : d = c
  · subst e; rw [lA_at h1 h5, getD_set hz, if_pos rfl, if_pos rfl]
  · rw [if_neg e]
    unfold lA
    by_cases hd : 1 ≤ d ∧ d < 5
    · rw [if_pos hd, if_pos hd, getD_set hz, if_neg (by omega)]
    · rw [if_neg hd, if_neg hd]
theorem vl_b {C : Nat} {v el : Nat → Value} {b b2 : Nat → Nat} {v' : Nat → Value} {j : Nat} (h : j % 5 = 3 → j < 20 → b2 (j / 5 + 1) = b (j / 5 + 1)) : vl C v el b2 v' j = vl C v el b v' j := by
  unfold vl
  split
  · rename_i h20
    split
    · rfl
    · split
      · rfl
      · split
        · rfl
        · split
          · rw [h (by assumption) h20]
          · rfl
  · rfl
theorem vl_v {C : Nat} {v el : Nat → Value} {b : Nat → Nat} {v' v2 : Nat → Value} {j : Nat} (h : j % 5 = 4 → j < 20 → v2 (j / 5 + 1) = v' (j / 5 + 1)) : vl C v el b v2 j = vl C v el b v' j := by
  unfold vl
  split
  · rename_i h20
    split
    · rfl
    · split
      · rfl
      · split
        · rfl
        · split
          · rfl
          · rw [h (by omega) h20]
  · rfl
theorem vl3 (C : Nat) (v el : Nat → Value) (b : Nat → Nat) (v' : Nat → Value) {c : Nat} (h1 : 1 ≤ c) (h5 : c < 5) : vl C v el b v' (5 * (c - 1) + 3) = .slice (some ⟨b c, 0, none⟩) 1 1 := by
  unfold vl
  rw [if_pos (by omega), if_neg (by omega), if_neg (by omega), if_neg (by omega), if_pos (by omega), show (5 * (c - 1) + 3) / 5 + 1 = c by omega]
theorem vl4 (C : Nat) (v el : Nat → Value) (b : Nat → Nat) (v' : Nat → Value) {c : Nat} (h1 : 1 ≤ c) (h5 : c < 5) : vl C v el b v' (5 * (c - 1) + 4) = v' c := by
  unfold vl
  rw [if_pos (by omega), if_neg (by omega), if_neg (by omega), if_neg (by omega), if_neg (by omega), show (5 * (c - 1) + 4) / 5 + 1 = c by omega]
/-- the literal of row c -/
theorem Rj.laid (h : Rj B0 K C v el n xs new w1 B1 wB L y v' b w) {c : Nat} (h1 : 1 ≤ c) (h5 : c < 5) (hno : L.getD (5 * (c - 1) + 3) true = false) :
    Rj B0 K C v el n xs new w1 B1 wB (L.setIfInBounds (5 * (c - 1) + 3) true) (up y (slot (5 * (c - 1) + 3)) (.slice (some ⟨w.heap.size, 0, none⟩) 1 1)) v' (up b c w.heap.size) (w.alloc (.cells (new c).toArray (fty c))) := by
  have hz : 5 * (c - 1) + 3 < L.size := by rw [h.ls]; omega
  have e1 : lA (L.setIfInBounds (5 * (c - 1) + 3) true) = lA L := lA_set hz fun d _ => by omega
  have e3 : lS (L.setIfInBounds (5 * (c - 1) + 3) true) = lS L := lS_set hz fun d _ => by omega
  have hB : Below w.heap.size w (w.alloc (.cells (new c).toArray (fty c))) := balloc (Below.refl _ _) _
  refine ⟨by simp [h.ls], h.slots (by omega) (.inl (by omega)) (by rw [vl3 C v el _ v' h1 h5, up_at]) fun j hj hne _ _ => vl_b fun q1 q2 => up_ne _ _ _ (by omega), ?_, ?_, ?_, ?_, ?_, ?_, ?_, h.closed (by omega) fun d _ e => by omega, h.kC, ?_⟩
  · rw [e1]
    refine (h.fam.alloc _).less fun g hg => ?_
    rcases hg with hg | ⟨d, hd, hl, rfl⟩
    · exact .inl (.inl hg)
    · rw [lB_new h1 h5 hz] at hl
      by_cases e : d = c
      · subst e; exact .inr (up_at _ _ _)
      · rw [if_neg e] at hl
        exact .inl (.inr ⟨d, hd, hl, up_ne _ _ _ e⟩)
  · intro d hd hl
    rw [lB_new h1 h5 hz] at hl
    by_cases e : d = c
    · subst e
      rw [up_at]
      refine ⟨by show (w.heap.push _)[w.heap.size]? = _; simp, fun q => ?_⟩
      have := (h.fam.kb C (.inl h.kC)).1
      omega
    · rw [if_neg e] at hl
      rw [up_ne _ _ _ e]
      obtain ⟨q1, q2⟩ := h.lit d hd hl
      exact ⟨(hB.block _ (lt_of_block q1)).trans q1, q2⟩
  · intro d hd1 hd
    rw [e3]
    obtain ⟨q1, q2⟩ := h.cel d hd1 hd
    exact ⟨(hB.cell (p := ⟨C, d, none⟩) (block_lt q1)).trans q1, (hB.frozen (p := ⟨C, d, none⟩) (block_lt q1)).trans q2⟩
  · obtain ⟨q1, q2⟩ := h.nul
    exact ⟨(hB.cell (p := ⟨C, 0, none⟩) (block_lt q1)).trans q1, (hB.frozen (p := ⟨C, 0, none⟩) (block_lt q1)).trans q2⟩
  · rw [e1]; exact h.vs
  · exact fun g hg hne => (hB.block g (h.fam.kb g (.inl hg)).1).trans (h.oth g hg hne)
  · exact h.bel.alloc h.b1.2.2 _
  · have := h.b1; simp; omega
/-- row c grows -/
theorem Rj.grown (h : Rj B0 K C v el n xs new w1 B1 wB L y v' b w) {c : Nat} (h1 : 1 ≤ c) (h5 : c < 5) (hno : L.getD (5 * (c - 1) + 4) true = false) (hb : L.getD (5 * (c - 1) + 3) false = true) (hn : n c + 1 ≤ 1048576) (hl : (new c).length = fsz c) (ho : ∀ u ∈ new c, u.oneCell' = true) (ty : Nat) :
    ∃ x w2, (Builtin.append_ #[fsl c, fsl c] ty #[v c, .slice (some ⟨b c, 0, none⟩) 1 1]).run Tryz.prog w = .ok x w2 ∧
      Rj B0 K C v el n xs new w1 B1 wB (L.setIfInBounds (5 * (c - 1) + 4) true) (up y (slot (5 * (c - 1) + 4)) x) (up v' c x) b w2 := by
  have hz : 5 * (c - 1) + 4 < L.size := by rw [h.ls]; omega
  have hno' : lA L c = false := by
    rw [lA_at h1 h5]
    rw [Array.getD_eq_getD_getElem?] at hno ⊢
    rw [Array.getElem?_eq_getElem hz] at hno ⊢
    exact hno
  have hbb : lB L c = true := by rw [lB_at h1 h5]; exact hb
  have e2 : lB (L.setIfInBounds (5 * (c - 1) + 4) true) = lB L := lB_set hz fun d _ => by omega
  have e3 : lS (L.setIfInBounds (5 * (c - 1) + 4) true) = lS L := lS_set hz fun d _ => by omega
  have hcur : (if lA L c = true then v' c else v c) = v c := by simp [hno']
  have hnn : (if lA L c = true then n c + 1 else n c) = n c := by simp [hno']
  have hxx : (if lA L c = true then xs c ++ new c else xs c) = xs c := by simp [hno']
  obtain ⟨g, cap, w2, hr, hF, hK, hg⟩ := h.fam.append h5 (by rw [hnn]; exact hn) (h.lit c h5 hbb).1 hl ho ty
  rw [hnn, hxx] at hF
  rw [hcur, hnn] at hr
  have hsz := hg.size
  refine ⟨_, w2, hr, by simp [h.ls], h.slots (by omega) (.inl (by omega)) (by rw [vl4 C v el b _ h1 h5, up_at]) fun j hj hne _ _ => vl_v fun q1 q2 => up_ne _ _ _ (by omega), ?_, ?_, ?_, ?_, ?_, ?_, ?_, h.closed (by omega) fun d _ e => by omega, h.kC, ?_⟩
  · rw [e2]
    have q1 : (fun d => if lA (L.setIfInBounds (5 * (c - 1) + 4) true) d = true then up v' c (.slice (some ⟨g, 0, none⟩) (n c + 1) cap) d else v d) = up (fun d => if lA L d = true then v' d else v d) c (.slice (some ⟨g, 0, none⟩) (n c + 1) cap) := funext fun d => by
      rw [lA_new h1 h5 hz]
      by_cases e : d = c
      · subst e; simp [up_at]
      · simp only [if_neg e, up_ne _ _ _ e]
    have q2 : (fun d => if lA (L.setIfInBounds (5 * (c - 1) + 4) true) d = true then n d + 1 else n d) = up (fun d => if lA L d = true then n d + 1 else n d) c (n c + 1) := funext fun d => by
      rw [lA_new h1 h5 hz]
      by_cases e : d = c
      · subst e; simp [up_at]
      · simp only [if_neg e, up_ne _ _ _ e]
    have q3 : (fun d => if lA (L.setIfInBounds (5 * (c - 1) + 4) true) d = true then xs d ++ new d else xs d) = up (fun d => if lA L d = true then xs d ++ new d else xs d) c (xs c ++ new c) := funext fun d => by
      rw [lA_new h1 h5 hz]
      by_cases e : d = c
      · subst e; simp [up_at]
      · simp only [if_neg e, up_ne _ _ _ e]
    rw [q1, q2, q3]; exact hF
  · intro d hd hl
    rw [e2] at hl
    obtain ⟨q1, q2⟩ := h.lit d hd hl
    exact ⟨(hK _ (.inr ⟨d, hd, hl, rfl⟩)).trans q1, q2⟩
  · intro d hd1 hd
    rw [e3]
    obtain ⟨q1, q2⟩ := h.cel d hd1 hd
    have hC := hK C (.inl h.kC)
    refine ⟨(World.cell?_of_block (a := ⟨C, d, none⟩) hC).trans ?_, (World.frozen?_of_block (a := ⟨C, d, none⟩) hC).trans q2⟩
    rw [q1]
    by_cases e : d = c
    · subst e
      have : lS L d = false := by
        cases hs : lS L d with
        | false => rfl
        | true =>
          rw [lS_at hd1 hd] at hs
          have := (h.clo (d - 1) (by omega) hs).2
          rw [← lA_at hd1 hd, hno'] at this
          cases this
      rw [this]; rfl
    · rw [up_ne _ _ _ e]
  · obtain ⟨q1, q2⟩ := h.nul
    have hC := hK C (.inl h.kC)
    exact ⟨(World.cell?_of_block (a := ⟨C, 0, none⟩) hC).trans q1, (World.frozen?_of_block (a := ⟨C, 0, none⟩) hC).trans q2⟩
  · intro d hd hl
    rw [lA_new h1 h5 hz] at hl
    by_cases e : d = c
    · subst e; rw [up_at]; exact ⟨g, cap, rfl⟩
    · rw [if_neg e] at hl
      rw [up_ne _ _ _ e]; exact h.vs d hd hl
  · exact fun g hg hne => (hK g (.inl hg)).trans (h.oth g hg hne)
  · exact h.bel.grown hg h.b1.2.2 (fun q hq => by have := ((h.fam.own c h5).lt q hq).1; have := h.b1.2.1; omega)
  · have := h.b1; omega
end

end Go.Proofs.YtjageagnclmnjaaGreatDoor

end

section
namespace Go.Proofs.YtjageagnclmnjaaGreatDoor.D
open Go.RowKit K

end Go.Proofs.YtjageagnclmnjaaGreatDoor.D

end

section
namespace Go.Proofs.YtjageagnclmnjaaGreatDoor.D
open Go.RowKit K
set_option linter.unusedVariables false

theorem Res.kept {w w' : World} {P : Nat} (h : Res w P) (b : Below w.heap.size w w') : Res w' P := ⟨fun c hc => by
  have hl : P < w.heap.size := block_lt (h.c c hc).1
  exact ⟨(b.cell (p := ⟨P, c, none⟩) hl).trans (h.c c hc).1, (b.frozen (p := ⟨P, c, none⟩) hl).trans (h.c c hc).2⟩⟩
theorem Fiv.kept {w w' : World} {C : Nat} {v : Nat → Value} (h : Fiv w C v) (b : Below w.heap.size w w') : Fiv w' C v := ⟨fun c hc => by
  have hl : C < w.heap.size := block_lt (h.c c hc).1
  exact ⟨(b.cell (p := ⟨C, c, none⟩) hl).trans (h.c c hc).1, (b.frozen (p := ⟨C, c, none⟩) hl).trans (h.c c hc).2⟩⟩
/-- five slices are written -/
theorem Fiv.one {w : World} {C : Nat} {v : Nat → Value} (h : Fiv w C v) {k : Nat} (hk : k < 5) (x : Value) : Fiv (w.setCell ⟨C, k, none⟩ x) C (up v k x) := ⟨fun c hc => by
  refine ⟨?_, (World.frozen?_setCell _ _ _ _).trans (h.c c hc).2⟩
  by_cases e : c = k
  · subst e; rw [up_at]; exact World.cell?_setCell_same _ _ _ (h.c c hc).1
  · rw [up_ne _ _ _ e, World.cell?_setCell_other _ _ _ _ (fun q => e (by injection q with _ q _; exact q.symm))]; exact (h.c c hc).1⟩
def put5 (w : World) (C : Nat) (x : Nat → Value) : World := ((((w.setCell ⟨C, 0, none⟩ (x 0)).setCell ⟨C, 1, none⟩ (x 1)).setCell ⟨C, 2, none⟩ (x 2)).setCell ⟨C, 3, none⟩ (x 3)).setCell ⟨C, 4, none⟩ (x 4)
theorem Fiv.all {w : World} {C : Nat} {v : Nat → Value} (h : Fiv w C v) (x : Nat → Value) : Fiv (put5 w C x) C x := by
  have h5 := ((((h.one (k := 0) (by omega) (x 0)).one (k := 1) (by omega) (x 1)).one (k := 2) (by omega) (x 2)).one (k := 3) (by omega) (x 3)).one (k := 4) (by omega) (x 4)
  refine ⟨fun c hc => ?_⟩
  have := h5.c c hc
  rcases (show c = 0 ∨ c = 1 ∨ c = 2 ∨ c = 3 ∨ c = 4 by omega) with rfl | rfl | rfl | rfl | rfl <;> simpa [up, put5] using this
theorem Res.fiv {w : World} {P : Nat} (h : Res w P) : Fiv w P (fun _ => .slice none 0 0) := ⟨fun c hc => h.c c hc⟩
theorem So.kept {w : World} {r : Ru} {C : Nat} {K' : Nat → Prop} {v : Nat → Value} {n : Nat → Nat} {xs : Nat → List Value} {wr w' : World} (h : So w r C K' v n xs wr) (b : Below wr.heap.size wr w') : So w r C K' v n xs w' :=
  ⟨h.rul.kept b, h.res.kept b, h.fiv.kept b, h.fam.kept b, h.kin, h.cc, bthen h.below b⟩
theorem So.alloc {w : World} {r : Ru} {C : Nat} {K' : Nat → Prop} {v : Nat → Value} {n : Nat → Nat} {xs : Nat → List Value} {wr : World} (h : So w r C K' v n xs wr) (o : Obj) : So w r C (fun g => K' g ∨ g = wr.heap.size) v n xs (wr.alloc o) :=
  have k := h.kept (balloc (Below.refl _ _) o)
  ⟨k.rul, k.res, k.fiv, h.fam.alloc o, fun g hg => .inl (h.kin g hg), k.cc, k.below⟩
section
variable {w : World} {r : Ru} {C : Nat} {K' : Nat → Prop} {v : Nat → Value} {n : Nat → Nat} {xs : Nat → List Value}
/-- a block that was made since is apart from the rows -/
theorem So.add {W2 W3 : World} (h : So w r C K' v n xs W2) (b : Below W2.heap.size W2 W3) {g1 : Nat} (hg : W2.heap.size ≤ g1) (hg2 : g1 < W3.heap.size) : So w r C (fun g => K' g ∨ g = g1) v n xs W3 := by
  have k := h.kept b
  refine ⟨k.rul, k.res, k.fiv, ⟨k.fam.own, k.fam.ap, fun g q => ?_, k.fam.sz⟩, fun g q => .inl (h.kin g q), k.cc, k.below⟩
  rcases q with q | rfl
  · exact k.fam.kb g q
  · exact ⟨hg2, fun c hc e => by have := ((h.fam.own c hc).lt _ e).2; omega⟩
end

end Go.Proofs.YtjageagnclmnjaaGreatDoor.D

end

section
namespace Go.Proofs.YtjageagnclmnjaaGreatDoor.D
open Go.RowKit K
set_option linter.unusedVariables false

section
variable {P : Program} {ops : Array Oper} {Q : Exit → Act → World → Prop}
end

section
variable {ev : Operand → Value} {w : World}
end

/-- where each operation of that region leaves what it yields -/
def s12 (i : Nat) : Nat := if i = 8 then 56 else if i < 8 then 57 + i else if i < 12 then 56 + i else if i = 12 then 10 else if i = 13 then 11 else 12
theorem s12_ne {i j : Nat} (hi : i < 17) (hj : j < 17) (yi : y12 i) (yj : y12 j) (h : j ≠ i) : s12 j ≠ s12 i := by
  have key : ∀ i j : Fin 17, (i.1 == 14 || i.1 == 15 || j.1 == 14 || j.1 == 15 || j.1 == i.1 || s12 j.1 != s12 i.1) = true := by decide
  have := key ⟨i, hi⟩ ⟨j, hj⟩
  simp only [Bool.or_eq_true, beq_iff_eq, bne_iff_ne] at this
  unfold y12 at yi yj
  rcases this with ((((q | q) | q) | q) | q) | q
  · exact absurd q yi.1
  · exact absurd q yi.2
  · exact absurd q yj.1
  · exact absurd q yj.2
  · exact absurd q h
  · exact q
/-- what holds behind whichever have come up -/
structure G12 (W2 : World) (vals : Nat → Value) (yy : Sx) (rr : Rx) (L : Array Bool) (y : Nat → Value) (Nx Rd : Nat) (w : World) : Prop where
  ls : L.size = 17
  sl : ∀ i, i < 17 → y12 i → L.getD i false = true → y (s12 i) = v12 vals Nx Rd i
  bel : Below W2.heap.size W2 w
  nx0 : L.getD 12 false = true → W2.heap.size ≤ Nx ∧ Nx < w.heap.size ∧ (L.getD 14 false = false → Sta w Nx 0 0 0 0 0 0 0 0 0 0 0 0 0 0) ∧ (L.getD 14 false = true → Sta w Nx yy.f0.k yy.f0.n yy.f0.b yy.f0.a yy.f0.s yy.f0.q yy.f1.k yy.f1.n yy.f1.b yy.f1.a yy.f1.s yy.f1.q yy.w0 yy.w1)
  rd0 : L.getD 13 false = true → W2.heap.size ≤ Rd ∧ Rd < w.heap.size ∧ (L.getD 15 false = false → Rnd w Rd 0 0 0 0 0 0) ∧ (L.getD 15 false = true → Rnd w Rd rr.s0 rr.s1 rr.c0 rr.c1 rr.l0 rr.l1)
  ne : L.getD 12 false = true → L.getD 13 false = true → Nx ≠ Rd
  cl : (L.getD 14 false = true → L.getD 12 false = true) ∧ (L.getD 15 false = true → L.getD 13 false = true)
section
variable {W2 : World} {vals : Nat → Value} {yy : Sx} {rr : Rx} {L : Array Bool} {y : Nat → Value} {Nx Rd : Nat} {w : World}
theorem G12.slots (h : G12 W2 vals yy rr L y Nx Rd w) {i : Nat} (hi : i < 17) (yi : y12 i) {N2 R2 : Nat} {x : Value} (hx : x = v12 vals N2 R2 i) (hold : ∀ j, j < 17 → j ≠ i → L.getD j false = true → v12 vals N2 R2 j = v12 vals Nx Rd j) :
    ∀ j, j < 17 → y12 j → (L.setIfInBounds i true).getD j false = true → up y (s12 i) x (s12 j) = v12 vals N2 R2 j := fun j hj yj hl => by
  rw [getD_set (by rw [h.ls]; exact hi)] at hl
  by_cases e : j = i
  · subst e; rw [up_at]; exact hx
  · rw [if_neg e] at hl
    rw [up_ne _ _ _ (s12_ne hi hj yi yj e), h.sl j hj yj hl, hold j hj e hl]
end

end Go.Proofs.YtjageagnclmnjaaGreatDoor.D

end

section
namespace Go.Proofs.YtjageagnclmnjaaGreatDoor.F3
open Go.RowKit
set_option linter.unusedVariables false

theorem Fam.drewN {B0 : Nat} {K : Nat → Prop} {cur : Nat → Value} {n : Nat → Nat} {xs : Nat → List Value} {wr : World} (h : Fam B0 K cur n xs wr) (q : Nat) : Fam B0 K cur n xs (wr.drewN q) := h.kept (below_drewN (Below.refl _ _) q)
end Go.Proofs.YtjageagnclmnjaaGreatDoor.F3

end

section
namespace Go.Proofs.YtjageagnclmnjaaGreatDoor.D
open Go.RowKit K
set_option linter.unusedVariables false

theorem Mov.refl (B0 : Nat) (K : Nat → Prop) (C M : Nat) (w : World) : Mov B0 K C M w w := ⟨fun _ _ _ _ => rfl, fun _ _ _ h _ => h, Below.refl _ _⟩
section
variable {B0 : Nat} {K : Nat → Prop} {C M : Nat} {r : Ru} {v : Nat → Value} {L Lm : List Sx} {S : List Stp} {F : List Nat} {w w' : World}
/-- a block of K that is neither is written -/
theorem Fnd.put (h : Fnd B0 K C M r v L Lm S F w) {p : Addr} (hp : K p.block) (h1 : p.block ≠ C) (h2 : p.block ≠ M) (x : Value) : Fnd B0 K C M r v L Lm S F (w.setCell p x) :=
  ⟨fun c hc => (World.cell?_setCell_other _ _ _ _ (fun q => h1 (by rw [q]))).trans (h.cf c hc), (World.cell?_setCell_other _ _ _ _ (fun q => h1 (by rw [q]))).trans h.cm, fun c hc => (World.frozen?_setCell _ _ _ _).trans (h.f c hc), h.fam.put hp x, h.kC, h.kM, h.map.same (Below.heap_setCell _ _ _ _ (fun e => h2 e.symm)), h.b0⟩
end
end Go.Proofs.YtjageagnclmnjaaGreatDoor.D

end

section
namespace Go.Proofs.YtjageagnclmnjaaGreatDoor.D
set_option maxRecDepth 100000
open Go.RowKit K
set_option linter.unusedVariables false

section
variable {w : World} {r : Ru} {C M : Nat} {K' : Nat → Prop} {Ds : List Nat} {v : Nat → Value} {G : Gs} {W W' : World}
/-- a block of K' that is none of its own is written -/
theorem Sr.put (h : Sr w r C M K' Ds v G W) {p : Addr} (hp : K' p.block) (hk : ¬ kS w C M p.block) (hb : w.heap.size ≤ p.block) {x : Value} (hx : W.cell? p = some x) (u : Value) : Sr w r C M K' Ds v G (W.setCell p u) := by
  unfold kS at hk
  have ne : ∀ g, kS w C M g → (W.setCell p u).heap[g]? = W.heap[g]? := fun g hg => Below.heap_setCell _ _ _ _ (fun e => hk (by rw [← e]; exact hg))
  refine ⟨h.rul.block (ne _ (.inl rfl)), h.res.same (ne _ (.inr (.inl rfl))), h.er.same (ne _ (.inr (.inr (.inl rfl)))), h.fnd.put hp (fun e => hk (.inr (.inr (.inr (.inl e))))) (fun e => hk (.inr (.inr (.inr (.inr e))))) u, h.kin, h.cc, h.nd, fun D hD => ⟨(h.df D hD).1, (h.df D hD).2.1, ?_⟩, Below.setCell h.below hb u⟩
  refine (Below.heap_setCell _ _ _ _ (fun e => ?_)).trans (h.df D hD).2.2
  exact cells_at hx (by rw [← e]; exact (h.df D hD).2.2) rfl
end
end Go.Proofs.YtjageagnclmnjaaGreatDoor.D

end

section
namespace Go.Proofs.YtjageagnclmnjaaGreatDoor.D
set_option maxRecDepth 100000
open Go.RowKit K
set_option linter.unusedVariables false

section
variable {w : World} {r : Ru} {C M : Nat} {K' : Nat → Prop} {Ds : List Nat} {v : Nat → Value} {G : Gs} {W W' : World}
/-- a block that was made since is apart from the rows -/
theorem Sr.add (h : Sr w r C M K' Ds v G W) (b : Below W.heap.size W W') {g1 : Nat} (hg : W.heap.size ≤ g1) (hg2 : g1 < W'.heap.size) : Sr w r C M (fun g => K' g ∨ g = g1) Ds v G W' := by
  have k := h.kept b
  refine ⟨k.rul, k.res, k.er, ⟨k.fnd.cf, k.fnd.cm, k.fnd.f, ⟨k.fnd.fam.own, k.fnd.fam.ap, fun g q => ?_, k.fnd.fam.sz⟩, .inl k.fnd.kC, .inl k.fnd.kM, k.fnd.map, k.fnd.b0⟩, fun g q => .inl (h.kin g q), k.cc, k.nd, k.df, k.below⟩
  rcases q with q | rfl
  · exact k.fnd.fam.kb g q
  · exact ⟨hg2, fun c hc e => by have := ((h.fnd.fam.own c hc).lt _ e).2; omega⟩
end
end Go.Proofs.YtjageagnclmnjaaGreatDoor.D

end

section
namespace Go.Proofs.YtjageagnclmnjaaGreatDoor.C
open Go.RowKit

theorem Ctl.drewN {w : World} {C : Nat} {k n b a s q : Int} (h : Ctl w C k n b a s q) (m : Nat) : Ctl (w.drewN m) C k n b a s q := h.kept (below_drewN (Below.refl _ _) m)
theorem Ctl.set0 {w : World} {C : Nat} {k n b a s q : Int} (h : Ctl w C k n b a s q) (v : Int) : Ctl (w.setCell ⟨C, 0, none⟩ (.int .i64 v)) C v n b a s q :=
  ⟨World.cell?_setCell_same _ _ _ h.c0, (World.cell?_setCell_other _ _ _ _ (by simp)).trans h.c1, (World.cell?_setCell_other _ _ _ _ (by simp)).trans h.c2, (World.cell?_setCell_other _ _ _ _ (by simp)).trans h.c3, (World.cell?_setCell_other _ _ _ _ (by simp)).trans h.c4, (World.cell?_setCell_other _ _ _ _ (by simp)).trans h.c5,
    (World.frozen?_setCell _ _ _ _).trans h.f0, (World.frozen?_setCell _ _ _ _).trans h.f1, (World.frozen?_setCell _ _ _ _).trans h.f2, (World.frozen?_setCell _ _ _ _).trans h.f3, (World.frozen?_setCell _ _ _ _).trans h.f4, (World.frozen?_setCell _ _ _ _).trans h.f5⟩
theorem Ctl.set5 {w : World} {C : Nat} {k n b a s q : Int} (h : Ctl w C k n b a s q) (v : Int) : Ctl (w.setCell ⟨C, 5, none⟩ (.int .i64 v)) C k n b a s v :=
  ⟨(World.cell?_setCell_other _ _ _ _ (by simp)).trans h.c0, (World.cell?_setCell_other _ _ _ _ (by simp)).trans h.c1, (World.cell?_setCell_other _ _ _ _ (by simp)).trans h.c2, (World.cell?_setCell_other _ _ _ _ (by simp)).trans h.c3, (World.cell?_setCell_other _ _ _ _ (by simp)).trans h.c4, World.cell?_setCell_same _ _ _ h.c5,
    (World.frozen?_setCell _ _ _ _).trans h.f0, (World.frozen?_setCell _ _ _ _).trans h.f1, (World.frozen?_setCell _ _ _ _).trans h.f2, (World.frozen?_setCell _ _ _ _).trans h.f3, (World.frozen?_setCell _ _ _ _).trans h.f4, (World.frozen?_setCell _ _ _ _).trans h.f5⟩
theorem Ctl.put {w : World} {C : Nat} {k n b a s q : Int} (h : Ctl w C k n b a s q) (k' n' b' a' s' q' : Int) : Ctl ((((((w.setCell ⟨C, 0, none⟩ (.int .i64 k')).setCell ⟨C, 1, none⟩ (.int .i64 n')).setCell ⟨C, 2, none⟩ (.int .i64 b')).setCell ⟨C, 3, none⟩ (.int .i64 a')).setCell ⟨C, 4, none⟩ (.int .i64 s')).setCell ⟨C, 5, none⟩ (.int .i64 q')) C k' n' b' a' s' q' :=
  (((((h.set0 k').set1 n').set2 b').set3 a').set4 s').set5 q'
end Go.Proofs.YtjageagnclmnjaaGreatDoor.C

end

section
namespace Go.Proofs.YtjageagnclmnjaaGreatDoor.L
open Go.RowKit

theorem Ctl.drewN {w : World} {C : Nat} {k n b a s q : Int} (h : Ctl w C k n b a s q) (m : Nat) : Ctl (w.drewN m) C k n b a s q := h.kept (below_drewN (Below.refl _ _) m)
theorem Ctl.set0 {w : World} {C : Nat} {k n b a s q : Int} (h : Ctl w C k n b a s q) (v : Int) : Ctl (w.setCell ⟨C, 0, none⟩ (.int .i64 v)) C v n b a s q :=
  ⟨World.cell?_setCell_same _ _ _ h.c0, (World.cell?_setCell_other _ _ _ _ (by simp)).trans h.c1, (World.cell?_setCell_other _ _ _ _ (by simp)).trans h.c2, (World.cell?_setCell_other _ _ _ _ (by simp)).trans h.c3, (World.cell?_setCell_other _ _ _ _ (by simp)).trans h.c4, (World.cell?_setCell_other _ _ _ _ (by simp)).trans h.c5,
    (World.frozen?_setCell _ _ _ _).trans h.f0, (World.frozen?_setCell _ _ _ _).trans h.f1, (World.frozen?_setCell _ _ _ _).trans h.f2, (World.frozen?_setCell _ _ _ _).trans h.f3, (World.frozen?_setCell _ _ _ _).trans h.f4, (World.frozen?_setCell _ _ _ _).trans h.f5⟩
theorem Ctl.set5 {w : World} {C : Nat} {k n b a s q : Int} (h : Ctl w C k n b a s q) (v : Int) : Ctl (w.setCell ⟨C, 5, none⟩ (.int .i64 v)) C k n b a s v :=
  ⟨(World.cell?_setCell_other _ _ _ _ (by simp)).trans h.c0, (World.cell?_setCell_other _ _ _ _ (by simp)).trans h.c1, (World.cell?_setCell_other _ _ _ _ (by simp)).trans h.c2, (World.cell?_setCell_other _ _ _ _ (by simp)).trans h.c3, (World.cell?_setCell_other _ _ _ _ (by simp)).trans h.c4, World.cell?_setCell_same _ _ _ h.c5,
    (World.frozen?_setCell _ _ _ _).trans h.f0, (World.frozen?_setCell _ _ _ _).trans h.f1, (World.frozen?_setCell _ _ _ _).trans h.f2, (World.frozen?_setCell _ _ _ _).trans h.f3, (World.frozen?_setCell _ _ _ _).trans h.f4, (World.frozen?_setCell _ _ _ _).trans h.f5⟩
theorem Ctl.put {w : World} {C : Nat} {k n b a s q : Int} (h : Ctl w C k n b a s q) (k' n' b' a' s' q' : Int) : Ctl ((((((w.setCell ⟨C, 0, none⟩ (.int .i64 k')).setCell ⟨C, 1, none⟩ (.int .i64 n')).setCell ⟨C, 2, none⟩ (.int .i64 b')).setCell ⟨C, 3, none⟩ (.int .i64 a')).setCell ⟨C, 4, none⟩ (.int .i64 s')).setCell ⟨C, 5, none⟩ (.int .i64 q')) C k' n' b' a' s' q' :=
  (((((h.set0 k').set1 n').set2 b').set3 a').set4 s').set5 q'
end Go.Proofs.YtjageagnclmnjaaGreatDoor.L

end
