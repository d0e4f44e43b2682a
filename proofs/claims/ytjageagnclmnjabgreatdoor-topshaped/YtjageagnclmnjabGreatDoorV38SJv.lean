/- PROVED: what the variables that the rows list hold: the table of powers of ten, the two errors of strconv, the names of the kinds; and that it stays so. what bench.Parse answers. states that are found one after another, on plain lists: each is there once, nothing else is come to, what leads to each is the shortest. what '==' tells of two states. on plain lists: SOf comes to its end or there are too many; a run by what is late is a run by numbers. runs are walks of the graph, and walks are runs; who starves, by runs alone; more that may be late, a smaller ratio: no less starve; what is bounded. on plain lists: the cases of what Judge has to tell, and the greatest of potentials. what slices.Equal and the document's own SameInts answer, by walks of their texts. what the document's own QMost answers. what Judge answers, in letters. CONDITIONS: none beyond each theorem's own. -/
import Derived.Test.YtjageagnclmnjabGreatDoorB00Pw
import Derived.Test.YtjageagnclmnjabGreatDoorRows
import Derived.Stop.LaidErr
import Derived.Lib.LaidTab
import Derived.Lib.ItoaNum
import Derived.Shelf.Strconv.Itoa3
import Derived.MakeChecks
import Derived.OpenShut
import Derived.Test.YtjageagnclmnjabGreatDoorB06Prs
import Derived.Test.YtjageagnclmnjabGreatDoorB05Kof
import Derived.Test.YtjageagnclmnjabGreatDoorB07Fam
import Derived.Test.YtjageagnclmnjabGreatDoorB08SoA
import Derived.Test.YtjageagnclmnjabGreatDoorB01Tx
import Derived.Test.YtjageagnclmnjabGreatDoorB13Sr
import Derived.Test.YtjageagnclmnjabGreatDoorB32Lts
import Derived.Test.YtjageagnclmnjabGreatDoorB31QCl
import Derived.Test.YtjageagnclmnjabGreatDoorB26DStart
import Derived.Test.YtjageagnclmnjabGreatDoorB37Lin
section
namespace Go.Proofs.YtjageagnclmnjabGreatDoor.D
open Go.RowKit
set_option linter.unusedVariables false

theorem Lw.grown {B : Nat} {w w' : World} (h : Lw w) (g : Below B w w') (hB : w.heap.size ≤ B) : Lw w' := h.kept ⟨g.os, g.tape, g.output, g.size, fun k hk => g.block k (by omega)⟩
end Go.Proofs.YtjageagnclmnjabGreatDoor.D

end

section
namespace Go.Proofs.YtjageagnclmnjabGreatDoor.D
set_option maxRecDepth 100000
open Go.RowKit K
set_option linter.unusedVariables false

section
variable {w v v' : World} {P : Nat} {p0 p1 p2 p3 p4 : ByteArray}
theorem Ps.drewN (h : Ps w P p0 p1 p2 p3 p4 v) (n : Nat) : Ps w P p0 p1 p2 p3 p4 (v.drewN n) := h.kept (below_drewN (Below.refl _ _) n)
end

end Go.Proofs.YtjageagnclmnjabGreatDoor.D

end

section
namespace Go.Proofs.YtjageagnclmnjabGreatDoor
set_option linter.unusedVariables false

section
variable {α : Type} [DecidableEq α] (step : α → Nat → α) (E : Nat) (s0 : α)

end
section
variable {α : Type} [DecidableEq α]
theorem ix_at {L : List α} (hd : L.Nodup) {i : Nat} {y : α} (h : L[i]? = some y) : ix L y = i := by
  have hi := (List.getElem?_eq_some_iff.1 h).1
  obtain ⟨h1, h2⟩ := ix_mem (List.mem_of_getElem? h)
  have e : L[ix L y]'h1 = L[i]'hi := by
    have a := (List.getElem?_eq_some_iff.1 h2).2
    have b := (List.getElem?_eq_some_iff.1 h).2
    rw [a, b]
  exact (List.getElem_inj hd).1 e
end

section
variable {α : Type} [DecidableEq α] {step : α → Nat → α} {E : Nat} {s0 : α}
/-- all steps of all states have been gone -/
def Done (step : α → Nat → α) (E : Nat) (s0 : α) (t : Nat) : Prop := Live step E s0 t ∧ t = E * (ex step E s0 t).1.length
/-- NOTHING ELSE IS COME TO -/
theorem done_closed {t : Nat} (h : Done step E s0 t) {j n : Nat} {x : α} (hx : (ex step E s0 t).1[j]? = some x) (hn : n < E) : ∃ i, (ex step E s0 t).2[E * j + n]? = some i ∧ (ex step E s0 t).1[i]? = some (step x n) := by
  obtain ⟨hL, ht⟩ := h
  have hj := (List.getElem?_eq_some_iff.1 hx).1
  have hu : E * j + n < t := by
    rw [ht]
    have : E * (j + 1) ≤ E * (ex step E s0 t).1.length := Nat.mul_le_mul_left E (by omega)
    rw [Nat.mul_add, Nat.mul_one] at this
    omega
  obtain ⟨y, i, a1, a2, a3, _, _⟩ := ex_to hL hu
  have e1 : (E * j + n) / E = j := by rw [Nat.mul_add_div (by omega), Nat.div_eq_of_lt hn, Nat.add_zero]
  have e2 : (E * j + n) % E = n := by rw [Nat.mul_add_mod, Nat.mod_eq_of_lt hn]
  rw [e1, hx] at a1
  injection a1 with a1
  subst a1
  rw [e2] at a3
  exact ⟨i, a2, a3⟩
theorem done_run {t : Nat} (h : Done step E s0 t) : ∀ l : List Nat, (∀ n ∈ l, n < E) → l.foldl step s0 ∈ (ex step E s0 t).1 := by
  have go : ∀ (l : List Nat) (x : α), x ∈ (ex step E s0 t).1 → (∀ n ∈ l, n < E) → l.foldl step x ∈ (ex step E s0 t).1 := by
    intro l
    induction l with
    | nil => intro x hx _; exact hx
    | cons n l ih =>
      intro x hx hn
      obtain ⟨j, hj, rfl⟩ := List.getElem_of_mem hx
      obtain ⟨i, _, hi⟩ := done_closed h (List.getElem?_eq_getElem hj) (hn n (by simp))
      exact ih _ (List.mem_of_getElem? hi) (fun m hm => hn m (by simp [hm]))
  exact fun l hl => go l s0 (List.mem_of_getElem? (ex_first h.1)) hl
end

end Go.Proofs.YtjageagnclmnjabGreatDoor

end

section
namespace Go.Proofs.YtjageagnclmnjabGreatDoor.D
open Go.RowKit K

end Go.Proofs.YtjageagnclmnjabGreatDoor.D

end

section
namespace Go.Proofs.YtjageagnclmnjabGreatDoor.D
open Go.RowKit K
set_option linter.unusedVariables false

theorem Dn.done {r : Ru} {T : Nat} (h : Dn r T) : Done (sp r) (ee r) (K.start r) T := ⟨h.1, h.2.1⟩

/-- the number of what is late -/
def nl (r : Ru) (p : Int × Int) : Nat := p.1.toNat * jj r + p.2.toNat
theorem nl_lt {r : Ru} (hr : ranges r) {p : Int × Int} (h : lates r p.1 p.2) : nl r p < ee r ∧ ∀ s, sp r s (nl r p) = K.step r s p.1 p.2 := by
  obtain ⟨e, _, _⟩ := jj_cast hr
  unfold lates at h
  have h1 : p.1.toNat < jj r := by omega
  have h2 : p.2.toNat < jj r := by omega
  have d1 : nl r p / jj r = p.1.toNat := by
    unfold nl
    rw [Nat.mul_comm, Nat.mul_add_div (by omega), Nat.div_eq_of_lt h2, Nat.add_zero]
  have d2 : nl r p % jj r = p.2.toNat := by
    unfold nl
    rw [Nat.mul_comm, Nat.mul_add_mod, Nat.mod_eq_of_lt h2]
  refine ⟨?_, fun s => ?_⟩
  · have : (p.1.toNat + 1) * jj r ≤ jj r * jj r := Nat.mul_le_mul_right _ h1
    rw [Nat.add_mul, Nat.one_mul] at this
    unfold nl ee
    omega
  · unfold sp
    rw [d1, d2, Int.toNat_of_nonneg h.1.1, Int.toNat_of_nonneg h.2.1]
theorem steps_sp {r : Ru} (hr : ranges r) : ∀ (ls : List (Int × Int)) (s : Sx), allLate r ls → (∀ n ∈ ls.map (nl r), n < ee r) ∧ steps r s ls = (ls.map (nl r)).foldl (sp r) s := by
  intro ls
  induction ls with
  | nil => intro s _; exact ⟨fun n h => by simp at h, rfl⟩
  | cons p ls ih =>
    intro s h
    obtain ⟨h1, h2⟩ := nl_lt hr (h p (List.mem_cons_self ..))
    obtain ⟨a, b⟩ := ih (K.step r s p.1 p.2) fun q hq => h q (List.mem_cons_of_mem _ hq)
    refine ⟨fun n hn => ?_, ?_⟩
    · rw [List.map_cons] at hn
      rcases List.mem_cons.1 hn with q | q
      · rw [q]; exact h1
      · exact a n q
    · rw [List.map_cons, List.foldl_cons, h2]; exact b
/-- nothing else is come to -/
theorem run_in {r : Ru} (hr : ranges r) {T : Nat} (h : Dn r T) {ls : List (Int × Int)} (hl : allLate r ls) : steps r (K.start r) ls ∈ (xp r T).1 := by
  obtain ⟨a, b⟩ := steps_sp hr ls (K.start r) hl
  rw [b]
  exact done_run h.done _ a
end Go.Proofs.YtjageagnclmnjabGreatDoor.D

end

section
namespace Go.Proofs.YtjageagnclmnjabGreatDoor.D
open Go.RowKit K
set_option linter.unusedVariables false

section
variable {r : Ru} {T : Nat} (hT : Dn r T) (who ratio : Int)
include hT
/-- a run from a state on is a walk -/
theorem run_path (hr : ranges r) : ∀ (l : List (Int × Int)) (i : Nat), i < (xp r T).1.length → allLate r l → ∃ (c : List Q.Eg) (j : Nat), Q.Path (esG r T who ratio) i c j ∧ j < (xp r T).1.length ∧ stt r T j = steps r (stt r T i) l ∧ c.length = l.length ∧ Q.wt c = total (wgt who ratio) (rounds r (stt r T i) l) := by
  intro l
  induction l with
  | nil => exact fun i hi _ => ⟨[], i, rfl, hi, rfl, rfl, rfl⟩
  | cons p l ih =>
    intro i hi hl
    have hlp := hl p (by simp)
    obtain ⟨n1, n2⟩ := nl_lt hr hlp
    have hu : ee r * i + nl r p < T := by
      have h1 : ee r * (i + 1) ≤ ee r * (xp r T).1.length := Nat.mul_le_mul_left _ hi
      rw [Nat.mul_add, Nat.mul_one] at h1
      have e := hT.2.1
      omega
    have hd : (ee r * i + nl r p) / ee r = i := by rw [Nat.mul_add_div (ee_pos r), Nat.div_eq_of_lt n1, Nat.add_zero]
    have hm : (ee r * i + nl r p) % ee r = nl r p := by rw [Nat.mul_add_mod, Nat.mod_eq_of_lt n1]
    obtain ⟨a, b, c, d⟩ := ed_is hT who ratio hu
    rw [hd, hm, n2] at c
    rw [hd] at d
    obtain ⟨cs, j, h1, h2, h3, h4, h5⟩ := ih (ed r T who ratio (ee r * i + nl r p)).t b (fun q hq => hl q (by simp [hq]))
    refine ⟨ed r T who ratio (ee r * i + nl r p) :: cs, j, ⟨esG_mem.2 ⟨_, hu, rfl⟩, hd, h1⟩, h2, ?_, by simp [h4], ?_⟩
    · rw [h3, c]; rfl
    · show (ed r T who ratio (ee r * i + nl r p)).x + Q.wt cs = wgt who ratio (K.round r (stt r T i)) + total (wgt who ratio) (rounds r (K.step r (stt r T i) p.1 p.2) l)
      rw [h5, c, d]
/-- and a walk is a run -/
theorem path_run (hr : ranges r) : ∀ (c : List Q.Eg) (i j : Nat), i < (xp r T).1.length → Q.Path (esG r T who ratio) i c j → ∃ l, allLate r l ∧ l.length = c.length ∧ steps r (stt r T i) l = stt r T j ∧ total (wgt who ratio) (rounds r (stt r T i) l) = Q.wt c := by
  intro c
  induction c with
  | nil => intro i j hi h; cases h; exact ⟨[], (fun _ h => by cases h), rfl, rfl, rfl⟩
  | cons e c ih =>
    rintro i j hi ⟨h1, h2, h3⟩
    obtain ⟨u, hu, rfl⟩ := esG_mem.1 h1
    obtain ⟨a, b, q, d⟩ := ed_is hT who ratio hu
    have e : u / ee r = i := h2
    rw [e] at q d
    obtain ⟨l, g1, g2, g3, g4⟩ := ih _ j b h3
    have hl := sp_lates hr (n := u % ee r) (Nat.mod_lt _ (ee_pos r))
    refine ⟨pr r (u % ee r) :: l, fun p hp => ?_, by simp [g2], ?_, ?_⟩
    · rcases List.mem_cons.1 hp with rfl | hp
      · exact hl
      · exact g1 p hp
    · show steps r (sp r (stt r T i) (u % ee r)) l = _
      rw [← q, g3]
    · show wgt who ratio (K.round r (stt r T i)) + total (wgt who ratio) (rounds r (sp r (stt r T i) (u % ee r)) l) = (ed r T who ratio u).x + Q.wt c
      rw [← q, g4, d]
end

/-- one starves the other: a run that comes to a state, and one that leads there again and brings more -/
def Starve (r : Ru) (who ratio : Int) : Prop := ∃ a c, allLate r a ∧ allLate r c ∧ steps r (steps r (K.start r) a) c = steps r (K.start r) a ∧ 0 < total (wgt who ratio) (rounds r (steps r (K.start r) a) c)
theorem stt_run {r : Ru} {T : Nat} (hr : ranges r) (hT : Dn r T) {i : Nat} (hi : i < (xp r T).1.length) : ∃ a, allLate r a ∧ steps r (K.start r) a = stt r T i := by
  obtain ⟨l, hL⟩ := ld_some hT.1 i hi
  obtain ⟨_, hm⟩ := ld_small hL
  have h := ld_run hT.1 i l hL hi
  refine ⟨l.map (pr r), fun p hp => ?_, ?_⟩
  · obtain ⟨n, hn, rfl⟩ := List.mem_map.1 hp
    exact sp_lates hr (hm n hn)
  · rw [steps_pr, stt_at h]
theorem starve_iff {r : Ru} {T : Nat} (hr : ranges r) (hT : Dn r T) (who ratio : Int) : Starve r who ratio ↔ ¬ Q.noPos (esG r T who ratio) := by
  constructor
  · rintro ⟨a, c, ha, hc, h1, h2⟩ hn
    have hm := run_in hr hT ha
    obtain ⟨i1, i2⟩ := ix_mem hm
    have e := stt_at i2
    obtain ⟨cs, j, g1, g2, g3, _, g5⟩ := run_path hT who ratio hr c _ i1 hc
    rw [e] at g3 g5
    rw [h1] at g3
    have hj : j = ix (xp r T).1 (steps r (K.start r) a) := by
      have := stt_get g2
      rw [g3] at this
      exact (ix_at (ex_nodup hT.1) this).symm
    subst hj
    have := hn _ _ g1
    omega
  · intro h
    obtain ⟨u, h⟩ := Classical.not_forall.1 h
    obtain ⟨l, h⟩ := Classical.not_forall.1 h
    obtain ⟨hp, hw⟩ := Classical.not_imp.1 h
    have hu : u < (xp r T).1.length := by
      cases l with
      | nil => exact absurd (show Q.wt [] ≤ 0 by simp [Q.wt]) hw
      | cons e l =>
        obtain ⟨g1, g2, _⟩ := hp
        rw [← g2]
        exact (esG_inn hT who ratio e g1).1
    obtain ⟨c, g1, g2, g3, g4⟩ := path_run hT who ratio hr l u u hu hp
    obtain ⟨a, a1, a2⟩ := stt_run hr hT hu
    exact ⟨a, c, a1, g1, by rw [a2, g3], by rw [a2, g4]; omega⟩

end Go.Proofs.YtjageagnclmnjabGreatDoor.D

end

section
namespace Go.Proofs.YtjageagnclmnjabGreatDoor.D
open Go.RowKit K
set_option linter.unusedVariables false

theorem Jb.not {r : Ru} {who ratio : Int} {T : Nat} {d : Nat → Int} (h : Jb r who ratio T d) : ¬ Starve r who ratio := fun q =>
  (starve_iff (wrong_ok.1 h.ok).2 h.dn who ratio).1 q h.mst.noPos
theorem Js.yes {r : Ru} {who ratio : Int} {T : Nat} (h : Js r who ratio T) : Starve r who ratio := (starve_iff (wrong_ok.1 h.ok).2 h.dn who ratio).2 h.pos

end Go.Proofs.YtjageagnclmnjabGreatDoor.D

end

section
namespace Go.Proofs.YtjageagnclmnjabGreatDoor.Q
open Go.RowKit

end Go.Proofs.YtjageagnclmnjabGreatDoor.Q

end

section
namespace Go.Proofs.YtjageagnclmnjabGreatDoor.Q
set_option maxRecDepth 100000
open Go.RowKit

end Go.Proofs.YtjageagnclmnjabGreatDoor.Q

end

section
namespace Go.Proofs.YtjageagnclmnjabGreatDoor.D
set_option maxRecDepth 100000
open Go.RowKit K
set_option linter.unusedVariables false

/-- what the letters say -/
theorem Jv.ok {r : Ru} {who ratio k m E : Int} (h : Jv r who ratio k m E) (hE : E = 0 ∨ E = 4) : Rg who ratio ∧ wrong r = 0 := by
  rcases h with ⟨h, rfl, rfl⟩ | ⟨T, d, h, rfl, rfl, rfl⟩ | ⟨T, h, rfl, rfl, rfl⟩
  · rcases h with ⟨_, rfl⟩ | ⟨hg, ⟨hw, he⟩ | ⟨hw, _, rfl⟩⟩
    · omega
    · have : wrong r = 0 ∨ wrong r = 2 ∨ wrong r = 5 := by
        unfold wrong
        split
        · split <;> simp
        · simp
      rw [hw] at this
      rcases hE with rfl | rfl
      · simp at he
      · omega
    · exact ⟨hg, hw⟩
  · exact ⟨h.rg, h.ok⟩
  · exact ⟨h.rg, h.ok⟩
theorem Jv.zero {r : Ru} {who ratio k m : Int} (h : Jv r who ratio k m 0) : k = 2 ∧ Starve r who ratio ∨ k = 1 ∧ ¬ Starve r who ratio := by
  rcases h with ⟨h, rfl, rfl⟩ | ⟨T, d, h, rfl, rfl, _⟩ | ⟨T, h, rfl, rfl, _⟩
  · have := h.ne; simp at this
  · exact .inr ⟨rfl, h.not⟩
  · exact .inl ⟨rfl, h.yes⟩
end Go.Proofs.YtjageagnclmnjabGreatDoor.D

end
