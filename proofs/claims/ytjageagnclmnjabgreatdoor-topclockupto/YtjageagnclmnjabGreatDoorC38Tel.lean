/- PROVED: what the variables that the rows list hold: the table of powers of ten, the two errors of strconv, the names of the kinds; and that it stays so. what bench.Parse answers. states that are found one after another, on plain lists: each is there once, nothing else is come to, what leads to each is the shortest. what '==' tells of two states. on plain lists: SOf comes to its end or there are too many; a run by what is late is a run by numbers. runs are walks of the graph, and walks are runs; who starves, by runs alone; more that may be late, a smaller ratio: no less starve; what is bounded. on plain lists: the cases of what Judge has to tell, and the greatest of potentials. what slices.Equal and the document's own SameInts answer, by walks of their texts. what the document's own QMost answers. what Judge answers, in letters. what bench.Tell answers. CONDITIONS: none beyond each theorem's own. -/
import Derived.Test.YtjageagnclmnjabGreatDoorB00Pw
import Derived.Test.YtjageagnclmnjabGreatDoorRows
import Derived.Stop.LaidErr
import Derived.Lib.LaidTab
import Derived.Lib.ItoaNum
import Derived.Shelf.Strconv.Itoa3
import Derived.MakeChecks
import Derived.OpenShut
import Derived.Test.YtjageagnclmnjabGreatDoorB06Prs
import Derived.Test.YtjageagnclmnjabGreatDoorB05Kof
import Derived.Test.YtjageagnclmnjabGreatDoorB07Fam
import Derived.Test.YtjageagnclmnjabGreatDoorB08SoA
import Derived.Test.YtjageagnclmnjabGreatDoorB01Tx
import Derived.Test.YtjageagnclmnjabGreatDoorB13Sr
import Derived.Test.YtjageagnclmnjabGreatDoorB32Lts
import Derived.Test.YtjageagnclmnjabGreatDoorB31QCl
import Derived.Test.YtjageagnclmnjabGreatDoorB26DStart
import Derived.Test.YtjageagnclmnjabGreatDoorB37Lin
import Derived.Laws.AppendOwn
import Derived.Lib.Hide
section
namespace Go.Proofs.YtjageagnclmnjabGreatDoor.D
open Go.RowKit
set_option linter.unusedVariables false

theorem Lw.grown {B : Nat} {w w' : World} (h : Lw w) (g : Below B w w') (hB : w.heap.size ≤ B) : Lw w' := h.kept ⟨g.os, g.tape, g.output, g.size, fun k hk => g.block k (by omega)⟩
end Go.Proofs.YtjageagnclmnjabGreatDoor.D

end

section
namespace Go.Proofs.YtjageagnclmnjabGreatDoor.D
set_option maxRecDepth 100000
open Go.RowKit K
set_option linter.unusedVariables false

section
variable {w v v' : World} {P : Nat} {p0 p1 p2 p3 p4 : ByteArray}
theorem Ps.drewN (h : Ps w P p0 p1 p2 p3 p4 v) (n : Nat) : Ps w P p0 p1 p2 p3 p4 (v.drewN n) := h.kept (below_drewN (Below.refl _ _) n)
end

end Go.Proofs.YtjageagnclmnjabGreatDoor.D

end

section
namespace Go.Proofs.YtjageagnclmnjabGreatDoor
set_option linter.unusedVariables false

section
variable {α : Type} [DecidableEq α] (step : α → Nat → α) (E : Nat) (s0 : α)

end
section
variable {α : Type} [DecidableEq α]
theorem ix_at {L : List α} (hd : L.Nodup) {i : Nat} {y : α} (h : L[i]? = some y) : ix L y = i := by
  have hi := (List.getElem?_eq_some_iff.1 h).1
  obtain ⟨h1, h2⟩ := ix_mem (List.mem_of_getElem? h)
  have e : L[ix L y]'h1 = L[i]'hi := by
    have a := (List.getElem?_eq_some_iff.1 h2).2
    have b := (List.getElem?_eq_some_iff.1 h).2
    rw [a, b]
  exact (List.getElem_inj hd).1 e
end

section
variable {α : Type} [DecidableEq α] {step : α → Nat → α} {E : Nat} {s0 : α}
/-- all steps of all states have been gone -/
def Done (step : α → Nat → α) (E : Nat) (s0 : α) (t : Nat) : Prop := Live step E s0 t ∧ t = E * (ex step E s0 t).1.length
/-- NOTHING ELSE IS COME TO -/
theorem done_closed {t : Nat} (h : Done step E s0 t) {j n : Nat} {x : α} (hx : (ex step E s0 t).1[j]? = some x) (hn : n < E) : ∃ i, (ex step E s0 t).2[E * j + n]? = some i ∧ (ex step E s0 t).1[i]? = some (step x n) := by
  obtain ⟨hL, ht⟩ := h
  have hj := (List.getElem?_eq_some_iff.1 hx).1
  have hu : E * j + n < t := by
    rw [ht]
    have : E * (j + 1) ≤ E * (ex step E s0 t).1.length := Nat.mul_le_mul_left E (by omega)
    rw [Nat.mul_add, Nat.mul_one] at this
    omega
  obtain ⟨y, i, a1, a2, a3, _, _⟩ := ex_to hL hu
  have e1 : (E * j + n) / E = j := by rw [Nat.mul_add_div (by omega), Nat.div_eq_of_lt hn, Nat.add_zero]
  have e2 : (E * j + n) % E = n := by rw [Nat.mul_add_mod, Nat.mod_eq_of_lt hn]
  rw [e1, hx] at a1
  injection a1 with a1
  subst a1
  rw [e2] at a3
  exact ⟨i, a2, a3⟩
theorem done_run {t : Nat} (h : Done step E s0 t) : ∀ l : List Nat, (∀ n ∈ l, n < E) → l.foldl step s0 ∈ (ex step E s0 t).1 := by
  have go : ∀ (l : List Nat) (x : α), x ∈ (ex step E s0 t).1 → (∀ n ∈ l, n < E) → l.foldl step x ∈ (ex step E s0 t).1 := by
    intro l
    induction l with
    | nil => intro x hx _; exact hx
    | cons n l ih =>
      intro x hx hn
      obtain ⟨j, hj, rfl⟩ := List.getElem_of_mem hx
      obtain ⟨i, _, hi⟩ := done_closed h (List.getElem?_eq_getElem hj) (hn n (by simp))
      exact ih _ (List.mem_of_getElem? hi) (fun m hm => hn m (by simp [hm]))
  exact fun l hl => go l s0 (List.mem_of_getElem? (ex_first h.1)) hl
end

end Go.Proofs.YtjageagnclmnjabGreatDoor

end

section
namespace Go.Proofs.YtjageagnclmnjabGreatDoor.D
open Go.RowKit K

end Go.Proofs.YtjageagnclmnjabGreatDoor.D

end

section
namespace Go.Proofs.YtjageagnclmnjabGreatDoor.D
open Go.RowKit K
set_option linter.unusedVariables false

theorem Dn.done {r : Ru} {T : Nat} (h : Dn r T) : Done (sp r) (ee r) (K.start r) T := ⟨h.1, h.2.1⟩

/-- the number of what is late -/
def nl (r : Ru) (p : Int × Int) : Nat := p.1.toNat * jj r + p.2.toNat
theorem nl_lt {r : Ru} (hr : ranges r) {p : Int × Int} (h : lates r p.1 p.2) : nl r p < ee r ∧ ∀ s, sp r s (nl r p) = K.step r s p.1 p.2 := by
  obtain ⟨e, _, _⟩ := jj_cast hr
  unfold lates at h
  have h1 : p.1.toNat < jj r := by omega
  have h2 : p.2.toNat < jj r := by omega
  have d1 : nl r p / jj r = p.1.toNat := by
    unfold nl
    rw [Nat.mul_comm, Nat.mul_add_div (by omega), Nat.div_eq_of_lt h2, Nat.add_zero]
  have d2 : nl r p % jj r = p.2.toNat := by
    unfold nl
    rw [Nat.mul_comm, Nat.mul_add_mod, Nat.mod_eq_of_lt h2]
  refine ⟨?_, fun s => ?_⟩
  · have : (p.1.toNat + 1) * jj r ≤ jj r * jj r := Nat.mul_le_mul_right _ h1
    rw [Nat.add_mul, Nat.one_mul] at this
    unfold nl ee
    omega
  · unfold sp
    rw [d1, d2, Int.toNat_of_nonneg h.1.1, Int.toNat_of_nonneg h.2.1]
theorem steps_sp {r : Ru} (hr : ranges r) : ∀ (ls : List (Int × Int)) (s : Sx), allLate r ls → (∀ n ∈ ls.map (nl r), n < ee r) ∧ steps r s ls = (ls.map (nl r)).foldl (sp r) s := by
  intro ls
  induction ls with
  | nil => intro s _; exact ⟨fun n h => by simp at h, rfl⟩
  | cons p ls ih =>
    intro s h
    obtain ⟨h1, h2⟩ := nl_lt hr (h p (List.mem_cons_self ..))
    obtain ⟨a, b⟩ := ih (K.step r s p.1 p.2) fun q hq => h q (List.mem_cons_of_mem _ hq)
    refine ⟨fun n hn => ?_, ?_⟩
    · rw [List.map_cons] at hn
      rcases List.mem_cons.1 hn with q | q
      · rw [q]; exact h1
      · exact a n q
    · rw [List.map_cons, List.foldl_cons, h2]; exact b
/-- nothing else is come to -/
theorem run_in {r : Ru} (hr : ranges r) {T : Nat} (h : Dn r T) {ls : List (Int × Int)} (hl : allLate r ls) : steps r (K.start r) ls ∈ (xp r T).1 := by
  obtain ⟨a, b⟩ := steps_sp hr ls (K.start r) hl
  rw [b]
  exact done_run h.done _ a
end Go.Proofs.YtjageagnclmnjabGreatDoor.D

end

section
namespace Go.Proofs.YtjageagnclmnjabGreatDoor.D
open Go.RowKit K
set_option linter.unusedVariables false

section
variable {r : Ru} {T : Nat} (hT : Dn r T) (who ratio : Int)
include hT
/-- a run from a state on is a walk -/
theorem run_path (hr : ranges r) : ∀ (l : List (Int × Int)) (i : Nat), i < (xp r T).1.length → allLate r l → ∃ (c : List Q.Eg) (j : Nat), Q.Path (esG r T who ratio) i c j ∧ j < (xp r T).1.length ∧ stt r T j = steps r (stt r T i) l ∧ c.length = l.length ∧ Q.wt c = total (wgt who ratio) (rounds r (stt r T i) l) := by
  intro l
  induction l with
  | nil => exact fun i hi _ => ⟨[], i, rfl, hi, rfl, rfl, rfl⟩
  | cons p l ih =>
    intro i hi hl
    have hlp := hl p (by simp)
    obtain ⟨n1, n2⟩ := nl_lt hr hlp
    have hu : ee r * i + nl r p < T := by
      have h1 : ee r * (i + 1) ≤ ee r * (xp r T).1.length := Nat.mul_le_mul_left _ hi
      rw [Nat.mul_add, Nat.mul_one] at h1
      have e := hT.2.1
      omega
    have hd : (ee r * i + nl r p) / ee r = i := by rw [Nat.mul_add_div (ee_pos r), Nat.div_eq_of_lt n1, Nat.add_zero]
    have hm : (ee r * i + nl r p) % ee r = nl r p := by rw [Nat.mul_add_mod, Nat.mod_eq_of_lt n1]
    obtain ⟨a, b, c, d⟩ := ed_is hT who ratio hu
    rw [hd, hm, n2] at c
    rw [hd] at d
    obtain ⟨cs, j, h1, h2, h3, h4, h5⟩ := ih (ed r T who ratio (ee r * i + nl r p)).t b (fun q hq => hl q (by simp [hq]))
    refine ⟨ed r T who ratio (ee r * i + nl r p) :: cs, j, ⟨esG_mem.2 ⟨_, hu, rfl⟩, hd, h1⟩, h2, ?_, by simp [h4], ?_⟩
    · rw [h3, c]; rfl
    · show (ed r T who ratio (ee r * i + nl r p)).x + Q.wt cs = wgt who ratio (K.round r (stt r T i)) + total (wgt who ratio) (rounds r (K.step r (stt r T i) p.1 p.2) l)
      rw [h5, c, d]
/-- and a walk is a run -/
theorem path_run (hr : ranges r) : ∀ (c : List Q.Eg) (i j : Nat), i < (xp r T).1.length → Q.Path (esG r T who ratio) i c j → ∃ l, allLate r l ∧ l.length = c.length ∧ steps r (stt r T i) l = stt r T j ∧ total (wgt who ratio) (rounds r (stt r T i) l) = Q.wt c := by
  intro c
  induction c with
  | nil => intro i j hi h; cases h; exact ⟨[], (fun _ h => by cases h), rfl, rfl, rfl⟩
  | cons e c ih =>
    rintro i j hi ⟨h1, h2, h3⟩
    obtain ⟨u, hu, rfl⟩ := esG_mem.1 h1
    obtain ⟨a, b, q, d⟩ := ed_is hT who ratio hu
    have e : u / ee r = i := h2
    rw [e] at q d
    obtain ⟨l, g1, g2, g3, g4⟩ := ih _ j b h3
    have hl := sp_lates hr (n := u % ee r) (Nat.mod_lt _ (ee_pos r))
    refine ⟨pr r (u % ee r) :: l, fun p hp => ?_, by simp [g2], ?_, ?_⟩
    · rcases List.mem_cons.1 hp with rfl | hp
      · exact hl
      · exact g1 p hp
    · show steps r (sp r (stt r T i) (u % ee r)) l = _
      rw [← q, g3]
    · show wgt who ratio (K.round r (stt r T i)) + total (wgt who ratio) (rounds r (sp r (stt r T i) (u % ee r)) l) = (ed r T who ratio u).x + Q.wt c
      rw [← q, g4, d]
end

/-- one starves the other: a run that comes to a state, and one that leads there again and brings more -/
def Starve (r : Ru) (who ratio : Int) : Prop := ∃ a c, allLate r a ∧ allLate r c ∧ steps r (steps r (K.start r) a) c = steps r (K.start r) a ∧ 0 < total (wgt who ratio) (rounds r (steps r (K.start r) a) c)
theorem stt_run {r : Ru} {T : Nat} (hr : ranges r) (hT : Dn r T) {i : Nat} (hi : i < (xp r T).1.length) : ∃ a, allLate r a ∧ steps r (K.start r) a = stt r T i := by
  obtain ⟨l, hL⟩ := ld_some hT.1 i hi
  obtain ⟨_, hm⟩ := ld_small hL
  have h := ld_run hT.1 i l hL hi
  refine ⟨l.map (pr r), fun p hp => ?_, ?_⟩
  · obtain ⟨n, hn, rfl⟩ := List.mem_map.1 hp
    exact sp_lates hr (hm n hn)
  · rw [steps_pr, stt_at h]
theorem starve_iff {r : Ru} {T : Nat} (hr : ranges r) (hT : Dn r T) (who ratio : Int) : Starve r who ratio ↔ ¬ Q.noPos (esG r T who ratio) := by
  constructor
  · rintro ⟨a, c, ha, hc, h1, h2⟩ hn
    have hm := run_in hr hT ha
    obtain ⟨i1, i2⟩ := ix_mem hm
    have e := stt_at i2
    obtain ⟨cs, j, g1, g2, g3, _, g5⟩ := run_path hT who ratio hr c _ i1 hc
    rw [e] at g3 g5
    rw [h1] at g3
    have hj : j = ix (xp r T).1 (steps r (K.start r) a) := by
      have := stt_get g2
      rw [g3] at this
      exact (ix_at (ex_nodup hT.1) this).symm
    subst hj
    have := hn _ _ g1
    omega
  · intro h
    obtain ⟨u, h⟩ := Classical.not_forall.1 h
    obtain ⟨l, h⟩ := Classical.not_forall.1 h
    obtain ⟨hp, hw⟩ := Classical.not_imp.1 h
    have hu : u < (xp r T).1.length := by
      cases l with
      | nil => exact absurd (show Q.wt [] ≤ 0 by simp [Q.wt]) hw
      | cons e l =>
        obtain ⟨g1, g2, _⟩ := hp
        rw [← g2]
        exact (esG_inn hT who ratio e g1).1
    obtain ⟨c, g1, g2, g3, g4⟩ := path_run hT who ratio hr l u u hu hp
    obtain ⟨a, a1, a2⟩ := stt_run hr hT hu
    exact ⟨a, c, a1, g1, by rw [a2, g3], by rw [a2, g4]; omega⟩

end Go.Proofs.YtjageagnclmnjabGreatDoor.D

end

section
namespace Go.Proofs.YtjageagnclmnjabGreatDoor.D
open Go.RowKit K
set_option linter.unusedVariables false

theorem Jb.not {r : Ru} {who ratio : Int} {T : Nat} {d : Nat → Int} (h : Jb r who ratio T d) : ¬ Starve r who ratio := fun q =>
  (starve_iff (wrong_ok.1 h.ok).2 h.dn who ratio).1 q h.mst.noPos
theorem Js.yes {r : Ru} {who ratio : Int} {T : Nat} (h : Js r who ratio T) : Starve r who ratio := (starve_iff (wrong_ok.1 h.ok).2 h.dn who ratio).2 h.pos

end Go.Proofs.YtjageagnclmnjabGreatDoor.D

end

section
namespace Go.Proofs.YtjageagnclmnjabGreatDoor.Q
open Go.RowKit

end Go.Proofs.YtjageagnclmnjabGreatDoor.Q

end

section
namespace Go.Proofs.YtjageagnclmnjabGreatDoor.Q
set_option maxRecDepth 100000
open Go.RowKit

end Go.Proofs.YtjageagnclmnjabGreatDoor.Q

end

section
namespace Go.Proofs.YtjageagnclmnjabGreatDoor.D
set_option maxRecDepth 100000
open Go.RowKit K
set_option linter.unusedVariables false

/-- what the letters say -/
theorem Jv.ok {r : Ru} {who ratio k m E : Int} (h : Jv r who ratio k m E) (hE : E = 0 ∨ E = 4) : Rg who ratio ∧ wrong r = 0 := by
  rcases h with ⟨h, rfl, rfl⟩ | ⟨T, d, h, rfl, rfl, rfl⟩ | ⟨T, h, rfl, rfl, rfl⟩
  · rcases h with ⟨_, rfl⟩ | ⟨hg, ⟨hw, he⟩ | ⟨hw, _, rfl⟩⟩
    · omega
    · have : wrong r = 0 ∨ wrong r = 2 ∨ wrong r = 5 := by
        unfold wrong
        split
        · split <;> simp
        · simp
      rw [hw] at this
      rcases hE with rfl | rfl
      · simp at he
      · omega
    · exact ⟨hg, hw⟩
  · exact ⟨h.rg, h.ok⟩
  · exact ⟨h.rg, h.ok⟩
theorem Jv.zero {r : Ru} {who ratio k m : Int} (h : Jv r who ratio k m 0) : k = 2 ∧ Starve r who ratio ∨ k = 1 ∧ ¬ Starve r who ratio := by
  rcases h with ⟨h, rfl, rfl⟩ | ⟨T, d, h, rfl, rfl, _⟩ | ⟨T, h, rfl, rfl, _⟩
  · have := h.ne; simp at this
  · exact .inr ⟨rfl, h.not⟩
  · exact .inl ⟨rfl, h.yes⟩
end Go.Proofs.YtjageagnclmnjabGreatDoor.D

end

section
namespace Go.Proofs.YtjageagnclmnjabGreatDoor.D
set_option maxRecDepth 100000
open Go.RowKit K
set_option linter.unusedVariables false

theorem infS : (Tryz.prog.info? 9).map (fun i => (i.zero, i.size, i.bytes)) = some (some (.string ⟨#[]⟩), 1, 16) := by kernel_rfl
theorem str_new (w : World) (x : ByteArray) (j : Nat) (u : Value) (h : [Value.string x][j]? = some u) : (w.alloc (.cells #[.string x] 9)).cell? ((⟨w.heap.size, 0, none⟩ : Addr).add j) = some u := by
  rw [Addr.add_lit, Nat.zero_add]
  exact (World.cell?_alloc_at (w := w) #[.string x] 9 w.heap.size j rfl).trans (by simpa using h)
theorem ownS_kept {wr w1 : World} {base : Nat} {t : Value} {n : Nat} {xs : List Value} (h : wr.ownsRow base 9 1 t n xs) (b : Below wr.heap.size wr w1) : w1.ownsRow base 9 1 t n xs := by
  obtain ⟨hl, h2⟩ := h
  refine ⟨hl, ?_⟩
  rcases h2 with e | ⟨g, cap, cur, e, hg, hh, r⟩
  · exact .inl e
  · refine .inr ⟨g, cap, cur, e, hg, ?_, r⟩
    have : g < wr.heap.size := lt_of_block hh
    rw [b.block g this]; exact hh
/-- what lies there while lines are gathered: the rules in block C, ahead of all that is gathered -/
structure Tg (w : World) (C : Nat) (p0 p1 r m j : Int) (t : Value) (xs : List ByteArray) (v : World) : Prop where
  l0 : Lw w
  x : Rul v C p0 p1 r m j
  hC : w.heap.size ≤ C
  own : v.ownsRow (C + 1) 9 1 t xs.length (xs.map Value.string)
  b : Below (C + 1) v v
  bw : Below w.heap.size w v
section
variable {w v v' : World} {C : Nat} {p0 p1 r m j : Int} {t t' : Value} {xs : List ByteArray}
theorem Tg.lw (h : Tg w C p0 p1 r m j t xs v) : Lw v := h.l0.kept h.bw
theorem Tg.kept (h : Tg w C p0 p1 r m j t xs v) (g : Below v.heap.size v v') : Tg w C p0 p1 r m j t xs v' := ⟨h.l0, h.x.kept g, h.hC, ownS_kept h.own g, Below.refl _ _, bthen h.bw g⟩
theorem Tg.alloc (h : Tg w C p0 p1 r m j t xs v) (o : Obj) : Tg w C p0 p1 r m j t xs (v.alloc o) := h.kept (balloc (Below.refl _ _) _)
theorem Tg.lt (h : Tg w C p0 p1 r m j t xs v) : C < v.heap.size := block_lt h.x.c0
theorem Tg.next (h : Tg w C p0 p1 r m j t xs v) {y : ByteArray} (ho : v'.ownsRow (C + 1) 9 1 t' (xs.length + 1) (xs.map Value.string ++ [.string y])) {o : Obj} (hg : (v.alloc o).grownBy v' t.ownBlock) : Tg w C p0 p1 r m j t' (xs ++ [y]) v' := by
  have b1 := balloc h.bw o
  have hlt := h.lt
  have hC := h.hC
  have b0 : Below (C + 1) v v' := ((Below.refl (C + 1) v).alloc (by omega) o).grown hg (by simp; omega) (fun q hq => by have := (h.own.lt q hq).1; omega)
  refine ⟨h.l0, ?_, hC, by simpa using ho, Below.refl _ _, b1.grown hg b1.size (fun q hq => by have := (h.own.lt q hq).1; omega)⟩
  exact h.x.same (fun o => b0.cell (p := ⟨C, o, none⟩) (by simp)) (fun o => b0.frozen (p := ⟨C, o, none⟩) (by simp))
end

/-- what Judge answers at one of both -/
def Jc (p0 p1 r m j who ratio k mo E : Int) : Prop := ∀ v, Calls Tryz.prog 44 #[.agg #[.int .i64 p0, .int .i64 p1, .int .i64 r, .int .i64 m, .int .i64 j], .int .i64 who, .int .i64 ratio] v fun e w' => ∃ a na ca b nb cb, e = .returned (.tuple #[.agg #[.int .i64 k, .int .i64 mo, .slice a na ca, .slice b nb cb], .int .i64 E]) ∧ Below v.heap.size v w'
def Lc (who k mo : Int) (l : ByteArray) : Prop := ∀ (a b : Option Addr) (na ca nb cb : Nat) v, Lw v → Calls Tryz.prog 45 #[.int .i64 who, .agg #[.int .i64 k, .int .i64 mo, .slice a na ca, .slice b nb cb]] v fun e w' => e = .returned (.string l) ∧ Below v.heap.size v w'
/-- two lines, as they lie -/
def LRow (w : World) (t : Value) (xs : List ByteArray) : Prop := ∃ g cap, t = .slice (some ⟨g, 0, none⟩) xs.length cap ∧ g < w.heap.size ∧ ∀ i x, xs[i]? = some x → w.cell? ⟨g, i, none⟩ = some (.string x)
theorem LRow.kept {w w' : World} {t : Value} {xs : List ByteArray} (h : LRow w t xs) (b : Below w.heap.size w w') : LRow w' t xs := by
  obtain ⟨g, cap, e, hg, hc⟩ := h
  exact ⟨g, cap, e, Nat.lt_of_lt_of_le hg b.size, fun i x hx => (b.cell (p := ⟨g, i, none⟩) hg).trans (hc i x hx)⟩
theorem own_lines {w : World} {base : Nat} {t : Value} {xs : List ByteArray} (h0 : 0 < xs.length) (h : w.ownsRow base 9 1 t xs.length (xs.map Value.string)) : LRow w t xs := by
  obtain ⟨hl, ⟨e, e2⟩ | ⟨g, cap, cur, e, hg, hh, hnc, _, hcs, htk⟩⟩ := h
  · omega
  · refine ⟨g, cap, e, lt_of_block hh, fun i x hx => ?_⟩
    have hi : i < xs.length := (List.getElem?_eq_some_iff.1 hx).1
    have f1 : (xs.map Value.string)[i]? = some (.string x) := by rw [List.getElem?_map, hx]; rfl
    rw [← htk, List.getElem?_take_of_lt (by omega)] at f1
    simp [World.cell?, hh]
    simpa using f1
set_option maxHeartbeats 6400000 in
theorem tell_err (s : ByteArray) (ratio : Int) (p0 p1 r m j F : Int) (hF : (F != 0) = true) (w : World) (L : Lw w)
    (y : ∀ v, Lw v → Calls Tryz.prog 43 #[.string s] v fun e w' => e = .returned (.tuple #[.agg #[.int .i64 p0, .int .i64 p1, .int .i64 r, .int .i64 m, .int .i64 j], .int .i64 F]) ∧ Below v.heap.size v w') :
    Calls Tryz.prog 27 #[.string s, .int .i64 ratio] w fun e w' => e = .returned (.tuple #[.slice none 0 0, .int .i64 F]) ∧ Below w.heap.size w w' := by
  go_enter Tryz.func27, Tryz.ntmps27
  go_wp2_with (go_at_call 43; with_reducible refine (y _ L).mono ?_; clear y; rintro e v1 ⟨rfl, b⟩; have B := balloc b (.cells #[.int .i64 p0, .int .i64 p1, .int .i64 r, .int .i64 m, .int .i64 j] 69); clear b)
  refine bodyPost_ret (v := .tuple #[.slice none 0 0, .int .i64 F]) (by simp [results, Tryz.results27, go_sem]) rfl ⟨rfl, B⟩
set_option maxHeartbeats 6400000 in
theorem tell_of (s : ByteArray) (ratio : Int) (p0 p1 r m j k0 m0 E0 k1 m1 E1 : Int) (l0 l1 : ByteArray) (w : World) (L : Lw w)
    (y : ∀ v, Lw v → Calls Tryz.prog 43 #[.string s] v fun e w' => e = .returned (.tuple #[.agg #[.int .i64 p0, .int .i64 p1, .int .i64 r, .int .i64 m, .int .i64 j], .int .i64 0]) ∧ Below v.heap.size v w')
    (J0 : Jc p0 p1 r m j 0 ratio k0 m0 E0) (J1 : Jc p0 p1 r m j 1 ratio k1 m1 E1) (N0 : Lc 0 k0 m0 l0) (N1 : Lc 1 k1 m1 l1) (b0 b1 : Bool) (h0 : (E0 != 0) = b0) (h1 : (E1 != 0) = b1) :
    Calls Tryz.prog 27 #[.string s, .int .i64 ratio] w fun e w' => (∃ t, e = .returned (.tuple #[t, .int .i64 (if b0 then E0 else if b1 then E1 else 0)]) ∧ (if b0 || b1 then t = .slice none 0 0 else LRow w' t [l0, l1])) ∧ Below w.heap.size w w' := by
  obtain ⟨i0, hi, hz0, hz1, hz2⟩ := info_parts infS
  replace J0 : Hid _ := J0
  replace J1 : Hid _ := J1
  replace N0 : Hid _ := N0
  replace N1 : Hid _ := N1
  go_enter Tryz.func27, Tryz.ntmps27
  go_wp2_with (go_at_call 43; with_reducible refine (y _ L).mono ?_; clear y; rintro e v1 ⟨rfl, b⟩; have X := Rul.new v1 _ rfl p0 p1 r m j; have hv := b.size; replace b := balloc b (.cells #[.int .i64 p0, .int .i64 p1, .int .i64 r, .int .i64 m, .int .i64 j] 69); have T : Tg w v1.heap.size p0 p1 r m j (.slice none 0 0) [] _ := ⟨L, X, hv, World.ownsRow_nil _ _ _ _, Below.refl _ _, b⟩; clear X b)
  go_loopw [20, 8] (fun i t wr => (i = .int .i64 0 ∧ t = .slice none 0 0 ∧ Tg w v1.heap.size p0 p1 r m j t [] wr) ∨ (i = .int .i64 1 ∧ b0 = false ∧ Tg w v1.heap.size p0 p1 r m j t [l0] wr) ∨ (i = .int .i64 2 ∧ b0 = false ∧ b1 = false ∧ Tg w v1.heap.size p0 p1 r m j t [l0, l1] wr)) (fun i _ _ => 2 - (intOf i).toNat)
  case atStart => exact .inl ⟨rfl, rfl, T⟩
  case round =>
    clear T
    rcases hrel with ⟨rfl, rfl, T⟩ | ⟨rfl, rfl, T⟩ | ⟨rfl, rfl, rfl, T⟩
    · clear J1 N1
      obtain ⟨x0, x1, x2, x3, x4, -, -, -, -, -⟩ := id T.x
      cases b0
      · go_wp2_with (first
          | (go_at_call 44; refine (J0.out _).mono ?_; clear J0 x0 x1 x2 x3 x4; rintro e v2 ⟨a, na, ca, b', nb, cb, rfl, b⟩; replace T := (T.kept b).alloc (.cells #[.int .i64 k0, .int .i64 m0, .slice a na ca, .slice b' nb cb] 74); clear b; replace N0 := Lib.hid (N0.out a b' na ca nb cb))
          | (go_at_call 45; refine (N0.out _ T.lw).mono ?_; clear N0; rintro e v3 ⟨rfl, b⟩; replace T := T.kept b; clear b; have hcn := Lib.hid (str_new v3 l0); have hT := T.lt)
          | (at_builtin; refine wpList_append_own _ rfl _ _ 51 rfl (v1.heap.size + 1) 9 i0 (.string ⟨#[]⟩) 1 16 Tryz.underlying51 hi hz0 hz1 hz2 rfl (by decide) _ _ _ rfl ((T.alloc (.cells #[.string l0] 9)).own) ⟨v3.heap.size, 0, none⟩ 1 1 [.string l0] rfl rfl hcn.out (by simp [Value.oneCell']) (by simp [maxLen]) (by simp) (by simp; omega) ?_; intro t' w2 ho hg _; replace T := T.next ho hg; clear ho hg))
        go_roundw
        case rel => exact .inr (.inl ⟨rfl, by first | rfl | trivial, T⟩)
        case measure => simp [intOf]
      · go_wp2_with (go_at_call 44; refine (J0.out _).mono ?_; clear J0 x0 x1 x2 x3 x4; rintro e v2 ⟨a, na, ca, b', nb, cb, rfl, b⟩; replace T := (T.kept b).alloc (.cells #[.int .i64 k0, .int .i64 m0, .slice a na ca, .slice b' nb cb] 74); clear b)
        refine bodyPost_ret (v := .tuple #[.slice none 0 0, .int .i64 E0]) (by simp [results, Tryz.results27, go_sem]) rfl ⟨rfl, T.bw⟩
    · clear J0 N0
      obtain ⟨x0, x1, x2, x3, x4, -, -, -, -, -⟩ := id T.x
      cases b1
      · go_wp2_with (first
          | (go_at_call 44; refine (J1.out _).mono ?_; clear J1 x0 x1 x2 x3 x4; rintro e v2 ⟨a, na, ca, b', nb, cb, rfl, b⟩; replace T := (T.kept b).alloc (.cells #[.int .i64 k1, .int .i64 m1, .slice a na ca, .slice b' nb cb] 74); clear b; replace N1 := Lib.hid (N1.out a b' na ca nb cb))
          | (go_at_call 45; refine (N1.out _ T.lw).mono ?_; clear N1; rintro e v3 ⟨rfl, b⟩; replace T := T.kept b; clear b; have hcn := Lib.hid (str_new v3 l1); have hT := T.lt)
          | (at_builtin; refine wpList_append_own _ rfl _ _ 51 rfl (v1.heap.size + 1) 9 i0 (.string ⟨#[]⟩) 1 16 Tryz.underlying51 hi hz0 hz1 hz2 rfl (by decide) _ _ _ rfl ((T.alloc (.cells #[.string l1] 9)).own) ⟨v3.heap.size, 0, none⟩ 1 1 [.string l1] rfl rfl hcn.out (by simp [Value.oneCell']) (by simp [maxLen]) (by simp) (by simp; omega) ?_; intro t' w2 ho hg _; replace T := T.next ho hg; clear ho hg))
        go_roundw
        case rel => exact .inr (.inr ⟨rfl, by first | rfl | trivial, by first | rfl | trivial, T⟩)
        case measure => simp [intOf]
      · go_wp2_with (go_at_call 44; refine (J1.out _).mono ?_; clear J1 x0 x1 x2 x3 x4; rintro e v2 ⟨a, na, ca, b', nb, cb, rfl, b⟩; replace T := (T.kept b).alloc (.cells #[.int .i64 k1, .int .i64 m1, .slice a na ca, .slice b' nb cb] 74); clear b)
        refine bodyPost_ret (v := .tuple #[.slice none 0 0, .int .i64 E1]) (by simp [results, Tryz.results27, go_sem]) rfl ⟨rfl, T.bw⟩
    · clear J0 N0 J1 N1
      obtain ⟨g, cap, rfl, hg, hc⟩ := own_lines (by simp) T.own
      go_wp2
      refine bodyPost_ret (v := .tuple #[.slice (some ⟨g, 0, none⟩) 2 cap, .int .i64 0]) (by simp [results, Tryz.results27, go_sem]) rfl ⟨⟨_, rfl, g, cap, rfl, hg, hc⟩, T.bw⟩

/-- what Tell answers: just the error, or two lines -/
def Tl (s : List UInt8) (ratio : Int) (E : Int) (l0 l1 : List UInt8) : Prop :=
  (E = 1 ∧ ∀ r, ¬ Rd s r) ∨ ∃ r, Rd s r ∧ ∃ k0 m0 E0 k1 m1 E1, Jv r 0 ratio k0 m0 E0 ∧ Jv r 1 ratio k1 m1 E1 ∧ l0 = ln 0 k0 m0 ∧ l1 = ln 1 k1 m1 ∧ E = if (E0 != 0) then E0 else if (E1 != 0) then E1 else 0
/-- in letters -/
theorem tell_any {s : ByteArray} (hs : s.size ≤ 140737488355328) {ratio E : Int} {l0 l1 : List UInt8} (h : Tl s.data.toList ratio E l0 l1) (w : World) (L : Lw w) :
    Calls Tryz.prog 27 #[.string s, .int .i64 ratio] w fun e w' => (∃ t, e = .returned (.tuple #[t, .int .i64 E]) ∧ ((E != 0) = true ∧ t = .slice none 0 0 ∨ (E != 0) = false ∧ LRow w' t [⟨l0.toArray⟩, ⟨l1.toArray⟩])) ∧ Below w.heap.size w w' := by
  rcases h with ⟨rfl, h⟩ | ⟨r, hr, k0, m0, E0, k1, m1, E1, j0, j1, rfl, rfl, rfl⟩
  · refine (tell_err s ratio 0 0 0 0 0 1 (by decide) w L (fun v l => parse_not s hs h v l)).mono ?_
    rintro e w' ⟨rfl, b⟩
    exact ⟨⟨_, rfl, .inl ⟨by decide, rfl⟩⟩, b⟩
  · have q := tell_of s ratio r.k0 r.k1 r.r r.m r.j k0 m0 E0 k1 m1 E1 ⟨(ln 0 k0 m0).toArray⟩ ⟨(ln 1 k1 m1).toArray⟩ w L (fun v l => parse_rd s hs r hr v l) (fun v => judge_jv j0 v) (fun v => judge_jv j1 v)
      (fun a b na ca nb cb v l => line_any 0 k0 m0 (by omega) j0.most a b na ca nb cb v l) (fun a b na ca nb cb v l => line_any 1 k1 m1 (by omega) j1.most a b na ca nb cb v l) _ _ rfl rfl
    refine q.mono ?_
    rintro e w' ⟨⟨t, rfl, ht⟩, b⟩
    refine ⟨⟨t, rfl, ?_⟩, b⟩
    cases h0 : (E0 != 0) <;> cases h1 : (E1 != 0)
    all_goals (rw [h0, h1] at ht; simp at ht)
    · exact .inr ⟨by simp, ht⟩
    · exact .inl ⟨by simpa using h1, ht⟩
    · exact .inl ⟨by simpa using h0, ht⟩
    · exact .inl ⟨by simpa using h0, ht⟩
end Go.Proofs.YtjageagnclmnjabGreatDoor.D

end
