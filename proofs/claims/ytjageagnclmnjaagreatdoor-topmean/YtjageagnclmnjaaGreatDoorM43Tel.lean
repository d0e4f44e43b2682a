/- PROVED: what vegas.Next answers. what duel.wrongStep and duel.Step answer, at every argument. what Graph answers, named; a lead is short. CONDITIONS: what they answer. what slices.Reverse does to pairs that may be written. climbing on plain numbers: going over all edges again and again, what is left of it is the most that walks weigh, or leads back along a way round that weighs more than nothing. runs are walks of the graph, and walks are runs; who starves, by runs alone; more that may be late, a smaller ratio: no less starve; what is bounded. numbers that may be written; what it is to answer a row. edges and graphs in memory; graphs that are right. on plain lists: the cases of what Judge has to tell, and the greatest of potentials. a climber in memory; what (*climber).pass does to it. what slices.Equal and the document's own SameInts answer, by walks of their texts. what the document's own QMost answers. what Most, Cycle, Weigh and the document's own QMost and QWeigh answer, told by whether a way round weighs more than nothing; lengths as letters. what Judge answers, in letters. what bench.Tell answers. CONDITIONS: none beyond each theorem's own. -/
import Derived.Test.YtjageagnclmnjaaGreatDoorX21VNext
import Derived.Test.YtjageagnclmnjaaGreatDoorX18CSame
import Derived.Test.YtjageagnclmnjaaGreatDoorX25DErr
import Derived.Test.YtjageagnclmnjaaGreatDoorX20DYes
import Derived.Test.YtjageagnclmnjaaGreatDoorX22KRight
import Derived.Test.YtjageagnclmnjaaGreatDoorX28DStart
import Derived.Test.YtjageagnclmnjaaGreatDoorX30Rvp
import Derived.Test.YtjageagnclmnjaaGreatDoorX34QCl
import Derived.Test.YtjageagnclmnjaaGreatDoorX33QGr
import Derived.Test.YtjageagnclmnjaaGreatDoorX35QEdg
import Derived.Test.YtjageagnclmnjaaGreatDoorX00KNums
import Derived.Test.YtjageagnclmnjaaGreatDoorM42SLCtl
import Derived.Test.YtjageagnclmnjaaGreatDoorX36Lts
import Derived.Test.YtjageagnclmnjaaGreatDoorX37QRepeat
import Derived.Test.YtjageagnclmnjaaGreatDoorX40QTold
import Derived.Test.YtjageagnclmnjaaGreatDoorX41Lin
import Derived.Laws.AppendOwn
import Derived.Lib.Hide
section
namespace Go.Proofs.YtjageagnclmnjaaGreatDoor.V
open Go.RowKit
set_option linter.unusedVariables false

theorem Ctl.drewN {w : World} {C : Nat} {k n b a s q : Int} (h : Ctl w C k n b a s q) (m : Nat) : Ctl (w.drewN m) C k n b a s q := h.kept (below_drewN (Below.refl _ _) m)
end Go.Proofs.YtjageagnclmnjaaGreatDoor.V

end

section
namespace Go.Proofs.YtjageagnclmnjaaGreatDoor.D
set_option maxRecDepth 100000
open Go.RowKit K
attribute [local go_sem] idx0 idx1

theorem QAt.drew {w W : World} {p0 p1 r m j k0 n0 b0 a0 c0 q0 k1 n1 b1 a1 c1 q1 w0 w1 x y : Int} (h : QAt w p0 p1 r m j k0 n0 b0 a0 c0 q0 k1 n1 b1 a1 c1 q1 w0 w1 x y W) : QAt w p0 p1 r m j k0 n0 b0 a0 c0 q0 k1 n1 b1 a1 c1 q1 w0 w1 x y W.drew := h.kept (below_drewN (Below.refl _ _) 1)
end Go.Proofs.YtjageagnclmnjaaGreatDoor.D

end

section
namespace Go.Proofs.YtjageagnclmnjaaGreatDoor.D
open Go.RowKit K
set_option linter.unusedVariables false

theorem EAt.kept {w w' : World} {g o : Nat} {f t x : Int} (h : EAt w g o f t x) (b : Below w.heap.size w w') : EAt w' g o f t x := by
  have hl : g < w.heap.size := block_lt h.c0
  have e : ∀ p, w'.cell? ⟨g, p, none⟩ = w.cell? ⟨g, p, none⟩ := fun p => b.cell (p := ⟨g, p, none⟩) hl
  exact ⟨(e _).trans h.c0, (e _).trans h.c1, (e _).trans h.c2⟩
end Go.Proofs.YtjageagnclmnjaaGreatDoor.D

end

section
namespace Go.Proofs.YtjageagnclmnjaaGreatDoor.D
open Go.RowKit
set_option linter.unusedVariables false

theorem Pr.kept {w w' : World} {O n : Nat} {F G : Nat → Int} (h : Pr w O n F G) (b : Below w.heap.size w w') : Pr w' O n F G := by
  refine ⟨fun v hv => ?_, fun v hv => ?_⟩
  · obtain ⟨h1, h2⟩ := h.c v hv
    exact ⟨(b.cell (p := ⟨O, v * 2, none⟩) (block_lt h1)).trans h1, (b.cell (p := ⟨O, v * 2 + 1, none⟩) (block_lt h2)).trans h2⟩
  · have := b.block O (show O < w.heap.size from block_lt (h.c v hv).1)
    obtain ⟨q1, q2⟩ := h.fz v hv
    simp only [World.frozen?] at q1 q2 ⊢
    rw [this]; exact ⟨q1, q2⟩
theorem Pr.alloc {w : World} {O n : Nat} {F G : Nat → Int} (h : Pr w O n F G) (o : Obj) : Pr (w.alloc o) O n F G := h.kept (balloc (Below.refl _ _) o)
end Go.Proofs.YtjageagnclmnjaaGreatDoor.D

end

section
namespace Go.Proofs.YtjageagnclmnjaaGreatDoor.Q

theorem nsum_range {es : List Eg} (hw : Wgt es) (R : Nat → Nat) (p : Nat) (h : ∀ j, j < p → R j < es.length) : -(1048576 * (p : Int)) ≤ nsum es R p ∧ nsum es R p ≤ 1048576 * (p : Int) := by
  induction p with
  | zero => exact ⟨by show _ ≤ (0 : Int); omega, by show (0 : Int) ≤ _; omega⟩
  | succ p ih =>
    obtain ⟨a, b⟩ := ih fun j hj => h j (by omega)
    obtain ⟨c, d⟩ := hw _ (eg_mem (h p (by omega)))
    show _ ≤ nsum es R p + _ ∧ nsum es R p + _ ≤ _
    omega

end Go.Proofs.YtjageagnclmnjaaGreatDoor.Q

end

section
namespace Go.Proofs.YtjageagnclmnjaaGreatDoor.D
open Go.RowKit K
set_option linter.unusedVariables false

section
variable {r : Ru} {T : Nat} (hT : Dn r T) (who ratio : Int)
include hT
/-- and a walk is a run -/
theorem path_run (hr : ranges r) : ∀ (c : List Q.Eg) (i j : Nat), i < (xp r T).1.length → Q.Path (esG r T who ratio) i c j → ∃ l, allLate r l ∧ l.length = c.length ∧ steps r (stt r T i) l = stt r T j ∧ total (wgt who ratio) (rounds r (stt r T i) l) = Q.wt c := by
  intro c
  induction c with
  | nil => intro i j hi h; cases h; exact ⟨[], (fun _ h => by cases h), rfl, rfl, rfl⟩
  | cons e c ih =>
    rintro i j hi ⟨h1, h2, h3⟩
    obtain ⟨u, hu, rfl⟩ := esG_mem.1 h1
    obtain ⟨a, b, q, d⟩ := ed_is hT who ratio hu
    have e : u / ee r = i := h2
    rw [e] at q d
    obtain ⟨l, g1, g2, g3, g4⟩ := ih _ j b h3
    have hl := sp_lates hr (n := u % ee r) (Nat.mod_lt _ (ee_pos r))
    refine ⟨pr r (u % ee r) :: l, fun p hp => ?_, by simp [g2], ?_, ?_⟩
    · rcases List.mem_cons.1 hp with rfl | hp
      · exact hl
      · exact g1 p hp
    · show steps r (sp r (stt r T i) (u % ee r)) l = _
      rw [← q, g3]
    · show wgt who ratio (K.round r (stt r T i)) + total (wgt who ratio) (rounds r (sp r (stt r T i) (u % ee r)) l) = (ed r T who ratio u).x + Q.wt c
      rw [← q, g4, d]
end

/-- one starves the other: a run that comes to a state, and one that leads there again and brings more -/
def Starve (r : Ru) (who ratio : Int) : Prop := ∃ a c, allLate r a ∧ allLate r c ∧ steps r (steps r (K.start r) a) c = steps r (K.start r) a ∧ 0 < total (wgt who ratio) (rounds r (steps r (K.start r) a) c)
theorem stt_run {r : Ru} {T : Nat} (hr : ranges r) (hT : Dn r T) {i : Nat} (hi : i < (xp r T).1.length) : ∃ a, allLate r a ∧ steps r (K.start r) a = stt r T i := by
  obtain ⟨l, hL⟩ := ld_some hT.1 i hi
  obtain ⟨_, hm⟩ := ld_small hL
  have h := ld_run hT.1 i l hL hi
  refine ⟨l.map (pr r), fun p hp => ?_, ?_⟩
  · obtain ⟨n, hn, rfl⟩ := List.mem_map.1 hp
    exact sp_lates hr (hm n hn)
  · rw [steps_pr, stt_at h]
theorem starve_iff {r : Ru} {T : Nat} (hr : ranges r) (hT : Dn r T) (who ratio : Int) : Starve r who ratio ↔ ¬ Q.noPos (esG r T who ratio) := by
  constructor
  · rintro ⟨a, c, ha, hc, h1, h2⟩ hn
    have hm := run_in hr hT ha
    obtain ⟨i1, i2⟩ := ix_mem hm
    have e := stt_at i2
    obtain ⟨cs, j, g1, g2, g3, _, g5⟩ := run_path hT who ratio hr c _ i1 hc
    rw [e] at g3 g5
    rw [h1] at g3
    have hj : j = ix (xp r T).1 (steps r (K.start r) a) := by
      have := stt_get g2
      rw [g3] at this
      exact (ix_at (ex_nodup hT.1) this).symm
    subst hj
    have := hn _ _ g1
    omega
  · intro h
    obtain ⟨u, h⟩ := Classical.not_forall.1 h
    obtain ⟨l, h⟩ := Classical.not_forall.1 h
    obtain ⟨hp, hw⟩ := Classical.not_imp.1 h
    have hu : u < (xp r T).1.length := by
      cases l with
      | nil => exact absurd (show Q.wt [] ≤ 0 by simp [Q.wt]) hw
      | cons e l =>
        obtain ⟨g1, g2, _⟩ := hp
        rw [← g2]
        exact (esG_inn hT who ratio e g1).1
    obtain ⟨c, g1, g2, g3, g4⟩ := path_run hT who ratio hr l u u hu hp
    obtain ⟨a, a1, a2⟩ := stt_run hr hT hu
    exact ⟨a, c, a1, g1, by rw [a2, g3], by rw [a2, g4]; omega⟩

end Go.Proofs.YtjageagnclmnjaaGreatDoor.D

end

section
namespace Go.Proofs.YtjageagnclmnjaaGreatDoor.Q
open Go.RowKit

theorem _root_.Go.Proofs.YtjageagnclmnjaaGreatDoor.Gath.done {w : World} {t : Value} {wr : World} {R : List Int} (h : Gath w t wr R) : Ans w R (.returned t) wr := by
  obtain ⟨ao, cap, rfl, hc, hr⟩ := owned_cap h.own
  exact ⟨ao, cap, rfl, hc, hr, h.below⟩
end Go.Proofs.YtjageagnclmnjaaGreatDoor.Q

end

section
namespace Go.Proofs.YtjageagnclmnjaaGreatDoor.Q
open Go.RowKit

theorem ERow.drewN {w : World} {ao : Option Addr} {L : List Ed} (h : ERow w ao L) (n : Nat) : ERow (w.drewN n) ao L := h
theorem GRow.drewN {w : World} {ao : Option Addr} {es : List Eg} (h : GRow w ao es) (n : Nat) : GRow (w.drewN n) ao es := h
end Go.Proofs.YtjageagnclmnjaaGreatDoor.Q

end

section
namespace Go.Proofs.YtjageagnclmnjaaGreatDoor.D
open Go.RowKit K
set_option linter.unusedVariables false

theorem mx_zero (d : Nat → Int) (n : Nat) : 0 ≤ mx d n := by
  induction n with
  | zero => exact Int.le_refl _
  | succ n ih => show 0 ≤ max (mx d n) (d n); omega
theorem Jb.not {r : Ru} {who ratio : Int} {T : Nat} {d : Nat → Int} (h : Jb r who ratio T d) : ¬ Starve r who ratio := fun q =>
  (starve_iff (wrong_ok.1 h.ok).2 h.dn who ratio).1 q h.mst.noPos
theorem Js.yes {r : Ru} {who ratio : Int} {T : Nat} (h : Js r who ratio T) : Starve r who ratio := (starve_iff (wrong_ok.1 h.ok).2 h.dn who ratio).2 h.pos

end Go.Proofs.YtjageagnclmnjaaGreatDoor.D

end

section
namespace Go.Proofs.YtjageagnclmnjaaGreatDoor.Q
open Go.RowKit

theorem Cb.drew {w : World} {P M A n : Nat} {s : St} (h : Cb w P M A n s) : Cb w.drew P M A n s := h.drewN 1
end Go.Proofs.YtjageagnclmnjaaGreatDoor.Q

end

section
namespace Go.Proofs.YtjageagnclmnjaaGreatDoor.Q
open Go.RowKit

end Go.Proofs.YtjageagnclmnjaaGreatDoor.Q

end

section
namespace Go.Proofs.YtjageagnclmnjaaGreatDoor.Q
set_option maxRecDepth 100000
open Go.RowKit

end Go.Proofs.YtjageagnclmnjaaGreatDoor.Q

end

section
namespace Go.Proofs.YtjageagnclmnjaaGreatDoor.Q
set_option maxRecDepth 100000
open Go.RowKit

theorem ERow.drew {w : World} {ao : Option Addr} {L : List Ed} (h : ERow w ao L) : ERow w.drew ao L := h
theorem GRow.drew {w : World} {ao : Option Addr} {es : List Eg} (h : GRow w ao es) : GRow w.drew ao es := h
theorem Gb.drew {w : World} {O : Nat} {N : Int} {a : Option Addr} {m cap : Nat} (h : Gb w O N a m cap) : Gb w.drew O N a m cap := ⟨h.g, h.s⟩

section
variable (n : Nat) (es : List Eg) (hG : Gph n es) (a : Option Addr) (cap m : Nat) (hm : es.length = m)
include hG hm
theorem wrong_yes (w : World) (hE : GRow w a es) :
    Calls Tryz.prog 53 #[.agg #[.int .i64 n, .slice a m cap]] w fun e w' => e = .returned (.int .i64 0) ∧ Below w.heap.size w w' := by
  have hm4 := hG.m4
  have := wrong_any n a cap (es.map upE) w hE (by rw [List.length_map]; omega)
  rw [gwr_yes (gph_grt hG), List.length_map, hm] at this
  exact this
end


end Go.Proofs.YtjageagnclmnjaaGreatDoor.Q

end

section
namespace Go.Proofs.YtjageagnclmnjaaGreatDoor.D
set_option maxRecDepth 100000
open Go.RowKit K
set_option linter.unusedVariables false

/-- what the letters say -/
theorem Jv.ok {r : Ru} {who ratio k m E : Int} (h : Jv r who ratio k m E) (hE : E = 0 ∨ E = 4) : Rg who ratio ∧ wrong r = 0 := by
  rcases h with ⟨h, rfl, rfl⟩ | ⟨T, d, h, rfl, rfl, rfl⟩ | ⟨T, h, rfl, rfl, rfl⟩
  · rcases h with ⟨_, rfl⟩ | ⟨hg, ⟨hw, he⟩ | ⟨hw, _, rfl⟩⟩
    · omega
    · have : wrong r = 0 ∨ wrong r = 2 ∨ wrong r = 5 := by
        unfold wrong
        split
        · split <;> simp
        · simp
      rw [hw] at this
      rcases hE with rfl | rfl
      · simp at he
      · omega
    · exact ⟨hg, hw⟩
  · exact ⟨h.rg, h.ok⟩
  · exact ⟨h.rg, h.ok⟩
theorem Jv.zero {r : Ru} {who ratio k m : Int} (h : Jv r who ratio k m 0) : k = 2 ∧ Starve r who ratio ∨ k = 1 ∧ ¬ Starve r who ratio := by
  rcases h with ⟨h, rfl, rfl⟩ | ⟨T, d, h, rfl, rfl, _⟩ | ⟨T, h, rfl, rfl, _⟩
  · have := h.ne; simp at this
  · exact .inr ⟨rfl, h.not⟩
  · exact .inl ⟨rfl, h.yes⟩
end Go.Proofs.YtjageagnclmnjaaGreatDoor.D

end

section
namespace Go.Proofs.YtjageagnclmnjaaGreatDoor.D
set_option maxRecDepth 100000
open Go.RowKit K
set_option linter.unusedVariables false

theorem infS : (Tryz.prog.info? 9).map (fun i => (i.zero, i.size, i.bytes)) = some (some (.string ⟨#[]⟩), 1, 16) := by kernel_rfl
theorem str_new (w : World) (x : ByteArray) (j : Nat) (u : Value) (h : [Value.string x][j]? = some u) : (w.alloc (.cells #[.string x] 9)).cell? ((⟨w.heap.size, 0, none⟩ : Addr).add j) = some u := by
  rw [Addr.add_lit, Nat.zero_add]
  exact (World.cell?_alloc_at (w := w) #[.string x] 9 w.heap.size j rfl).trans (by simpa using h)
theorem ownS_kept {wr w1 : World} {base : Nat} {t : Value} {n : Nat} {xs : List Value} (h : wr.ownsRow base 9 1 t n xs) (b : Below wr.heap.size wr w1) : w1.ownsRow base 9 1 t n xs := by
  obtain ⟨hl, h2⟩ := h
  refine ⟨hl, ?_⟩
  rcases h2 with e | ⟨g, cap, cur, e, hg, hh, r⟩
  · exact .inl e
  · refine .inr ⟨g, cap, cur, e, hg, ?_, r⟩
    have : g < wr.heap.size := lt_of_block hh
    rw [b.block g this]; exact hh
/-- what lies there while lines are gathered: the rules in block C, ahead of all that is gathered -/
structure Tg (w : World) (C : Nat) (p0 p1 r m j : Int) (t : Value) (xs : List ByteArray) (v : World) : Prop where
  l0 : Lw w
  x : Rul v C p0 p1 r m j
  hC : w.heap.size ≤ C
  own : v.ownsRow (C + 1) 9 1 t xs.length (xs.map Value.string)
  b : Below (C + 1) v v
  bw : Below w.heap.size w v
section
variable {w v v' : World} {C : Nat} {p0 p1 r m j : Int} {t t' : Value} {xs : List ByteArray}
theorem Tg.lw (h : Tg w C p0 p1 r m j t xs v) : Lw v := h.l0.kept h.bw
theorem Tg.kept (h : Tg w C p0 p1 r m j t xs v) (g : Below v.heap.size v v') : Tg w C p0 p1 r m j t xs v' := ⟨h.l0, h.x.kept g, h.hC, ownS_kept h.own g, Below.refl _ _, bthen h.bw g⟩
theorem Tg.alloc (h : Tg w C p0 p1 r m j t xs v) (o : Obj) : Tg w C p0 p1 r m j t xs (v.alloc o) := h.kept (balloc (Below.refl _ _) _)
theorem Tg.lt (h : Tg w C p0 p1 r m j t xs v) : C < v.heap.size := block_lt h.x.c0
theorem Tg.next (h : Tg w C p0 p1 r m j t xs v) {y : ByteArray} (ho : v'.ownsRow (C + 1) 9 1 t' (xs.length + 1) (xs.map Value.string ++ [.string y])) {o : Obj} (hg : (v.alloc o).grownBy v' t.ownBlock) : Tg w C p0 p1 r m j t' (xs ++ [y]) v' := by
  have b1 := balloc h.bw o
  have hlt := h.lt
  have hC := h.hC
  have b0 : Below (C + 1) v v' := ((Below.refl (C + 1) v).alloc (by omega) o).grown hg (by simp; omega) (fun q hq => by have := (h.own.lt q hq).1; omega)
  refine ⟨h.l0, ?_, hC, by simpa using ho, Below.refl _ _, b1.grown hg b1.size (fun q hq => by have := (h.own.lt q hq).1; omega)⟩
  exact h.x.same (fun o => b0.cell (p := ⟨C, o, none⟩) (by simp)) (fun o => b0.frozen (p := ⟨C, o, none⟩) (by simp))
end

/-- what Judge answers at one of both -/
def Jc (p0 p1 r m j who ratio k mo E : Int) : Prop := ∀ v, Calls Tryz.prog 14 #[.agg #[.int .i64 p0, .int .i64 p1, .int .i64 r, .int .i64 m, .int .i64 j], .int .i64 who, .int .i64 ratio] v fun e w' => ∃ a na ca b nb cb, e = .returned (.tuple #[.agg #[.int .i64 k, .int .i64 mo, .slice a na ca, .slice b nb cb], .int .i64 E]) ∧ Below v.heap.size v w'
def Lc (who k mo : Int) (l : ByteArray) : Prop := ∀ (a b : Option Addr) (na ca nb cb : Nat) v, Lw v → Calls Tryz.prog 19 #[.int .i64 who, .agg #[.int .i64 k, .int .i64 mo, .slice a na ca, .slice b nb cb]] v fun e w' => e = .returned (.string l) ∧ Below v.heap.size v w'
/-- two lines, as they lie -/
def LRow (w : World) (t : Value) (xs : List ByteArray) : Prop := ∃ g cap, t = .slice (some ⟨g, 0, none⟩) xs.length cap ∧ g < w.heap.size ∧ ∀ i x, xs[i]? = some x → w.cell? ⟨g, i, none⟩ = some (.string x)
theorem LRow.kept {w w' : World} {t : Value} {xs : List ByteArray} (h : LRow w t xs) (b : Below w.heap.size w w') : LRow w' t xs := by
  obtain ⟨g, cap, e, hg, hc⟩ := h
  exact ⟨g, cap, e, Nat.lt_of_lt_of_le hg b.size, fun i x hx => (b.cell (p := ⟨g, i, none⟩) hg).trans (hc i x hx)⟩
theorem own_lines {w : World} {base : Nat} {t : Value} {xs : List ByteArray} (h0 : 0 < xs.length) (h : w.ownsRow base 9 1 t xs.length (xs.map Value.string)) : LRow w t xs := by
  obtain ⟨hl, ⟨e, e2⟩ | ⟨g, cap, cur, e, hg, hh, hnc, _, hcs, htk⟩⟩ := h
  · omega
  · refine ⟨g, cap, e, lt_of_block hh, fun i x hx => ?_⟩
    have hi : i < xs.length := (List.getElem?_eq_some_iff.1 hx).1
    have f1 : (xs.map Value.string)[i]? = some (.string x) := by rw [List.getElem?_map, hx]; rfl
    rw [← htk, List.getElem?_take_of_lt (by omega)] at f1
    simp [World.cell?, hh]
    simpa using f1
set_option maxHeartbeats 6400000 in
theorem tell_err (s : ByteArray) (ratio : Int) (p0 p1 r m j F : Int) (hF : (F != 0) = true) (w : World) (L : Lw w)
    (y : ∀ v, Lw v → Calls Tryz.prog 13 #[.string s] v fun e w' => e = .returned (.tuple #[.agg #[.int .i64 p0, .int .i64 p1, .int .i64 r, .int .i64 m, .int .i64 j], .int .i64 F]) ∧ Below v.heap.size v w') :
    Calls Tryz.prog 7 #[.string s, .int .i64 ratio] w fun e w' => e = .returned (.tuple #[.slice none 0 0, .int .i64 F]) ∧ Below w.heap.size w w' := by
  go_enter Tryz.func7, Tryz.ntmps7
  go_wp2_with (go_at_call 13; with_reducible refine (y _ L).mono ?_; clear y; rintro e v1 ⟨rfl, b⟩; have B := balloc b (.cells #[.int .i64 p0, .int .i64 p1, .int .i64 r, .int .i64 m, .int .i64 j] 33); clear b)
  refine bodyPost_ret (v := .tuple #[.slice none 0 0, .int .i64 F]) (by simp [results, Tryz.results7, go_sem]) rfl ⟨rfl, B⟩
set_option maxHeartbeats 6400000 in
theorem tell_of (s : ByteArray) (ratio : Int) (p0 p1 r m j k0 m0 E0 k1 m1 E1 : Int) (l0 l1 : ByteArray) (w : World) (L : Lw w)
    (y : ∀ v, Lw v → Calls Tryz.prog 13 #[.string s] v fun e w' => e = .returned (.tuple #[.agg #[.int .i64 p0, .int .i64 p1, .int .i64 r, .int .i64 m, .int .i64 j], .int .i64 0]) ∧ Below v.heap.size v w')
    (J0 : Jc p0 p1 r m j 0 ratio k0 m0 E0) (J1 : Jc p0 p1 r m j 1 ratio k1 m1 E1) (N0 : Lc 0 k0 m0 l0) (N1 : Lc 1 k1 m1 l1) (b0 b1 : Bool) (h0 : (E0 != 0) = b0) (h1 : (E1 != 0) = b1) :
    Calls Tryz.prog 7 #[.string s, .int .i64 ratio] w fun e w' => (∃ t, e = .returned (.tuple #[t, .int .i64 (if b0 then E0 else if b1 then E1 else 0)]) ∧ (if b0 || b1 then t = .slice none 0 0 else LRow w' t [l0, l1])) ∧ Below w.heap.size w w' := by
  obtain ⟨i0, hi, hz0, hz1, hz2⟩ := info_parts infS
  replace J0 : Hid _ := J0
  replace J1 : Hid _ := J1
  replace N0 : Hid _ := N0
  replace N1 : Hid _ := N1
  go_enter Tryz.func7, Tryz.ntmps7
  go_wp2_with (go_at_call 13; with_reducible refine (y _ L).mono ?_; clear y; rintro e v1 ⟨rfl, b⟩; have X := Rul.new v1 _ rfl p0 p1 r m j; have hv := b.size; replace b := balloc b (.cells #[.int .i64 p0, .int .i64 p1, .int .i64 r, .int .i64 m, .int .i64 j] 33); have T : Tg w v1.heap.size p0 p1 r m j (.slice none 0 0) [] _ := ⟨L, X, hv, World.ownsRow_nil _ _ _ _, Below.refl _ _, b⟩; clear X b)
  go_loopw [20, 8] (fun i t wr => (i = .int .i64 0 ∧ t = .slice none 0 0 ∧ Tg w v1.heap.size p0 p1 r m j t [] wr) ∨ (i = .int .i64 1 ∧ b0 = false ∧ Tg w v1.heap.size p0 p1 r m j t [l0] wr) ∨ (i = .int .i64 2 ∧ b0 = false ∧ b1 = false ∧ Tg w v1.heap.size p0 p1 r m j t [l0, l1] wr)) (fun i _ _ => 2 - (intOf i).toNat)
  case atStart => exact .inl ⟨rfl, rfl, T⟩
  case round =>
    clear T
    rcases hrel with ⟨rfl, rfl, T⟩ | ⟨rfl, rfl, T⟩ | ⟨rfl, rfl, rfl, T⟩
    · clear J1 N1
      obtain ⟨x0, x1, x2, x3, x4, -, -, -, -, -⟩ := id T.x
      cases b0
      · go_wp2_with (first
          | (go_at_call 14; refine (J0.out _).mono ?_; clear J0 x0 x1 x2 x3 x4; rintro e v2 ⟨a, na, ca, b', nb, cb, rfl, b⟩; replace T := (T.kept b).alloc (.cells #[.int .i64 k0, .int .i64 m0, .slice a na ca, .slice b' nb cb] 37); clear b; replace N0 := Lib.hid (N0.out a b' na ca nb cb))
          | (go_at_call 19; refine (N0.out _ T.lw).mono ?_; clear N0; rintro e v3 ⟨rfl, b⟩; replace T := T.kept b; clear b; have hcn := Lib.hid (str_new v3 l0); have hT := T.lt)
          | (at_builtin; refine wpList_append_own _ rfl _ _ 22 rfl (v1.heap.size + 1) 9 i0 (.string ⟨#[]⟩) 1 16 Tryz.underlying22 hi hz0 hz1 hz2 rfl (by decide) _ _ _ rfl ((T.alloc (.cells #[.string l0] 9)).own) ⟨v3.heap.size, 0, none⟩ 1 1 [.string l0] rfl rfl hcn.out (by simp [Value.oneCell']) (by simp [maxLen]) (by simp) (by simp; omega) ?_; intro t' w2 ho hg _; replace T := T.next ho hg; clear ho hg))
        go_roundw
        case rel => exact .inr (.inl ⟨rfl, by first | rfl | trivial, T⟩)
        case measure => simp [intOf]
      · go_wp2_with (go_at_call 14; refine (J0.out _).mono ?_; clear J0 x0 x1 x2 x3 x4; rintro e v2 ⟨a, na, ca, b', nb, cb, rfl, b⟩; replace T := (T.kept b).alloc (.cells #[.int .i64 k0, .int .i64 m0, .slice a na ca, .slice b' nb cb] 37); clear b)
        refine bodyPost_ret (v := .tuple #[.slice none 0 0, .int .i64 E0]) (by simp [results, Tryz.results7, go_sem]) rfl ⟨rfl, T.bw⟩
    · clear J0 N0
      obtain ⟨x0, x1, x2, x3, x4, -, -, -, -, -⟩ := id T.x
      cases b1
      · go_wp2_with (first
          | (go_at_call 14; refine (J1.out _).mono ?_; clear J1 x0 x1 x2 x3 x4; rintro e v2 ⟨a, na, ca, b', nb, cb, rfl, b⟩; replace T := (T.kept b).alloc (.cells #[.int .i64 k1, .int .i64 m1, .slice a na ca, .slice b' nb cb] 37); clear b; replace N1 := Lib.hid (N1.out a b' na ca nb cb))
          | (go_at_call 19; refine (N1.out _ T.lw).mono ?_; clear N1; rintro e v3 ⟨rfl, b⟩; replace T := T.kept b; clear b; have hcn := Lib.hid (str_new v3 l1); have hT := T.lt)
          | (at_builtin; refine wpList_append_own _ rfl _ _ 22 rfl (v1.heap.size + 1) 9 i0 (.string ⟨#[]⟩) 1 16 Tryz.underlying22 hi hz0 hz1 hz2 rfl (by decide) _ _ _ rfl ((T.alloc (.cells #[.string l1] 9)).own) ⟨v3.heap.size, 0, none⟩ 1 1 [.string l1] rfl rfl hcn.out (by simp [Value.oneCell']) (by simp [maxLen]) (by simp) (by simp; omega) ?_; intro t' w2 ho hg _; replace T := T.next ho hg; clear ho hg))
        go_roundw
        case rel => exact .inr (.inr ⟨rfl, by first | rfl | trivial, by first | rfl | trivial, T⟩)
        case measure => simp [intOf]
      · go_wp2_with (go_at_call 14; refine (J1.out _).mono ?_; clear J1 x0 x1 x2 x3 x4; rintro e v2 ⟨a, na, ca, b', nb, cb, rfl, b⟩; replace T := (T.kept b).alloc (.cells #[.int .i64 k1, .int .i64 m1, .slice a na ca, .slice b' nb cb] 37); clear b)
        refine bodyPost_ret (v := .tuple #[.slice none 0 0, .int .i64 E1]) (by simp [results, Tryz.results7, go_sem]) rfl ⟨rfl, T.bw⟩
    · clear J0 N0 J1 N1
      obtain ⟨g, cap, rfl, hg, hc⟩ := own_lines (by simp) T.own
      go_wp2
      refine bodyPost_ret (v := .tuple #[.slice (some ⟨g, 0, none⟩) 2 cap, .int .i64 0]) (by simp [results, Tryz.results7, go_sem]) rfl ⟨⟨_, rfl, g, cap, rfl, hg, hc⟩, T.bw⟩

/-- what Tell answers: just the error, or two lines -/
def Tl (s : List UInt8) (ratio : Int) (E : Int) (l0 l1 : List UInt8) : Prop :=
  (E = 1 ∧ ∀ r, ¬ Rd s r) ∨ ∃ r, Rd s r ∧ ∃ k0 m0 E0 k1 m1 E1, Jv r 0 ratio k0 m0 E0 ∧ Jv r 1 ratio k1 m1 E1 ∧ l0 = ln 0 k0 m0 ∧ l1 = ln 1 k1 m1 ∧ E = if (E0 != 0) then E0 else if (E1 != 0) then E1 else 0
/-- in letters -/
theorem tell_any {s : ByteArray} (hs : s.size ≤ 140737488355328) {ratio E : Int} {l0 l1 : List UInt8} (h : Tl s.data.toList ratio E l0 l1) (w : World) (L : Lw w) :
    Calls Tryz.prog 7 #[.string s, .int .i64 ratio] w fun e w' => (∃ t, e = .returned (.tuple #[t, .int .i64 E]) ∧ ((E != 0) = true ∧ t = .slice none 0 0 ∨ (E != 0) = false ∧ LRow w' t [⟨l0.toArray⟩, ⟨l1.toArray⟩])) ∧ Below w.heap.size w w' := by
  rcases h with ⟨rfl, h⟩ | ⟨r, hr, k0, m0, E0, k1, m1, E1, j0, j1, rfl, rfl, rfl⟩
  · refine (tell_err s ratio 0 0 0 0 0 1 (by decide) w L (fun v l => parse_not s hs h v l)).mono ?_
    rintro e w' ⟨rfl, b⟩
    exact ⟨⟨_, rfl, .inl ⟨by decide, rfl⟩⟩, b⟩
  · have q := tell_of s ratio r.k0 r.k1 r.r r.m r.j k0 m0 E0 k1 m1 E1 ⟨(ln 0 k0 m0).toArray⟩ ⟨(ln 1 k1 m1).toArray⟩ w L (fun v l => parse_rd s hs r hr v l) (fun v => judge_jv j0 v) (fun v => judge_jv j1 v)
      (fun a b na ca nb cb v l => line_any 0 k0 m0 (by omega) j0.most a b na ca nb cb v l) (fun a b na ca nb cb v l => line_any 1 k1 m1 (by omega) j1.most a b na ca nb cb v l) _ _ rfl rfl
    refine q.mono ?_
    rintro e w' ⟨⟨t, rfl, ht⟩, b⟩
    refine ⟨⟨t, rfl, ?_⟩, b⟩
    cases h0 : (E0 != 0) <;> cases h1 : (E1 != 0)
    all_goals (rw [h0, h1] at ht; simp at ht)
    · exact .inr ⟨by simp, ht⟩
    · exact .inl ⟨by simpa using h1, ht⟩
    · exact .inl ⟨by simpa using h0, ht⟩
    · exact .inl ⟨by simpa using h0, ht⟩
end Go.Proofs.YtjageagnclmnjaaGreatDoor.D

end
