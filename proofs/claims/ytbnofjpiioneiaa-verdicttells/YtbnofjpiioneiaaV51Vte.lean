/- PROVED: what slices.Grow of nothing and slices.Concat of two rows of pairs answer. tidewaitlaw.VerdictTells, whole. CONDITIONS: none beyond each theorem's own. -/
import Derived.Test.YtbnofjpiioneiaaB27Rvp
import Derived.Lib.AppendZerosOnto
import Derived.Lib.SliceRun
import Derived.Lib.Walk
import Derived.Test.YtbnofjpiioneiaaV40Sgr
import Derived.Test.YtbnofjpiioneiaaV49DPlay
import Derived.Test.YtbnofjpiioneiaaV50DPPlay
import Derived.Test.YtbnofjpiioneiaaB06DSame
import Derived.Deep.CutRange
import Derived.Deep.RegionHeld3
namespace Go.Proofs.Ytbnofjpiioneiaa.D
open Go.RowKit K

set_option maxHeartbeats 3200000 in
theorem grow_zero (w : World) : Calls Try.prog 29 #[.slice none 0 0, .int .i64 0] w fun e w' => e = .returned (.slice none 0 0) ∧ w' = w := by
  go_enter Try.func29, Try.ntmps29
  go_wp2
  go_ret
  exact ⟨rfl, rfl⟩

set_option maxHeartbeats 3200000 in
theorem grow_some (n : Nat) (h0 : 0 < n) (hn : n ≤ 4194304) (w : World) : Calls Try.prog 29 #[.slice none 0 0, .int .i64 n] w fun e w' => ∃ G, e = .returned (.slice (some ⟨w.heap.size, 0, none⟩) 0 G) ∧ G ≤ maxLen ∧ n ≤ G ∧ w' = (w.alloc (.cells (Builtin.zeroCells #[.int .i64 0, .int .i64 0] n ++ Builtin.zeroCells #[.int .i64 0, .int .i64 0] (G - n)) 22)).drew := by
  obtain ⟨i0, hi, hz0, hz1, hz2⟩ := info_parts Try.info22
  have hGn : n ≤ grownCap w n 0 22 := grownCap_ge w _ _ _
  have hGm := grownCap_le_maxLen w n 0 22 (by unfold maxLen; omega)
  have hrz : ∀ ty, (Builtin.append_ #[25, 3] ty #[.slice none 0 0, .int .i64 (n : Int)]).run Try.prog w = .ok (.slice (some ⟨w.heap.size, 0, none⟩) n (grownCap w n 0 22)) (w.drew.alloc (.cells (#[] ++ Builtin.zeroCells #[.int .i64 0, .int .i64 0] n ++ Builtin.zeroCells #[.int .i64 0, .int .i64 0] (grownCap w n 0 22 - n)) 22)) := fun ty => by
    have h := Lib.run_append_grow_zeros w 25 3 ty 22 i0 (.agg #[.int .i64 0, .int .i64 0]) .i64 .i64 Try.underlying25 Try.underlying3 hi hz0 none 0 0 [] (run_firstCells_none w.drew i0.size 0 0 0) n h0 (by omega) (by omega) (by omega) (by rw [hz2]; omega) (by rw [hz2]; exact growslice_fits (by omega) (by omega))
    simp only [Nat.zero_add] at h
    exact h
  obtain ⟨G, hG⟩ : ∃ G, grownCap w n 0 22 = G := ⟨_, rfl⟩
  rw [hG] at hrz hGn hGm
  have hG63 : G ≤ 9223372036854775807 := by unfold maxLen at hGm; omega
  have hpos : (0 : Int) < n := by omega
  have hd : decide ((n : Int) < 0) = false := decide_eq_false (by omega)
  clear hG
  go_enter Try.func29, Try.ntmps29
  go_wp2_with (at_builtin; refine Lib.wpList_append_run _ rfl _ _ _ _ rfl _ _ rfl rfl _ _ (hrz _) ?_)
  all_goals
    go_ret
    exact ⟨G, rfl, hGm, hGn, rfl⟩

theorem grow_any (n : Nat) (hn : n ≤ 4194304) (w : World) : Calls Try.prog 29 #[.slice none 0 0, .int .i64 n] w fun e w' => ∃ t, e = .returned t ∧ VGath w t w' [] := by
  rcases Nat.eq_zero_or_pos n with rfl | h0
  · refine (grow_zero w).mono ?_
    rintro e w' ⟨rfl, rfl⟩
    exact ⟨_, rfl, VGath.start _⟩
  · refine (grow_some n h0 hn w).mono ?_
    rintro e w' ⟨G, rfl, hG, hnG, rfl⟩
    refine ⟨_, rfl, ⟨rfl, .inr ⟨w.heap.size, G, (Builtin.zeroCells #[.int .i64 0, .int .i64 0] n ++ Builtin.zeroCells #[.int .i64 0, .int .i64 0] (G - n)), rfl, Nat.le_refl _, ?_, Nat.zero_le _, hG, ?_, ?_⟩⟩, Below.drew (balloc (Below.refl _ _) _)⟩
    · exact (MapKept.heap_alloc w _).1
    · simp [size_zeroCells]; omega
    · rfl

theorem run_append_none (w : World) (t : Value) (n : Nat) (xs : List Value) (base c2 : Nat) (h : w.ownsRow base 22 2 t n xs) : (Builtin.append_ #[25, 25] 25 #[t, .slice none 0 c2]).run Try.prog w = .ok t w := by
  obtain ⟨i0, hi, _, _, _⟩ := info_parts Try.info22
  obtain ⟨_, ⟨rfl, _⟩ | ⟨g, cap, cur, rfl, _, _, hc, _⟩⟩ := h
  · simp [Builtin.append_, Builtin.lenOf, Builtin.firstCells, run_underlying Try.underlying25, sizeOf, typeInfo, hi]
  · simp [Builtin.append_, Builtin.lenOf, Builtin.firstCells, run_underlying Try.underlying25, sizeOf, typeInfo, hi, hc, storeCells]

set_option maxRecDepth 100000 in
/-- a row of pairs behind those that have been gathered -/
theorem append_rowV {ops : Array Oper} {rest : List Oper} {o : Oper} {act : Act} {Q : Exit → Act → World → Prop} (w0 w : World) (hgd : o.guard = none) (s x : Operand)
    (hop : o.op = .call { callee := .builtin .append, args := #[s, x], argTypes := #[25, 25] }) (hty : o.type = 25) (t : Value) (ps ys : List (Int × Int)) (a : Option Addr) (cap n : Nat) (hn : ys.length = n)
    (hs : act.eval s = t) (hx : act.eval x = .slice a n cap) (hG : VGath w0 t w ps) (hv : VRow w a ys) (hl : ps.length + n ≤ 4194304)
    (h : ∀ v' w2, VGath w0 v' w2 (ps ++ ys) → wpList Try.prog ops Q rest (act.put o.dst v') w2) : wpList Try.prog ops Q (o :: rest) act w := by
  obtain ⟨i0, hi, hz0, hz1, hz2⟩ := info_parts Try.info22
  subst hn
  cases a with
  | none =>
    have he : ys = [] := by
      rcases hv with e | ⟨b, off, e, _⟩
      · exact e
      · cases e
    subst he
    refine wpList_plain hgd fun K hK => ?_
    have hr := run_append_none w t _ _ _ cap hG.own
    unfold Oper.wp execOp
    simp only [hop, hty, resolve, invoke, builtin, Sem.run_bind, Sem.run_pure, Result.andThen_ok, List.map_toArray, List.map_cons, List.map_nil, hs, hx, List.length_nil, hr]
    exact hK _ _ (h _ _ (by rw [List.append_nil]; exact hG))
  | some ad =>
    have hsz := hG.below.size
    refine wpList_append_own w hgd s x 25 hop w0.heap.size 22 i0 (.agg #[.int .i64 0, .int .i64 0]) 2 16 Try.underlying25 hi hz0 hz1 hz2 rfl (by decide) _ _ _ hs hG.own ad ys.length cap (flatV ys) hx (flatV_len ys)
      (fun j u hu => ?_) (flatV_one ys) (by unfold maxLen; omega) (by omega) hsz (fun v' w2 ho hg _ => h _ _ ⟨?_, ?_⟩)
    · have hj : j < ys.length * 2 := by
        have := (List.getElem?_eq_some_iff.1 hu).1
        rw [flatV_len] at this; exact this
      rcases hv with e | ⟨b, off, e, k⟩
      · subst e; simp at hj
      · injection e with e
        subst e
        rw [Addr.add_lit]
        obtain ⟨h1, h2⟩ := k (j / 2) (by omega)
        obtain ⟨f1, f2⟩ := flatV_get ys (j / 2) (by omega)
        rcases Nat.mod_two_eq_zero_or_one j with e | e
        · have e2 : j / 2 * 2 = j := by omega
          rw [e2] at f1 h1
          rw [f1] at hu
          rw [h1]; exact hu
        · have e2 : j / 2 * 2 + 1 = j := by omega
          rw [e2] at f2
          rw [f2] at hu
          rw [show off + j / 2 * 2 + 1 = off + j by omega] at h2
          rw [h2]; exact hu
    · rw [flatV_append, List.length_append]; exact ho
    · exact hG.below.grown hg hsz fun q hq => (hG.own.lt q hq).1

set_option maxHeartbeats 6400000 in
theorem concat_any (S n1 n2 N c1 c2 : Nat) (a1 a2 : Option Addr) (xs ys : List (Int × Int)) (h1 : xs.length = n1) (h2 : ys.length = n2) (hN : n1 + n2 = N) (hl : N ≤ 1048576) (w : World) (s0 : w.cell? ⟨S, 0, none⟩ = some (.slice a1 n1 c1)) (s1 : w.cell? ⟨S, 1, none⟩ = some (.slice a2 n2 c2)) (v1 : VRow w a1 xs) (v2 : VRow w a2 ys) :
    Calls Try.prog 12 #[.slice (some ⟨S, 0, none⟩) 2 2] w fun e w' => ∃ ao cp, e = .returned (.slice ao N cp) ∧ VRow w' ao (xs ++ ys) ∧ Below w.heap.size w w' := by
  have hS : S < w.heap.size := block_lt s0
  have gr := grow_any N (by omega) w
  have d1 : decide ((n1 : Int) < 0) = false := decide_eq_false (by omega)
  have d2 : decide ((N : Int) < 0) = false := decide_eq_false (by omega)
  have d3 : (n1 : Int) + n2 = (N : Int) := by omega
  have n1b : n1 ≤ 1048576 := by omega
  have n2b : n2 ≤ 1048576 := by omega
  replace hN : Hid _ := hN
  replace h1 : Hid _ := h1
  replace h2 : Hid _ := h2
  go_enter Try.func12, Try.ntmps12
  go_wp2
  go_loopw [3, 11] (fun z i wr => w = wr ∧ (i = .int .i64 0 ∧ z = .int .i64 0 ∨ i = .int .i64 1 ∧ z = .int .i64 n1 ∨ i = .int .i64 2 ∧ z = .int .i64 N)) (fun _ i _ => 2 - (intOf i).toNat)
  case atStart => exact ⟨rfl, .inl ⟨rfl, rfl⟩⟩
  case round =>
    obtain ⟨rfl, ⟨rfl, rfl⟩ | ⟨rfl, rfl⟩ | ⟨rfl, rfl⟩⟩ := hrel
    · clear gr d2 d3
      go_wp2
      go_roundw
      case rel => exact ⟨by first | rfl | trivial, .inr (.inl ⟨rfl, rfl⟩)⟩
      case measure => simp [intOf]
    · clear gr d1
      go_wp2
      go_roundw
      case rel => exact ⟨by first | rfl | trivial, .inr (.inr ⟨rfl, rfl⟩)⟩
      case measure => simp [intOf]
    · clear d1 d2 d3
      go_wp2_with (go_at_call 29; refine gr.mono ?_; clear gr; rintro e w1 ⟨t, rfl, hG⟩)
      go_loopw [6, 27] (fun t i wr => i = .int .i64 0 ∧ VGath w t wr [] ∨ i = .int .i64 1 ∧ VGath w t wr ([] ++ xs) ∨ i = .int .i64 2 ∧ VGath w t wr ([] ++ xs ++ ys)) (fun _ i _ => 2 - (intOf i).toNat)
      case atStart => exact .inl ⟨rfl, hG⟩
      case round =>
        clear hG
        obtain ⟨rfl, hG⟩ | ⟨rfl, hG⟩ | ⟨rfl, hG⟩ := hrel
        · have c0 := (hG.below.cell (p := ⟨S, 0, none⟩) hS).trans s0
          have ap := fun ops rest o act Q hgd s x hop hty hs hx h => append_rowV (ops := ops) (rest := rest) (o := o) (act := act) (Q := Q) w wr hgd s x hop hty _ [] xs a1 c1 n1 h1.out hs hx hG (v1.kept hG.below) (by simp; omega) h
          replace ap : Hid _ := ap
          clear s0 s1 v1 v2
          go_wp2_with (at_builtin; refine ap.out _ _ _ _ _ rfl _ _ rfl rfl rfl rfl ?_; clear ap; intro t' w2 hS')
          go_roundw
          case rel => exact .inr (.inl ⟨rfl, hS'⟩)
          case measure => simp [intOf]
        · have c0 := (hG.below.cell (p := ⟨S, 1, none⟩) hS).trans s1
          have ap := fun ops rest o act Q hgd s x hop hty hs hx h => append_rowV (ops := ops) (rest := rest) (o := o) (act := act) (Q := Q) w wr hgd s x hop hty _ ([] ++ xs) ys a2 c2 n2 h2.out hs hx hG (v2.kept hG.below) (by have := h1.out; have := hN.out; simp; omega) h
          replace ap : Hid _ := ap
          clear s0 s1 v1 v2
          go_wp2_with (at_builtin; refine ap.out _ _ _ _ _ rfl _ _ rfl rfl rfl rfl ?_; clear ap; intro t' w2 hS')
          go_roundw
          case rel => exact .inr (.inr ⟨rfl, hS'⟩)
          case measure => simp [intOf]
        · obtain ⟨ao, cp, et, _, hr⟩ := hG.done (n := N) (by rw [List.nil_append, List.length_append, h1.out, h2.out]; exact hN.out)
          subst et
          have hB := hG.below
          clear hG s0 s1 v1 v2
          go_wp2
          go_ret
          exact ⟨ao, cp, rfl, hr, hB⟩

end Go.Proofs.Ytbnofjpiioneiaa.D

namespace Go.Proofs.Ytbnofjpiioneiaa.D
open Go.RowKit K
set_option linter.unusedVariables false
attribute [local go_sem ↓] eqSt

theorem RRow.far {w : World} {al : Option Addr} {R : List Rx} (h : RRow w al R) {D o : Nat} (hD : ∀ q, al = some q → q.block ≠ D) (v : Value) : RRow (w.setCell ⟨D, o, none⟩ v) al R := by
  rcases h with e | ⟨b, q, e, k⟩
  · exact .inl e
  · refine .inr ⟨b, q, e, fun j hj => ?_⟩
    have hb : D ≠ b := fun e' => hD _ e e'.symm
    have e : ∀ i, (w.setCell ⟨D, o, none⟩ v).cell? ⟨b, i, none⟩ = w.cell? ⟨b, i, none⟩ := fun i => World.cell?_setCell_other _ _ _ _ (fun p => hb (by injection p))
    obtain ⟨f0, f1, f2, f3, f4, f5⟩ := k j hj
    exact ⟨(e _).trans f0, (e _).trans f1, (e _).trans f2, (e _).trans f3, (e _).trans f4, (e _).trans f5⟩
/-- two slices in a block -/
structure Sls (w : World) (S n1 c1 n2 c2 : Nat) (a b : Option Addr) : Prop where
  c0 : w.cell? ⟨S, 0, none⟩ = some (.slice a n1 c1)
  c1 : w.cell? ⟨S, 1, none⟩ = some (.slice b n2 c2)
theorem Sls.new (w : World) (S : Nat) (hS : S = w.heap.size) (n1 c1 n2 c2 : Nat) (a b : Option Addr) : Sls (w.alloc (.cells #[.slice a n1 c1, .slice b n2 c2] 25)) S n1 c1 n2 c2 a b := by
  subst hS
  constructor <;> (rw [World.cell?_alloc_at _ _ _ _ rfl]; rfl)
theorem Sls.kept {w w' : World} {S n1 c1 n2 c2 : Nat} {a b : Option Addr} (h : Sls w S n1 c1 n2 c2 a b) (g : Below w.heap.size w w') : Sls w' S n1 c1 n2 c2 a b := by
  have hl : S < w.heap.size := block_lt h.c0
  exact ⟨(g.cell (p := ⟨S, 0, none⟩) hl).trans h.c0, (g.cell (p := ⟨S, 1, none⟩) hl).trans h.c1⟩
/-- rules in one block, two slices of a verdict in another one -/
structure Hd (w : World) (R D : Nat) (p0 p1 rr bf jt : Int) (a : Option Addr) (na ca : Nat) (b : Option Addr) (nb cb : Nat) : Prop where
  c0 : w.cell? ⟨R, 0, none⟩ = some (.int .i64 p0)
  c1 : w.cell? ⟨R, 1, none⟩ = some (.int .i64 p1)
  c2 : w.cell? ⟨R, 2, none⟩ = some (.int .i64 rr)
  c3 : w.cell? ⟨R, 3, none⟩ = some (.int .i64 bf)
  c4 : w.cell? ⟨R, 4, none⟩ = some (.int .i64 jt)
  c5 : w.cell? ⟨D, 2, none⟩ = some (.slice a na ca)
  c6 : w.cell? ⟨D, 3, none⟩ = some (.slice b nb cb)
theorem Hd.kept {w w' : World} {R D : Nat} {p0 p1 rr bf jt : Int} {a : Option Addr} {na ca : Nat} {b : Option Addr} {nb cb : Nat} (h : Hd w R D p0 p1 rr bf jt a na ca b nb cb) (g : Below w.heap.size w w') : Hd w' R D p0 p1 rr bf jt a na ca b nb cb := by
  have hl : R < w.heap.size := block_lt h.c0
  have hm : D < w.heap.size := block_lt h.c5
  have e : ∀ i, w'.cell? ⟨R, i, none⟩ = w.cell? ⟨R, i, none⟩ := fun i => g.cell (p := ⟨R, i, none⟩) hl
  have e2 : ∀ i, w'.cell? ⟨D, i, none⟩ = w.cell? ⟨D, i, none⟩ := fun i => g.cell (p := ⟨D, i, none⟩) hm
  exact ⟨(e _).trans h.c0, (e _).trans h.c1, (e _).trans h.c2, (e _).trans h.c3, (e _).trans h.c4, (e2 _).trans h.c5, (e2 _).trans h.c6⟩
theorem Hd.alloc {w : World} {R D : Nat} {p0 p1 rr bf jt : Int} {a : Option Addr} {na ca : Nat} {b : Option Addr} {nb cb : Nat} (h : Hd w R D p0 p1 rr bf jt a na ca b nb cb) (o : Obj) : Hd (w.alloc o) R D p0 p1 rr bf jt a na ca b nb cb := h.kept (balloc (Below.refl _ _) o)
theorem Hd.far {w : World} {R E : Nat} {p0 p1 rr bf jt : Int} {a : Option Addr} {na ca : Nat} {b : Option Addr} {nb cb : Nat} (h : Hd w R E p0 p1 rr bf jt a na ca b nb cb) {D o : Nat} (hD : D ≠ R ∧ D ≠ E) (v : Value) : Hd (w.setCell ⟨D, o, none⟩ v) R E p0 p1 rr bf jt a na ca b nb cb := by
  have e : ∀ i, (w.setCell ⟨D, o, none⟩ v).cell? ⟨R, i, none⟩ = w.cell? ⟨R, i, none⟩ := fun i => World.cell?_setCell_other _ _ _ _ (fun p => hD.1 (by injection p))
  have e2 : ∀ i, (w.setCell ⟨D, o, none⟩ v).cell? ⟨E, i, none⟩ = w.cell? ⟨E, i, none⟩ := fun i => World.cell?_setCell_other _ _ _ _ (fun p => hD.2 (by injection p))
  exact ⟨(e _).trans h.c0, (e _).trans h.c1, (e _).trans h.c2, (e _).trans h.c3, (e _).trans h.c4, (e2 _).trans h.c5, (e2 _).trans h.c6⟩
theorem RRow.cut' {w : World} {q : Addr} {R : List Rx} (h : RRow w (some q) R) (f t : Nat) : RRow w (some (q.add (f * 6))) ((R.take t).drop f) := by
  rcases id h with rfl | ⟨b, o, e, _⟩
  · exact .inl (by simp)
  · injection e with e
    subst e
    rw [Addr.add_lit]
    exact h.sub f t

set_option maxHeartbeats 3200000 in
theorem vte_no (p0 p1 rr bf jt who ratio k m E : Int) (hk : (k != 2) = true) (w : World)
    (j0 : ∀ v, Calls Try.prog 9 #[.agg #[.int .i64 p0, .int .i64 p1, .int .i64 rr, .int .i64 bf, .int .i64 jt], .int .i64 who, .int .i64 ratio] v fun e w' => e = .returned (.tuple #[.agg #[.int .i64 k, .int .i64 m, .slice none 0 0, .slice none 0 0], .int .i64 E]) ∧ Below v.heap.size v w')
    (tj : ∀ v, Calls Try.prog 10 #[.agg #[.int .i64 p0, .int .i64 p1, .int .i64 rr, .int .i64 bf, .int .i64 jt], .int .i64 who, .int .i64 ratio] v fun e w' => e = .returned (.tuple #[.int .i64 k, .int .i64 m, .int .i64 E]) ∧ Below v.heap.size v w') :
    Calls Try.prog 3 #[.agg #[.int .i64 p0, .int .i64 p1, .int .i64 rr, .int .i64 bf, .int .i64 jt], .int .i64 who, .int .i64 ratio] w fun e w' => e = .returned (.bool true) ∧ Below w.heap.size w w' := by
  have B : Below w.heap.size w (w.alloc (.cells #[.int .i64 p0, .int .i64 p1, .int .i64 rr, .int .i64 bf, .int .i64 jt] 24)) := balloc (Below.refl _ _) _
  have X := Rul.new w _ rfl p0 p1 rr bf jt
  obtain ⟨x0, x1, x2, x3, x4, -, -, -, -, -⟩ := id X
  have c0 : (E != E) = false := by simp
  have c1 : (k != k) = false := by simp
  have c2 : (m != m) = false := by simp
  go_enter Try.func3, Try.ntmps3
  go_wp2_with (first
    | (go_at_call 9; refine (j0 _).mono ?_; clear j0 x0 x1 x2 x3 x4; rintro e w1 ⟨rfl, b1⟩; replace B := balloc (bthen B b1) (.cells #[.int .i64 k, .int .i64 m, .slice none 0 0, .slice none 0 0] 27); replace X := (X.kept b1).alloc (.cells #[.int .i64 k, .int .i64 m, .slice none 0 0, .slice none 0 0] 27); obtain ⟨x0, x1, x2, x3, x4, -, -, -, -, -⟩ := id X; have V := Cls.new w1 #[.int .i64 k, .int .i64 m, .slice none 0 0, .slice none 0 0] 27)
    | (go_at_call 10; refine (tj _).mono ?_; clear tj x0 x1 x2 x3 x4; rintro e w2 ⟨rfl, b2⟩; replace B := bthen B b2; replace V := V.kept b2; have v0 := V.c 0 _ rfl; have v1 := V.c 1 _ rfl; have v2 := V.c 2 _ rfl; have v3 := V.c 3 _ rfl))
  go_ret
  exact ⟨rfl, B⟩

set_option maxHeartbeats 25600000 in
theorem vte_yes (p0 p1 rr bf jt who ratio : Int) (r : Ru) (w : World)
    (j0 : ∀ v, Calls Try.prog 9 #[.agg #[.int .i64 p0, .int .i64 p1, .int .i64 rr, .int .i64 bf, .int .i64 jt], .int .i64 who, .int .i64 ratio] v fun e w' => ∃ a na ca b nb cb A C, e = .returned (.tuple #[.agg #[.int .i64 2, .int .i64 0, .slice a na ca, .slice b nb cb], .int .i64 0]) ∧ Hid (Sv r who ratio A C ∧ A.length = na ∧ C.length = nb) ∧ (na ≤ 300 ∧ nb ≤ 300 ∧ 0 < nb) ∧ VRow w' a A ∧ VRow w' b C ∧ Below v.heap.size v w')
    (tj : ∀ v, Calls Try.prog 10 #[.agg #[.int .i64 p0, .int .i64 p1, .int .i64 rr, .int .i64 bf, .int .i64 jt], .int .i64 who, .int .i64 ratio] v fun e w' => e = .returned (.tuple #[.int .i64 2, .int .i64 0, .int .i64 0]) ∧ Below v.heap.size v w')
    (pl : Hid (∀ A C na nb, Sv r who ratio A C → A.length = na → C.length = nb → ∃ t0 t1 t2 t3 t4 t5 t6 t7 t8 t9 t10 t11 t12 t13 : Int, ∃ RB : List Rx, ∃ tot : Int, RB.length = na + nb ∧ 0 < tot ∧
      (∀ a ca v, VRow v a A → Calls Try.prog 11 #[.agg #[.int .i64 p0, .int .i64 p1, .int .i64 rr, .int .i64 bf, .int .i64 jt], .slice a na ca] v fun e w' => ∃ ao cp, e = .returned (.tuple #[.slice ao na cp, .agg #[.int .i64 t0, .int .i64 t1, .int .i64 t2, .int .i64 t3, .int .i64 t4, .int .i64 t5, .int .i64 t6, .int .i64 t7, .int .i64 t8, .int .i64 t9, .int .i64 t10, .int .i64 t11, .int .i64 t12, .int .i64 t13], .int .i64 0]) ∧ Below v.heap.size v w') ∧
      (∀ ao cp v, VRow v ao (A ++ C) → Calls Try.prog 11 #[.agg #[.int .i64 p0, .int .i64 p1, .int .i64 rr, .int .i64 bf, .int .i64 jt], .slice ao (na + nb) cp] v fun e w' => ∃ al cp', e = .returned (.tuple #[.slice al (na + nb) cp', .agg #[.int .i64 t0, .int .i64 t1, .int .i64 t2, .int .i64 t3, .int .i64 t4, .int .i64 t5, .int .i64 t6, .int .i64 t7, .int .i64 t8, .int .i64 t9, .int .i64 t10, .int .i64 t11, .int .i64 t12, .int .i64 t13], .int .i64 0]) ∧ na + nb ≤ cp' ∧ RRow w' al RB ∧ (∀ q, al = some q → v.heap.size ≤ q.block) ∧ Below v.heap.size v w') ∧
      (∀ ao v c, RRow v ao ((RB.take (na + nb)).drop na) → Calls Try.prog 13 #[.slice ao nb c, .int .i64 who, .int .i64 ratio] v fun e w' => e = .returned (.int .i64 tot) ∧ Below v.heap.size v w'))) :
    Calls Try.prog 3 #[.agg #[.int .i64 p0, .int .i64 p1, .int .i64 rr, .int .i64 bf, .int .i64 jt], .int .i64 who, .int .i64 ratio] w fun e w' => e = .returned (.bool true) ∧ Below w.heap.size w w' := by
  have B : Below w.heap.size w (w.alloc (.cells #[.int .i64 p0, .int .i64 p1, .int .i64 rr, .int .i64 bf, .int .i64 jt] 24)) := balloc (Below.refl _ _) _
  have X0 := Rul.new w _ rfl p0 p1 rr bf jt
  obtain ⟨x0, x1, x2, x3, x4, -, -, -, -, -⟩ := id X0
  go_enter Try.func3, Try.ntmps3
  go_upto_region 7 with (first
    | (go_at_call 9; refine (j0 _).mono ?_; clear j0 x0 x1 x2 x3 x4; rintro e w1 ⟨a, na, ca, b, nb, cb, A, C, rfl, sv, ⟨hna, hnb, hn0⟩, va, vc, b1⟩; replace B := balloc (bthen B b1) (.cells #[.int .i64 2, .int .i64 0, .slice a na ca, .slice b nb cb] 27); replace X0 := (X0.kept b1).alloc (.cells #[.int .i64 2, .int .i64 0, .slice a na ca, .slice b nb cb] 27); obtain ⟨x0, x1, x2, x3, x4, -, -, -, -, -⟩ := id X0; have V := Cls.new w1 #[.int .i64 2, .int .i64 0, .slice a na ca, .slice b nb cb] 27; replace va := va.alloc (.cells #[.int .i64 2, .int .i64 0, .slice a na ca, .slice b nb cb] 27); replace vc := vc.alloc (.cells #[.int .i64 2, .int .i64 0, .slice a na ca, .slice b nb cb] 27))
    | (go_at_call 10; refine (tj _).mono ?_; clear tj x0 x1 x2 x3 x4; rintro e w2 ⟨rfl, b2⟩; replace B := bthen B b2; replace V := V.kept b2; replace X0 := X0.kept b2; replace va := va.kept b2; replace vc := vc.kept b2; have v0 := V.c 0 _ rfl; have v1 := V.c 1 _ rfl))
  clear v0 v1
  obtain ⟨t0, t1, t2, t3, t4, t5, t6, t7, t8, t9, t10, t11, t12, t13, RB, tot, hRB, htot, pa, pc, br⟩ := pl.out A C na nb sv.out.1 sv.out.2.1 sv.out.2.2
  have hlA : Hid (A.length = na) := sv.out.2.1
  have hlC : Hid (C.length = nb) := sv.out.2.2
  have htop : decide (0 < tot) = true := decide_eq_true htot
  replace br : Hid _ := br
  replace hRB : Hid _ := hRB
  obtain ⟨M, hM⟩ : ∃ M, na + nb = M := ⟨_, rfl⟩
  rw [hM] at pc br hRB
  clear pl sv htot
  obtain ⟨D, hD⟩ : ∃ D, w1.heap.size = D := ⟨_, rfl⟩
  rw [hD] at V ⊢
  have X : Hd w2 w.heap.size D p0 p1 rr bf jt a na ca b nb cb := ⟨X0.c0, X0.c1, X0.c2, X0.c3, X0.c4, V.c 2 _ rfl, V.c 3 _ rfl⟩
  clear X0 V hD
  obtain ⟨x0, x1, x2, x3, x4, x5, x6⟩ := id X
  have pa' := pa a ca
  clear pa
  go_upto_region 8 with (go_at_call 11; refine (pa' _ va).mono ?_; clear pa' x0 x1 x2 x3 x4 x5 x6; rintro e v1 ⟨ao0, cp0, rfl, bb⟩; replace X := (X.kept bb).alloc (.cells #[.int .i64 t0, .int .i64 t1, .int .i64 t2, .int .i64 t3, .int .i64 t4, .int .i64 t5, .int .i64 t6, .int .i64 t7, .int .i64 t8, .int .i64 t9, .int .i64 t10, .int .i64 t11, .int .i64 t12, .int .i64 t13] 38); have Y := Sta.new v1 _ rfl t0 t1 t2 t3 t4 t5 t6 t7 t8 t9 t10 t11 t12 t13; replace B := balloc (bthen B bb) (.cells #[.int .i64 t0, .int .i64 t1, .int .i64 t2, .int .i64 t3, .int .i64 t4, .int .i64 t5, .int .i64 t6, .int .i64 t7, .int .i64 t8, .int .i64 t9, .int .i64 t10, .int .i64 t11, .int .i64 t12, .int .i64 t13] 38); replace va := (va.kept bb).alloc (.cells #[.int .i64 t0, .int .i64 t1, .int .i64 t2, .int .i64 t3, .int .i64 t4, .int .i64 t5, .int .i64 t6, .int .i64 t7, .int .i64 t8, .int .i64 t9, .int .i64 t10, .int .i64 t11, .int .i64 t12, .int .i64 t13] 38); replace vc := (vc.kept bb).alloc (.cells #[.int .i64 t0, .int .i64 t1, .int .i64 t2, .int .i64 t3, .int .i64 t4, .int .i64 t5, .int .i64 t6, .int .i64 t7, .int .i64 t8, .int .i64 t9, .int .i64 t10, .int .i64 t11, .int .i64 t12, .int .i64 t13] 38); clear bb)
  obtain ⟨C1, hC1⟩ : ∃ C1, v1.heap.size = C1 := ⟨_, rfl⟩
  obtain ⟨W1, hW1⟩ : ∃ W1, v1.alloc (.cells #[.int .i64 t0, .int .i64 t1, .int .i64 t2, .int .i64 t3, .int .i64 t4, .int .i64 t5, .int .i64 t6, .int .i64 t7, .int .i64 t8, .int .i64 t9, .int .i64 t10, .int .i64 t11, .int .i64 t12, .int .i64 t13] 38) = W1 := ⟨_, rfl⟩
  rw [hC1] at Y ⊢
  rw [hW1] at X Y B va vc ⊢
  clear hC1 hW1
  obtain ⟨x0, x1, x2, x3, x4, x5, x6⟩ := id X
  have hW0 : w.heap.size < W1.heap.size := block_lt X.c0
  have hWD : D < W1.heap.size := block_lt X.c5
  go_cut [15, 16, 17] from 66 to 77 (fun al tp f wc => ∃ aa cp C2, al = .slice aa M cp ∧ tp = .pointer (some ⟨C2, 0, none⟩) ∧ f = .int .i64 0 ∧ M ≤ cp ∧ RRow wc aa RB ∧ Sta wc C2 t0 t1 t2 t3 t4 t5 t6 t7 t8 t9 t10 t11 t12 t13 ∧ Below W1.heap.size W1 wc)
  case first =>
    have Q1 : Below W1.heap.size W1 (W1.alloc (.cells #[.slice a na ca, .slice b nb cb] 25)).drew := Below.drew (balloc (Below.refl _ _) _)
    have Q2 : Below W1.heap.size W1 ((W1.alloc (.cells #[.int .i64 0, .int .i64 0, .int .i64 0, .int .i64 0, .int .i64 0, .int .i64 0, .int .i64 0, .int .i64 0, .int .i64 0, .int .i64 0, .int .i64 0, .int .i64 0, .int .i64 0, .int .i64 0] 38)).alloc (.cells #[.slice a na ca, .slice b nb cb] 25)).drew := Below.drew (balloc (balloc (Below.refl _ _) _) _)
    have Q3 : Below W1.heap.size W1 ((W1.alloc (.cells #[.slice a na ca, .slice b nb cb] 25)).alloc (.cells #[.int .i64 0, .int .i64 0, .int .i64 0, .int .i64 0, .int .i64 0, .int .i64 0, .int .i64 0, .int .i64 0, .int .i64 0, .int .i64 0, .int .i64 0, .int .i64 0, .int .i64 0, .int .i64 0] 38)).drew := Below.drew (balloc (balloc (Below.refl _ _) _) _)
    have L1 := (Sls.new W1 W1.heap.size rfl na ca nb cb a b).kept (below_drewN (Below.refl _ _) 1)
    have L2 := (Sls.new (W1.alloc (.cells #[.int .i64 0, .int .i64 0, .int .i64 0, .int .i64 0, .int .i64 0, .int .i64 0, .int .i64 0, .int .i64 0, .int .i64 0, .int .i64 0, .int .i64 0, .int .i64 0, .int .i64 0, .int .i64 0] 38)) (W1.heap.size + 1) (by simp) na ca nb cb a b).kept (below_drewN (Below.refl _ _) 1)
    have L3 := ((Sls.new W1 W1.heap.size rfl na ca nb cb a b).kept (balloc (Below.refl _ _) (.cells #[.int .i64 0, .int .i64 0, .int .i64 0, .int .i64 0, .int .i64 0, .int .i64 0, .int .i64 0, .int .i64 0, .int .i64 0, .int .i64 0, .int .i64 0, .int .i64 0, .int .i64 0, .int .i64 0] 38))).kept (below_drewN (Below.refl _ _) 1)
    have Y2 := ((Sta.new W1 _ rfl 0 0 0 0 0 0 0 0 0 0 0 0 0 0).alloc (.cells #[.slice a na ca, .slice b nb cb] 25)).drew
    have Y3 := (Sta.new (W1.alloc (.cells #[.slice a na ca, .slice b nb cb] 25)) (W1.heap.size + 1) (by simp) 0 0 0 0 0 0 0 0 0 0 0 0 0 0).drew
    have hMb : M ≤ 1048576 := by omega
    have K1 := concat_any W1.heap.size na nb M ca cb a b A C hlA.out hlC.out hM hMb (W1.alloc (.cells #[.slice a na ca, .slice b nb cb] 25)).drew L1.c0 L1.c1 (va.kept Q1) (vc.kept Q1)
    have K2 := concat_any (W1.heap.size + 1) na nb M ca cb a b A C hlA.out hlC.out hM hMb ((W1.alloc (.cells #[.int .i64 0, .int .i64 0, .int .i64 0, .int .i64 0, .int .i64 0, .int .i64 0, .int .i64 0, .int .i64 0, .int .i64 0, .int .i64 0, .int .i64 0, .int .i64 0, .int .i64 0, .int .i64 0] 38)).alloc (.cells #[.slice a na ca, .slice b nb cb] 25)).drew L2.c0 L2.c1 (va.kept Q2) (vc.kept Q2)
    have K3 := concat_any W1.heap.size na nb M ca cb a b A C hlA.out hlC.out hM hMb ((W1.alloc (.cells #[.slice a na ca, .slice b nb cb] 25)).alloc (.cells #[.int .i64 0, .int .i64 0, .int .i64 0, .int .i64 0, .int .i64 0, .int .i64 0, .int .i64 0, .int .i64 0, .int .i64 0, .int .i64 0, .int .i64 0, .int .i64 0, .int .i64 0, .int .i64 0] 38)).drew L3.c0 L3.c1 (va.kept Q3) (vc.kept Q3)
    clear va vc L1 L2 L3 Y hMb
    go_region_held3 (fun w' => w'.cell? ⟨w.heap.size, 0, none⟩ = some (.int .i64 p0) ∧ w'.cell? ⟨w.heap.size, 1, none⟩ = some (.int .i64 p1) ∧ w'.cell? ⟨w.heap.size, 2, none⟩ = some (.int .i64 rr) ∧ w'.cell? ⟨w.heap.size, 3, none⟩ = some (.int .i64 bf) ∧ w'.cell? ⟨w.heap.size, 4, none⟩ = some (.int .i64 jt) ∧ w'.cell? ⟨D, 2, none⟩ = some (.slice a na ca) ∧ w'.cell? ⟨D, 3, none⟩ = some (.slice b nb cb)) (first | with_reducible exact ⟨x0, x1, x2, x3, x4, x5, x6⟩ | with_reducible exact ⟨Xf.c0, Xf.c1, Xf.c2, Xf.c3, Xf.c4, Xf.c5, Xf.c6⟩ | with_reducible exact ⟨Xa.c0, Xa.c1, Xa.c2, Xa.c3, Xa.c4, Xa.c5, Xa.c6⟩ | with_reducible exact ⟨Xb.c0, Xb.c1, Xb.c2, Xb.c3, Xb.c4, Xb.c5, Xb.c6⟩ | go_keep)
      (first
      | (go_at_call 12; with_reducible refine K1.mono ?_; clear K1 K2 K3 Y2 Y3; rintro xx u1 ⟨ao, cp, rfl, hrow, bb⟩; have FB := bthen Q1 bb; clear Q1 Q2 Q3; replace X := X.kept FB; clear bb x0 x1 x2 x3 x4 x5 x6; have Xa := X.alloc (.cells #[.int .i64 0, .int .i64 0, .int .i64 0, .int .i64 0, .int .i64 0, .int .i64 0, .int .i64 0, .int .i64 0, .int .i64 0, .int .i64 0, .int .i64 0, .int .i64 0, .int .i64 0, .int .i64 0] 38); have P1 := pc ao cp u1 hrow; have P2 := pc ao cp (u1.alloc (.cells #[.int .i64 0, .int .i64 0, .int .i64 0, .int .i64 0, .int .i64 0, .int .i64 0, .int .i64 0, .int .i64 0, .int .i64 0, .int .i64 0, .int .i64 0, .int .i64 0, .int .i64 0, .int .i64 0] 38)) (hrow.alloc (.cells #[.int .i64 0, .int .i64 0, .int .i64 0, .int .i64 0, .int .i64 0, .int .i64 0, .int .i64 0, .int .i64 0, .int .i64 0, .int .i64 0, .int .i64 0, .int .i64 0, .int .i64 0, .int .i64 0] 38)); have Y1 := Sta.new u1 _ rfl 0 0 0 0 0 0 0 0 0 0 0 0 0 0; obtain ⟨x0, x1, x2, x3, x4, x5, x6⟩ := id X)
      | (go_at_call 12; with_reducible refine K2.mono ?_; clear K1 K2 K3 Y3; rintro xx u1 ⟨ao, cp, rfl, hrow, bb⟩; have FB := bthen Q2 bb; clear Q1 Q2 Q3; replace X := X.kept FB; replace Y2 := Y2.kept bb; clear bb x0 x1 x2 x3 x4 x5 x6; have P1 := pc ao cp u1 hrow; obtain ⟨x0, x1, x2, x3, x4, x5, x6⟩ := id X)
      | (go_at_call 12; with_reducible refine K3.mono ?_; clear K1 K2 K3 Y2; rintro xx u1 ⟨ao, cp, rfl, hrow, bb⟩; have FB := bthen Q3 bb; clear Q1 Q2 Q3; replace X := X.kept FB; replace Y3 := Y3.kept bb; clear bb x0 x1 x2 x3 x4 x5 x6; have P1 := pc ao cp u1 hrow; obtain ⟨x0, x1, x2, x3, x4, x5, x6⟩ := id X)
      | (go_at_call 11; with_reducible refine P1.mono ?_; clear P1; rintro xx u2 ⟨aa, cp', rfl, hcp, hr, hq, bb⟩; have zs : W1.heap.size < u1.heap.size := block_lt Y2.c0; replace Y2 := Y2.kept bb; replace FB := bthen FB bb; replace X := X.kept bb; clear bb x0 x1 x2 x3 x4 x5 x6; have hz : ∀ q, aa = some q → q.block ≠ W1.heap.size := (fun q h => by have := hq q h; omega); have hz1 : W1.heap.size ≤ W1.heap.size := Nat.le_refl _; have Xf := ((((((((((((((X.far (D := W1.heap.size) (o := 0) (by omega) (.int .i64 t0)).far (D := W1.heap.size) (o := 1) (by omega) (.int .i64 t1)).far (D := W1.heap.size) (o := 2) (by omega) (.int .i64 t2)).far (D := W1.heap.size) (o := 3) (by omega) (.int .i64 t3)).far (D := W1.heap.size) (o := 4) (by omega) (.int .i64 t4)).far (D := W1.heap.size) (o := 5) (by omega) (.int .i64 t5)).far (D := W1.heap.size) (o := 6) (by omega) (.int .i64 t6)).far (D := W1.heap.size) (o := 7) (by omega) (.int .i64 t7)).far (D := W1.heap.size) (o := 8) (by omega) (.int .i64 t8)).far (D := W1.heap.size) (o := 9) (by omega) (.int .i64 t9)).far (D := W1.heap.size) (o := 10) (by omega) (.int .i64 t10)).far (D := W1.heap.size) (o := 11) (by omega) (.int .i64 t11)).far (D := W1.heap.size) (o := 12) (by omega) (.int .i64 t12)).far (D := W1.heap.size) (o := 13) (by omega) (.int .i64 t13)); have FR := ((((((((((((((hr.far (D := W1.heap.size) (o := 0) hz (.int .i64 t0)).far (D := W1.heap.size) (o := 1) hz (.int .i64 t1)).far (D := W1.heap.size) (o := 2) hz (.int .i64 t2)).far (D := W1.heap.size) (o := 3) hz (.int .i64 t3)).far (D := W1.heap.size) (o := 4) hz (.int .i64 t4)).far (D := W1.heap.size) (o := 5) hz (.int .i64 t5)).far (D := W1.heap.size) (o := 6) hz (.int .i64 t6)).far (D := W1.heap.size) (o := 7) hz (.int .i64 t7)).far (D := W1.heap.size) (o := 8) hz (.int .i64 t8)).far (D := W1.heap.size) (o := 9) hz (.int .i64 t9)).far (D := W1.heap.size) (o := 10) hz (.int .i64 t10)).far (D := W1.heap.size) (o := 11) hz (.int .i64 t11)).far (D := W1.heap.size) (o := 12) hz (.int .i64 t12)).far (D := W1.heap.size) (o := 13) hz (.int .i64 t13)); have FS := Y2.put t0 t1 t2 t3 t4 t5 t6 t7 t8 t9 t10 t11 t12 t13; replace FB := ((((((((((((((FB.setCell (p := ⟨W1.heap.size, 0, none⟩) hz1 (.int .i64 t0)).setCell (p := ⟨W1.heap.size, 1, none⟩) hz1 (.int .i64 t1)).setCell (p := ⟨W1.heap.size, 2, none⟩) hz1 (.int .i64 t2)).setCell (p := ⟨W1.heap.size, 3, none⟩) hz1 (.int .i64 t3)).setCell (p := ⟨W1.heap.size, 4, none⟩) hz1 (.int .i64 t4)).setCell (p := ⟨W1.heap.size, 5, none⟩) hz1 (.int .i64 t5)).setCell (p := ⟨W1.heap.size, 6, none⟩) hz1 (.int .i64 t6)).setCell (p := ⟨W1.heap.size, 7, none⟩) hz1 (.int .i64 t7)).setCell (p := ⟨W1.heap.size, 8, none⟩) hz1 (.int .i64 t8)).setCell (p := ⟨W1.heap.size, 9, none⟩) hz1 (.int .i64 t9)).setCell (p := ⟨W1.heap.size, 10, none⟩) hz1 (.int .i64 t10)).setCell (p := ⟨W1.heap.size, 11, none⟩) hz1 (.int .i64 t11)).setCell (p := ⟨W1.heap.size, 12, none⟩) hz1 (.int .i64 t12)).setCell (p := ⟨W1.heap.size, 13, none⟩) hz1 (.int .i64 t13)); clear hz hr hq; obtain ⟨x0, x1, x2, x3, x4, x5, x6⟩ := id X; obtain ⟨y0, y1, y2, y3, y4, y5, y6, y7, y8, y9, y10, y11, y12, y13, f0, f1, f2, f3, f4, f5, f6, f7, f8, f9, f10, f11, f12, f13⟩ := Y2)
      | (go_at_call 11; with_reducible refine P1.mono ?_; clear P1; rintro xx u2 ⟨aa, cp', rfl, hcp, hr, hq, bb⟩; have zs : W1.heap.size + 1 < u1.heap.size := block_lt Y3.c0; replace Y3 := Y3.kept bb; replace FB := bthen FB bb; replace X := X.kept bb; clear bb x0 x1 x2 x3 x4 x5 x6; have hz : ∀ q, aa = some q → q.block ≠ W1.heap.size + 1 := (fun q h => by have := hq q h; omega); have hz1 : W1.heap.size ≤ W1.heap.size + 1 := Nat.le_succ _; have Xf := ((((((((((((((X.far (D := W1.heap.size + 1) (o := 0) (by omega) (.int .i64 t0)).far (D := W1.heap.size + 1) (o := 1) (by omega) (.int .i64 t1)).far (D := W1.heap.size + 1) (o := 2) (by omega) (.int .i64 t2)).far (D := W1.heap.size + 1) (o := 3) (by omega) (.int .i64 t3)).far (D := W1.heap.size + 1) (o := 4) (by omega) (.int .i64 t4)).far (D := W1.heap.size + 1) (o := 5) (by omega) (.int .i64 t5)).far (D := W1.heap.size + 1) (o := 6) (by omega) (.int .i64 t6)).far (D := W1.heap.size + 1) (o := 7) (by omega) (.int .i64 t7)).far (D := W1.heap.size + 1) (o := 8) (by omega) (.int .i64 t8)).far (D := W1.heap.size + 1) (o := 9) (by omega) (.int .i64 t9)).far (D := W1.heap.size + 1) (o := 10) (by omega) (.int .i64 t10)).far (D := W1.heap.size + 1) (o := 11) (by omega) (.int .i64 t11)).far (D := W1.heap.size + 1) (o := 12) (by omega) (.int .i64 t12)).far (D := W1.heap.size + 1) (o := 13) (by omega) (.int .i64 t13)); have FR := ((((((((((((((hr.far (D := W1.heap.size + 1) (o := 0) hz (.int .i64 t0)).far (D := W1.heap.size + 1) (o := 1) hz (.int .i64 t1)).far (D := W1.heap.size + 1) (o := 2) hz (.int .i64 t2)).far (D := W1.heap.size + 1) (o := 3) hz (.int .i64 t3)).far (D := W1.heap.size + 1) (o := 4) hz (.int .i64 t4)).far (D := W1.heap.size + 1) (o := 5) hz (.int .i64 t5)).far (D := W1.heap.size + 1) (o := 6) hz (.int .i64 t6)).far (D := W1.heap.size + 1) (o := 7) hz (.int .i64 t7)).far (D := W1.heap.size + 1) (o := 8) hz (.int .i64 t8)).far (D := W1.heap.size + 1) (o := 9) hz (.int .i64 t9)).far (D := W1.heap.size + 1) (o := 10) hz (.int .i64 t10)).far (D := W1.heap.size + 1) (o := 11) hz (.int .i64 t11)).far (D := W1.heap.size + 1) (o := 12) hz (.int .i64 t12)).far (D := W1.heap.size + 1) (o := 13) hz (.int .i64 t13)); have FS := Y3.put t0 t1 t2 t3 t4 t5 t6 t7 t8 t9 t10 t11 t12 t13; replace FB := ((((((((((((((FB.setCell (p := ⟨W1.heap.size + 1, 0, none⟩) hz1 (.int .i64 t0)).setCell (p := ⟨W1.heap.size + 1, 1, none⟩) hz1 (.int .i64 t1)).setCell (p := ⟨W1.heap.size + 1, 2, none⟩) hz1 (.int .i64 t2)).setCell (p := ⟨W1.heap.size + 1, 3, none⟩) hz1 (.int .i64 t3)).setCell (p := ⟨W1.heap.size + 1, 4, none⟩) hz1 (.int .i64 t4)).setCell (p := ⟨W1.heap.size + 1, 5, none⟩) hz1 (.int .i64 t5)).setCell (p := ⟨W1.heap.size + 1, 6, none⟩) hz1 (.int .i64 t6)).setCell (p := ⟨W1.heap.size + 1, 7, none⟩) hz1 (.int .i64 t7)).setCell (p := ⟨W1.heap.size + 1, 8, none⟩) hz1 (.int .i64 t8)).setCell (p := ⟨W1.heap.size + 1, 9, none⟩) hz1 (.int .i64 t9)).setCell (p := ⟨W1.heap.size + 1, 10, none⟩) hz1 (.int .i64 t10)).setCell (p := ⟨W1.heap.size + 1, 11, none⟩) hz1 (.int .i64 t11)).setCell (p := ⟨W1.heap.size + 1, 12, none⟩) hz1 (.int .i64 t12)).setCell (p := ⟨W1.heap.size + 1, 13, none⟩) hz1 (.int .i64 t13)); clear hz hr hq; obtain ⟨x0, x1, x2, x3, x4, x5, x6⟩ := id X; obtain ⟨y0, y1, y2, y3, y4, y5, y6, y7, y8, y9, y10, y11, y12, y13, f0, f1, f2, f3, f4, f5, f6, f7, f8, f9, f10, f11, f12, f13⟩ := Y3)
      | (go_at_call 11; with_reducible refine P2.mono ?_; clear P1 P2; rintro xx u2 ⟨aa, cp', rfl, hcp, hr, hq, bb⟩; have zs : W1.heap.size ≤ u1.heap.size := FB.size; replace Y1 := Y1.kept bb; replace FB := bthen (balloc FB (.cells #[.int .i64 0, .int .i64 0, .int .i64 0, .int .i64 0, .int .i64 0, .int .i64 0, .int .i64 0, .int .i64 0, .int .i64 0, .int .i64 0, .int .i64 0, .int .i64 0, .int .i64 0, .int .i64 0] 38)) bb; replace X := Xa.kept bb; clear bb Xa x0 x1 x2 x3 x4 x5 x6; have wu : w.heap.size < u1.heap.size := (by omega); have wd : D < u1.heap.size := (by omega); have hz : ∀ q, aa = some q → q.block ≠ u1.heap.size := (fun q h => by have := hq q h; simp at this; omega); have hz1 : W1.heap.size ≤ u1.heap.size := zs; have Xf := ((((((((((((((X.far (D := u1.heap.size) (o := 0) (by omega) (.int .i64 t0)).far (D := u1.heap.size) (o := 1) (by omega) (.int .i64 t1)).far (D := u1.heap.size) (o := 2) (by omega) (.int .i64 t2)).far (D := u1.heap.size) (o := 3) (by omega) (.int .i64 t3)).far (D := u1.heap.size) (o := 4) (by omega) (.int .i64 t4)).far (D := u1.heap.size) (o := 5) (by omega) (.int .i64 t5)).far (D := u1.heap.size) (o := 6) (by omega) (.int .i64 t6)).far (D := u1.heap.size) (o := 7) (by omega) (.int .i64 t7)).far (D := u1.heap.size) (o := 8) (by omega) (.int .i64 t8)).far (D := u1.heap.size) (o := 9) (by omega) (.int .i64 t9)).far (D := u1.heap.size) (o := 10) (by omega) (.int .i64 t10)).far (D := u1.heap.size) (o := 11) (by omega) (.int .i64 t11)).far (D := u1.heap.size) (o := 12) (by omega) (.int .i64 t12)).far (D := u1.heap.size) (o := 13) (by omega) (.int .i64 t13)); have FR := ((((((((((((((hr.far (D := u1.heap.size) (o := 0) hz (.int .i64 t0)).far (D := u1.heap.size) (o := 1) hz (.int .i64 t1)).far (D := u1.heap.size) (o := 2) hz (.int .i64 t2)).far (D := u1.heap.size) (o := 3) hz (.int .i64 t3)).far (D := u1.heap.size) (o := 4) hz (.int .i64 t4)).far (D := u1.heap.size) (o := 5) hz (.int .i64 t5)).far (D := u1.heap.size) (o := 6) hz (.int .i64 t6)).far (D := u1.heap.size) (o := 7) hz (.int .i64 t7)).far (D := u1.heap.size) (o := 8) hz (.int .i64 t8)).far (D := u1.heap.size) (o := 9) hz (.int .i64 t9)).far (D := u1.heap.size) (o := 10) hz (.int .i64 t10)).far (D := u1.heap.size) (o := 11) hz (.int .i64 t11)).far (D := u1.heap.size) (o := 12) hz (.int .i64 t12)).far (D := u1.heap.size) (o := 13) hz (.int .i64 t13)); have FS := Y1.put t0 t1 t2 t3 t4 t5 t6 t7 t8 t9 t10 t11 t12 t13; replace FB := ((((((((((((((FB.setCell (p := ⟨u1.heap.size, 0, none⟩) hz1 (.int .i64 t0)).setCell (p := ⟨u1.heap.size, 1, none⟩) hz1 (.int .i64 t1)).setCell (p := ⟨u1.heap.size, 2, none⟩) hz1 (.int .i64 t2)).setCell (p := ⟨u1.heap.size, 3, none⟩) hz1 (.int .i64 t3)).setCell (p := ⟨u1.heap.size, 4, none⟩) hz1 (.int .i64 t4)).setCell (p := ⟨u1.heap.size, 5, none⟩) hz1 (.int .i64 t5)).setCell (p := ⟨u1.heap.size, 6, none⟩) hz1 (.int .i64 t6)).setCell (p := ⟨u1.heap.size, 7, none⟩) hz1 (.int .i64 t7)).setCell (p := ⟨u1.heap.size, 8, none⟩) hz1 (.int .i64 t8)).setCell (p := ⟨u1.heap.size, 9, none⟩) hz1 (.int .i64 t9)).setCell (p := ⟨u1.heap.size, 10, none⟩) hz1 (.int .i64 t10)).setCell (p := ⟨u1.heap.size, 11, none⟩) hz1 (.int .i64 t11)).setCell (p := ⟨u1.heap.size, 12, none⟩) hz1 (.int .i64 t12)).setCell (p := ⟨u1.heap.size, 13, none⟩) hz1 (.int .i64 t13)); clear hz hr hq; obtain ⟨x0, x1, x2, x3, x4, x5, x6⟩ := id X; obtain ⟨y0, y1, y2, y3, y4, y5, y6, y7, y8, y9, y10, y11, y12, y13, f0, f1, f2, f3, f4, f5, f6, f7, f8, f9, f10, f11, f12, f13⟩ := Y1)
      | (go_at_call 11; with_reducible refine P1.mono ?_; clear P1 P2 Y1; rintro xx u2 ⟨aa, cp', rfl, hcp, hr, hq, bb⟩; have zs : W1.heap.size ≤ u1.heap.size := FB.size; have zs2 : u1.heap.size ≤ u2.heap.size := bb.size; replace FB := balloc (bthen FB bb) (.cells #[.int .i64 t0, .int .i64 t1, .int .i64 t2, .int .i64 t3, .int .i64 t4, .int .i64 t5, .int .i64 t6, .int .i64 t7, .int .i64 t8, .int .i64 t9, .int .i64 t10, .int .i64 t11, .int .i64 t12, .int .i64 t13] 38); replace X := X.kept bb; clear bb Xa x0 x1 x2 x3 x4 x5 x6; have Xa := X.alloc (.cells #[.int .i64 0, .int .i64 0, .int .i64 0, .int .i64 0, .int .i64 0, .int .i64 0, .int .i64 0, .int .i64 0, .int .i64 0, .int .i64 0, .int .i64 0, .int .i64 0, .int .i64 0, .int .i64 0] 38); have Xb := X.alloc (.cells #[.int .i64 t0, .int .i64 t1, .int .i64 t2, .int .i64 t3, .int .i64 t4, .int .i64 t5, .int .i64 t6, .int .i64 t7, .int .i64 t8, .int .i64 t9, .int .i64 t10, .int .i64 t11, .int .i64 t12, .int .i64 t13] 38); have FR := hr.alloc (.cells #[.int .i64 t0, .int .i64 t1, .int .i64 t2, .int .i64 t3, .int .i64 t4, .int .i64 t5, .int .i64 t6, .int .i64 t7, .int .i64 t8, .int .i64 t9, .int .i64 t10, .int .i64 t11, .int .i64 t12, .int .i64 t13] 38); have FS := Sta.new u2 _ rfl t0 t1 t2 t3 t4 t5 t6 t7 t8 t9 t10 t11 t12 t13; clear hr hq; obtain ⟨x0, x1, x2, x3, x4, x5, x6⟩ := id X))
    all_goals
      go_wp2
      go_meet
      exact ⟨aa, cp', _, rfl, rfl, rfl, hcp, FR, FS, FB⟩
  case rest =>
    clear x0 x1 x2 x3 x4 x5 x6
    obtain ⟨aa, cp, C2, rfl, rfl, rfl, hcp, RR, Z, B4⟩ := hcut
    replace X := X.kept B4
    replace Y := Y.kept B4
    replace B := bthen B B4
    clear va vc pc hW0 hWD
    have hsame := sameS_self t0 t1 t2 t3 t4 t5 t6 t7 t8 t9 t10 t11 t12 t13
    have g0 : (0 : Int) < (nb : Int) := by omega
    have g1 : max (na : Int) (nb : Int) ≤ 300 := by omega
    have f0 : (na : Int) ≤ (M : Int) := by omega
    have f1 : (M : Int) ≤ (cp : Int) := by omega
    have hMn : M - na = nb := by omega
    obtain ⟨-, -, -, -, -, v2, v3⟩ := X
    obtain ⟨y0, y1, y2, y3, y4, y5, y6, y7, y8, y9, y10, y11, y12, y13, -, -, -, -, -, -, -, -, -, -, -, -, -, -⟩ := Y
    obtain ⟨z0, z1, z2, z3, z4, z5, z6, z7, z8, z9, z10, z11, z12, z13, -, -, -, -, -, -, -, -, -, -, -, -, -, -⟩ := Z
    cases aa with
    | none =>
      have hz : RB = [] := by
        rcases RR with h | ⟨_, _, e, _⟩
        · exact h
        · cases e
      have hr : Hid (∀ v ao', RRow v ao' ((RB.take M).drop na)) := fun v ao' => .inl (by rw [hz]; simp)
      clear hz RR
      go_wp2_with (go_at_call 13; refine (br.out _ _ _ (hr.out _ _)).mono ?_; clear br; rintro e w6 ⟨rfl, b6⟩; replace B := bthen B b6)
      go_ret
      exact ⟨rfl, B⟩
    | some q =>
      have hcf : ¬ cp = na := by omega
      have hr := RR.cut' na M
      clear RR
      go_wp2_with (go_at_call 13; refine (br.out _ _ _ hr).mono ?_; clear br; rintro e w6 ⟨rfl, b6⟩; replace B := bthen B b6)
      go_ret
      exact ⟨rfl, B⟩

end Go.Proofs.Ytbnofjpiioneiaa.D
