/- PROVED: on plain lists: what steady's own search gathers behind so many steps. a map whose keys are states: what it answers, what a store leaves. steady's finding in memory: three rows, a map, what keeps them, how each grows. CONDITIONS: none beyond each theorem's own. -/
import Derived.Test.YtjageagnclmnjabGreatDoorB08SoA
import Derived.Test.YtjageagnclmnjabGreatDoorB02DMem
import Derived.Test.YtjageagnclmnjabGreatDoorB01Tx
import Derived.Maps.OwnSet
import Derived.Maps.OwnIn
import Derived.DeepKeys4
import Derived.Test.YtjageagnclmnjabGreatDoorB10Ft
import Derived.RangeFuncNested
namespace Go.Proofs.YtjageagnclmnjabGreatDoor.D
open Go.RowKit K
set_option linter.unusedVariables false

/-- a step: from, to, its number, what came -/
structure Stp where
  f : Nat
  t : Nat
  n : Nat
  c0 : Int
  c1 : Int
/-- states, steps, by which step each was found -/
structure Gs where
  L : List Sx
  S : List Stp
  F : List Nat
def g1 (r : Ru) (k : Nat) (x : Sx) (G : Gs) (n : Nat) : Gs := ⟨YtjageagnclmnjabGreatDoor.nx G.L (sp r x n), G.S ++ [⟨k, ix G.L (sp r x n), n, (K.round r x).c0, (K.round r x).c1⟩], if sp r x n ∈ G.L then G.F else G.F ++ [G.S.length]⟩
def ga (r : Ru) : Nat → Gs
  | 0 => ⟨[K.start r], [], [0]⟩
  | t + 1 => match (ga r t).L[t / ee r]? with
    | none => ga r t
    | some x => g1 r (t / ee r) x (ga r t) (t % ee r)
theorem ga_go {r : Ru} {t : Nat} {x : Sx} (h : (ga r t).L[t / ee r]? = some x) : ga r (t + 1) = g1 r (t / ee r) x (ga r t) (t % ee r) := by
  rw [ga, h]
theorem ga_stay {r : Ru} {t : Nat} (h : (ga r t).L[t / ee r]? = none) : ga r (t + 1) = ga r t := by
  rw [ga, h]
theorem ga_L (r : Ru) (t : Nat) : (ga r t).L = (xp r t).1 := by
  induction t with
  | zero => rfl
  | succ t ih =>
    cases hx : (xp r t).1[t / ee r]? with
    | none =>
      rw [ga_stay (by rw [ih]; exact hx), ih]
      exact congrArg Prod.fst (ex_stay hx).symm
    | some x =>
      rw [ga_go (x := x) (by rw [ih]; exact hx)]
      show YtjageagnclmnjabGreatDoor.nx (ga r t).L (sp r x (t % ee r)) = _
      rw [ih]
      exact (congrArg Prod.fst (ex_go (step := sp r) (E := ee r) (s0 := K.start r) hx)).symm
/-- so many steps of one state in order -/
theorem ga_range {r : Ru} {k : Nat} {x : Sx} (h : (ga r (k * ee r)).L[k]? = some x) : ∀ m, m ≤ ee r → (List.range m).foldl (g1 r k x) (ga r (k * ee r)) = ga r (k * ee r + m) ∧ (ga r (k * ee r + m)).L[k]? = some x := by
  intro m
  induction m with
  | zero => intro _; exact ⟨rfl, h⟩
  | succ m ih =>
    intro hm
    obtain ⟨h1, h2⟩ := ih (by omega)
    have hd : (k * ee r + m) / ee r = k := by
      rw [Nat.mul_comm, Nat.mul_add_div (ee_pos r), Nat.div_eq_of_lt (by omega), Nat.add_zero]
    have hm2 : (k * ee r + m) % ee r = m := by
      rw [Nat.mul_comm, Nat.mul_add_mod, Nat.mod_eq_of_lt (by omega)]
    have e := ga_go (r := r) (t := k * ee r + m) (x := x) (by rw [hd]; exact h2)
    rw [hd, hm2] at e
    rw [List.range_succ, List.foldl_append, h1]
    refine ⟨?_, ?_⟩
    · rw [← Nat.add_assoc, e]; rfl
    · rw [← Nat.add_assoc, e]
      exact nx_old h2
/-- the steps, and by which each was found -/
theorem ga_S {r : Ru} {t : Nat} (h : Live (sp r) (ee r) (K.start r) t) : (ga r t).S.length = t ∧ ∀ u, u < t → ∃ x i, (xp r t).1[u / ee r]? = some x ∧ (xp r t).2[u]? = some i ∧ (ga r t).S[u]? = some ⟨u / ee r, i, u % ee r, (K.round r x).c0, (K.round r x).c1⟩ := by
  induction t with
  | zero => exact ⟨rfl, fun u hu => by omega⟩
  | succ t ih =>
    obtain ⟨h1, h2⟩ := ih (h.less (by omega))
    obtain ⟨x, hx, e⟩ := ex_succ (h t (by omega))
    have hx' : (ga r t).L[t / ee r]? = some x := by rw [ga_L]; exact hx
    have e2 := ga_go hx'
    have e1 : xp r (t + 1) = (YtjageagnclmnjabGreatDoor.nx (xp r t).1 (sp r x (t % ee r)), (xp r t).2 ++ [ix (xp r t).1 (sp r x (t % ee r))]) := e
    have hl : (xp r t).2.length = t := ex_len (h.less (by omega))
    refine ⟨by rw [e2]; simp [g1, h1], fun u hu => ?_⟩
    rcases Nat.lt_succ_iff_lt_or_eq.1 hu with q | rfl
    · obtain ⟨x', i, a, b, c⟩ := h2 u q
      refine ⟨x', i, by rw [e1]; exact nx_old a, ?_, ?_⟩
      · rw [e1]
        show ((xp r t).2 ++ _)[u]? = _
        rw [List.getElem?_append_left (by omega)]; exact b
      · rw [e2]
        show ((ga r t).S ++ _)[u]? = _
        rw [List.getElem?_append_left (by omega)]; exact c
    · refine ⟨x, ix (xp r u).1 (sp r x (u % ee r)), by rw [e1]; exact nx_old hx, ?_, ?_⟩
      · rw [e1]
        show ((xp r u).2 ++ _)[u]? = _
        rw [List.getElem?_append_right (by omega), hl]; simp
      · rw [e2]
        show ((ga r u).S ++ _)[u]? = _
        rw [List.getElem?_append_right (by omega), h1, ga_L]; simp
theorem ga_F {r : Ru} {t : Nat} (h : Live (sp r) (ee r) (K.start r) t) : (ga r t).F.length = (xp r t).1.length ∧ ∀ j, 1 ≤ j → j < (xp r t).1.length → ∃ u, (ga r t).F[j]? = some u ∧ u < t ∧ Fst (sp r) (ee r) (K.start r) j u := by
  induction t with
  | zero => exact ⟨rfl, fun j h1 h2 => by have : (xp r 0).1.length = 1 := rfl; omega⟩
  | succ t ih =>
    have hl := h.less (show t ≤ t + 1 by omega)
    obtain ⟨h1, h2⟩ := ih hl
    have hlt : t < ee r * (xp r t).1.length := h t (by omega)
    obtain ⟨x, hx, e⟩ := ex_succ (h t (by omega))
    have hx' : (ga r t).L[t / ee r]? = some x := by rw [ga_L]; exact hx
    have e2 := ga_go hx'
    have e1 : xp r (t + 1) = (YtjageagnclmnjabGreatDoor.nx (xp r t).1 (sp r x (t % ee r)), (xp r t).2 ++ [ix (xp r t).1 (sp r x (t % ee r))]) := e
    have hS := (ga_S hl).1
    by_cases hm : sp r x (t % ee r) ∈ (xp r t).1
    · have eF : (ga r (t + 1)).F = (ga r t).F := by
        rw [e2]
        show (if _ then _ else _) = _
        rw [ga_L, if_pos hm]
      have eL : (xp r (t + 1)).1 = (xp r t).1 := by
        rw [e1]
        show YtjageagnclmnjabGreatDoor.nx _ _ = _
        unfold YtjageagnclmnjabGreatDoor.nx
        rw [if_pos hm]
      rw [eF, eL]
      refine ⟨h1, fun j q1 q2 => ?_⟩
      obtain ⟨u, a, b, c⟩ := h2 j q1 q2
      exact ⟨u, a, by omega, c⟩
    · have eF : (ga r (t + 1)).F = (ga r t).F ++ [t] := by
        rw [e2]
        show (if _ then _ else _) = _
        rw [ga_L, if_neg hm, hS]
      have eL : (xp r (t + 1)).1 = (xp r t).1 ++ [sp r x (t % ee r)] := by
        rw [e1]
        show YtjageagnclmnjabGreatDoor.nx _ _ = _
        unfold YtjageagnclmnjabGreatDoor.nx
        rw [if_neg hm]
      have hlen : (xp r (t + 1)).1.length = (xp r t).1.length + 1 := by rw [eL]; simp
      refine ⟨by rw [eF, hlen]; simp [h1], fun j q1 q2 => ?_⟩
      rw [eF]
      rw [hlen] at q2
      rcases Nat.lt_succ_iff_lt_or_eq.1 q2 with q | q
      · obtain ⟨u, a, b, c⟩ := h2 j q1 q
        exact ⟨u, by rw [List.getElem?_append_left (by omega)]; exact a, by omega, c⟩
      · refine ⟨t, by rw [List.getElem?_append_right (by omega), h1, q]; simp, by omega, hlt, q.symm, ?_⟩
        show (xp r (t + 1)).1.length = j + 1
        rw [hlen, q]

/-- a step's cells -/
def cP (r : Ru) (s : Stp) : List Value := [.int .i64 (s.f : Int), .int .i64 (s.t : Int), .int .i64 ((s.n / jj r : Nat) : Int), .int .i64 ((s.n % jj r : Nat) : Int), .int .i64 s.c0, .int .i64 s.c1]
def flP (r : Ru) : List Stp → List Value
  | [] => []
  | s :: l => cP r s ++ flP r l
theorem flP_len (r : Ru) (l : List Stp) : (flP r l).length = l.length * 6 := by
  induction l with
  | nil => rfl
  | cons s l ih => simp only [flP, cP, List.length_append, List.length_cons, List.length_nil, ih]; omega
theorem flP_append (r : Ru) (a b : List Stp) : flP r (a ++ b) = flP r a ++ flP r b := by
  induction a with
  | nil => rfl
  | cons s l ih => simp [flP, ih]
theorem flP_get (r : Ru) (l : List Stp) : ∀ (j i : Nat) (s : Stp), l[j]? = some s → i < 6 → (flP r l)[j * 6 + i]? = (cP r s)[i]? := by
  induction l with
  | nil => intro j i s h; simp at h
  | cons x l ih =>
    intro j i s h hi
    cases j with
    | zero =>
      have e : x = s := by simpa using h
      subst e
      rw [flP, Nat.zero_mul, Nat.zero_add, List.getElem?_append_left (by simpa [cP] using hi)]
    | succ j =>
      rw [flP, List.getElem?_append_right (by simp [cP]; omega), show (j + 1) * 6 + i - (cP r x).length = j * 6 + i by simp [cP]; omega]
      exact ih j i s (by simpa using h) hi
/-- the three rows -/
def gr (r : Ru) (G : Gs) : Nat → List Value
  | 0 => flS G.L
  | 1 => flP r G.S
  | _ => G.F.map fun i => .int .i64 ((i : Nat) : Int)
def gn (G : Gs) : Nat → Nat
  | 0 => G.L.length
  | 1 => G.S.length
  | _ => G.F.length

end Go.Proofs.YtjageagnclmnjabGreatDoor.D

namespace Go.Proofs.YtjageagnclmnjabGreatDoor.D
open Go.RowKit K Go.Maps
set_option linter.unusedVariables false

theorem Tryz.laidOut : laidOutB Tryz.prog = true := by kernel_rfl
theorem Tryz.nty : Tryz.prog.types.size = 238 := by kernel_rfl
theorem Tryz.row48 : 147 < Tryz.prog.types.size := by rw [Tryz.nty]; omega
theorem Tryz.deep : Tryz.prog.keyTypeAt 5 147 = true := by kernel_rfl
theorem Tryz.kty : Tryz.prog.keyType 147 = true := by kernel_rfl
theorem Tryz.key48 : Keyed Tryz.prog 147 := Keyed.of_law (deep_law_laid Tryz.laidOut (m := 5) (by omega) Tryz.row48 Tryz.deep (by rw [Tryz.underlying147]))
theorem Tryz.zero3 (w : World) : (zeroValue 3).run Tryz.prog w = .ok (.int .i64 0) w := by kernel_rfl
theorem Tryz.ce3 : Tryz.prog.cellsOf 3 = 1 := by kernel_rfl
theorem Tryz.ce22 : Tryz.prog.cellsOf 67 = 2 := by kernel_rfl
theorem Tryz.ce45 : Tryz.prog.cellsOf 45 = 6 := by kernel_rfl
theorem Tryz.ce46 : Tryz.prog.cellsOf 145 = 12 := by kernel_rfl
theorem Tryz.ce48 : Tryz.prog.cellsOf 147 = 14 := by kernel_rfl

/-- a state as a value -/
def aS (s : Sx) : Value := .agg #[.int .i64 s.f0.k, .int .i64 s.f0.n, .int .i64 s.f0.b, .int .i64 s.f0.a, .int .i64 s.f0.s, .int .i64 s.f0.q, .int .i64 s.f1.k, .int .i64 s.f1.n, .int .i64 s.f1.b, .int .i64 s.f1.a, .int .i64 s.f1.s, .int .i64 s.f1.q, .int .i64 s.w0, .int .i64 s.w1]
/-- all of its numbers are numbers -/
structure okS (s : Sx) : Prop where
  h0 : (Lit.int .i64 s.f0.k).wf = true
  h1 : (Lit.int .i64 s.f0.n).wf = true
  h2 : (Lit.int .i64 s.f0.b).wf = true
  h3 : (Lit.int .i64 s.f0.a).wf = true
  h4 : (Lit.int .i64 s.f0.s).wf = true
  h5 : (Lit.int .i64 s.f0.q).wf = true
  h6 : (Lit.int .i64 s.f1.k).wf = true
  h7 : (Lit.int .i64 s.f1.n).wf = true
  h8 : (Lit.int .i64 s.f1.b).wf = true
  h9 : (Lit.int .i64 s.f1.a).wf = true
  h10 : (Lit.int .i64 s.f1.s).wf = true
  h11 : (Lit.int .i64 s.f1.q).wf = true
  h12 : (Lit.int .i64 s.w0).wf = true
  h13 : (Lit.int .i64 s.w1).wf = true
theorem kl3 (d : Nat) {n : Int} (h : (Lit.int .i64 n).wf = true) : Tryz.prog.keyLits (d + 1) 3 [.int .i64 n] = some [.int .i64 n] := by
  simp [Program.keyLits, Tryz.underlying3, h]
theorem kl22 (d : Nat) {a b : Int} (ha : (Lit.int .i64 a).wf = true) (hb : (Lit.int .i64 b).wf = true) : Tryz.prog.keyLits (d + 1 + 1) 67 [.int .i64 a, .int .i64 b] = some [.int .i64 a, .int .i64 b] := by
  unfold Program.keyLits
  rw [Tryz.underlying67]
  simp [Tryz.ce22, Tryz.ce3, List.range_succ, kl3, ha, hb]
theorem kl45 (d : Nat) {a b c e f g : Int} (h0 : (Lit.int .i64 a).wf = true) (h1 : (Lit.int .i64 b).wf = true) (h2 : (Lit.int .i64 c).wf = true) (h3 : (Lit.int .i64 e).wf = true) (h4 : (Lit.int .i64 f).wf = true) (h5 : (Lit.int .i64 g).wf = true) : Tryz.prog.keyLits (d + 1 + 1) 45 [.int .i64 a, .int .i64 b, .int .i64 c, .int .i64 e, .int .i64 f, .int .i64 g] = some [.int .i64 a, .int .i64 b, .int .i64 c, .int .i64 e, .int .i64 f, .int .i64 g] := by
  unfold Program.keyLits
  rw [Tryz.underlying45]
  simp [Tryz.ce45, Tryz.ce3, kl3, h0, h1, h2, h3, h4, h5]
theorem key_some {s : Sx} (h : okS s) : ∃ kl, keyOf Tryz.prog 147 (aS s) = some kl := by
  obtain ⟨h0, h1, h2, h3, h4, h5, h6, h7, h8, h9, h10, h11, h12, h13⟩ := h
  have e46 : Tryz.prog.keyLits (237 + 1) 145 [.int .i64 s.f0.k, .int .i64 s.f0.n, .int .i64 s.f0.b, .int .i64 s.f0.a, .int .i64 s.f0.s, .int .i64 s.f0.q, .int .i64 s.f1.k, .int .i64 s.f1.n, .int .i64 s.f1.b, .int .i64 s.f1.a, .int .i64 s.f1.s, .int .i64 s.f1.q] = some [.int .i64 s.f0.k, .int .i64 s.f0.n, .int .i64 s.f0.b, .int .i64 s.f0.a, .int .i64 s.f0.s, .int .i64 s.f0.q, .int .i64 s.f1.k, .int .i64 s.f1.n, .int .i64 s.f1.b, .int .i64 s.f1.a, .int .i64 s.f1.s, .int .i64 s.f1.q] := by
    unfold Program.keyLits
    rw [Tryz.underlying145]
    have q := kl45 235 h0 h1 h2 h3 h4 h5
    have q' := kl45 235 h6 h7 h8 h9 h10 h11
    simp only [Nat.reduceAdd] at q q'
    simp [Tryz.ce46, Tryz.ce45, List.range_succ, q, q']
  have e22 := kl22 236 h12 h13
  have e48 : Tryz.prog.keyLits (238 + 1) 147 [.int .i64 s.f0.k, .int .i64 s.f0.n, .int .i64 s.f0.b, .int .i64 s.f0.a, .int .i64 s.f0.s, .int .i64 s.f0.q, .int .i64 s.f1.k, .int .i64 s.f1.n, .int .i64 s.f1.b, .int .i64 s.f1.a, .int .i64 s.f1.s, .int .i64 s.f1.q, .int .i64 s.w0, .int .i64 s.w1] = some [.int .i64 s.f0.k, .int .i64 s.f0.n, .int .i64 s.f0.b, .int .i64 s.f0.a, .int .i64 s.f0.s, .int .i64 s.f0.q, .int .i64 s.f1.k, .int .i64 s.f1.n, .int .i64 s.f1.b, .int .i64 s.f1.a, .int .i64 s.f1.s, .int .i64 s.f1.q, .int .i64 s.w0, .int .i64 s.w1] := by
    unfold Program.keyLits
    rw [Tryz.underlying147]
    simp only [Nat.reduceAdd] at e46 e22
    simp [Tryz.ce48, Tryz.ce46, Tryz.ce22, e46, e22]
  have hfm : (aS s).formed Tryz.prog 147 = true := by simp [aS, Value.formed, Tryz.underlying147, Tryz.ce48]
  rw [← Option.isSome_iff_exists]
  unfold keyOf
  rw [Tryz.underlying147]
  simp only [Tryz.kty, hfm, Bool.and_self, if_true, Tryz.nty]
  simp only [aS, Value.cells]
  rw [e48]
  rfl
theorem aS_inj {x y : Sx} (h : aS x = aS y) : x = y := by
  obtain ⟨⟨a0, a1, a2, a3, a4, a5⟩, ⟨a6, a7, a8, a9, a10, a11⟩, a12, a13⟩ := x
  obtain ⟨⟨b0, b1, b2, b3, b4, b5⟩, ⟨b6, b7, b8, b9, b10, b11⟩, b12, b13⟩ := y
  simp [aS] at h
  obtain ⟨rfl, rfl, rfl, rfl, rfl, rfl, rfl, rfl, rfl, rfl, rfl, rfl, rfl, rfl⟩ := h
  rfl

/-- block M is a map: of each state of L its number -/
def MapOf (w : World) (M : Nat) (L : List Sx) : Prop := ∃ D : DataW Unit, w.ownsMap Tryz.prog 147 (plainElem Tryz.prog 3) M L.length D ∧
  ∀ x kl, keyOf Tryz.prog 147 (aS x) = some kl → Maps.has D kl = decide (x ∈ L) ∧ ∀ i : Nat, L[i]? = some x → D.atKey kl (.lit (.int .i64 0)) = .lit (.int .i64 (i : Int))
theorem MapOf.made (w : World) : MapOf (w.alloc (.map #[] 0)) w.heap.size [] :=
  ⟨.map [], World.ownsMap_made w _ _ _, fun x kl hk => ⟨by simp [Maps.has], fun i h => by simp at h⟩⟩
theorem MapOf.lt {w : World} {M : Nat} {L : List Sx} (h : MapOf w M L) : M < w.heap.size := by
  obtain ⟨D, h1, _⟩ := h; exact h1.lt
theorem MapOf.same {w w' : World} {M : Nat} {L : List Sx} (h : MapOf w M L) (e : w'.heap[M]? = w.heap[M]?) : MapOf w' M L := by
  obtain ⟨D, ⟨es, clock, hb, r⟩, h2⟩ := h
  exact ⟨D, ⟨es, clock, e.trans hb, r⟩, h2⟩
/-- it is no row of cells -/
theorem MapOf.obj {w : World} {M : Nat} {L : List Sx} (h : MapOf w M L) : ∃ es clock, w.heap[M]? = some (.map es clock) := by
  obtain ⟨D, ⟨es, clock, hb, r⟩, h2⟩ := h
  exact ⟨es, clock, hb⟩
theorem lit_inj {a b : Int} (h : (DataW.lit (.int .i64 a) : DataW Unit) = .lit (.int .i64 b)) : a = b := by
  injection h with h
  injection h with _ h
/-- 'to, known := f.number[next]' -/
theorem MapOf.look {w : World} {M : Nat} {L : List Sx} (h : MapOf w M L) {x : Sx} (hx : okS x) :
    ∃ c : Int, (Instr.lookup 116 (.map (some M)) (aS x) true).run Tryz.prog w = .ok (.tuple #[.int .i64 c, .bool (decide (x ∈ L))]) w ∧ ∀ i : Nat, L[i]? = some x → c = (i : Int) := by
  obtain ⟨D, h1, h2⟩ := h
  obtain ⟨kl, hk⟩ := key_some hx
  obtain ⟨q1, q2⟩ := h2 x kl hk
  have hw0 : (Lit.int .i64 0).wf = true := by decide
  obtain ⟨v, ps, hrun, hR⟩ := h1.look_ok Tryz.key48 Tryz.underlying116 (Tryz.zero3 w) (plainElem_int Tryz.underlying3 hw0) hk
  obtain ⟨c, rfl, hc, _⟩ := plainElem_int_inv Tryz.underlying3 hR
  refine ⟨c, by rw [hrun, q1], fun i hi => ?_⟩
  have e := (q2 i hi).symm.trans (congrArg Prod.fst hc)
  exact lit_inj e.symm
/-- 'f.number[s] = n' -/
theorem MapOf.store {w : World} {M : Nat} {L : List Sx} (h : MapOf w M L) {x : Sx} (hx : okS x) (hn : x ∉ L) (hl : L.length ≤ 1048576) :
    ∃ w', (Instr.mapUpdate 116 (.map (some M)) (aS x) (.int .i64 (L.length : Int))).run Tryz.prog w = .ok () w' ∧ MapOf w' M (L ++ [x]) ∧ w.grownBy w' (some M) ∧ w'.heap.size = w.heap.size := by
  obtain ⟨D, h1, h2⟩ := h
  obtain ⟨kl, hk⟩ := key_some hx
  obtain ⟨w', hrun, ho, ht⟩ := h1.store Tryz.key48 Tryz.underlying116 (show L.length < maxLen by unfold maxLen; omega) hk (plainElem_int (H := Unit) (a := (L.length : Int)) Tryz.underlying3 (WalkArith.wf_i64 (by omega)))
  refine ⟨w', hrun, ⟨_, by rw [List.length_append]; exact ho, fun y ky hy => ?_⟩, ht.grown, by obtain ⟨es, cl, es', cl', hb, rfl⟩ := ht; simp [ChangeMaps.setBlock]⟩
  have him := h1.isMap
  have hkk := Tryz.key48.key hk
  by_cases e : ky = kl
  · subst e
    obtain rfl : y = x := aS_inj (Tryz.key48.inj hy hk)
    refine ⟨by rw [Maps.has_put_same him hkk]; simp, fun i hi => ?_⟩
    rw [Maps.atKey_put_same him hkk]
    have : i = L.length := by
      rcases Nat.lt_or_ge i L.length with q | q
      · rw [List.getElem?_append_left q] at hi
        exact absurd (List.mem_of_getElem? hi) hn
      · have := (List.getElem?_eq_some_iff.1 hi).1
        simp at this
        omega
    rw [this]
  · have hne : y ≠ x := fun q => e (Option.some.inj (hy.symm.trans (q ▸ hk)))
    obtain ⟨q1, q2⟩ := h2 y ky hy
    refine ⟨by rw [Maps.has_put_other e, q1]; simp [hne], fun i hi => ?_⟩
    rw [Maps.atKey_put_other e]
    refine q2 i ?_
    rcases Nat.lt_or_ge i L.length with q | q
    · rwa [List.getElem?_append_left q] at hi
    · rw [List.getElem?_append_right q] at hi
      have hz : i - L.length = 0 := by
        have := (List.getElem?_eq_some_iff.1 hi).1
        simp at this
        omega
      rw [hz] at hi
      simp at hi
      exact absurd hi.symm hne
end Go.Proofs.YtjageagnclmnjabGreatDoor.D

namespace Go.Proofs.YtjageagnclmnjabGreatDoor.D
open Go.RowKit K
set_option linter.unusedVariables false

/-- in which field row c lies -/
def fld : Nat → Nat
  | 0 => 0
  | c + 1 => c + 2
/-- the finding in block C, its map in block M: rows of L, S, F; the map knows of Lm -/
structure Fnd (B0 : Nat) (K : Nat → Prop) (C M : Nat) (r : Ru) (v : Nat → Value) (L Lm : List Sx) (S : List Stp) (F : List Nat) (w : World) : Prop where
  cf : ∀ c, c < 3 → w.cell? ⟨C, fld c, none⟩ = some (v c)
  cm : w.cell? ⟨C, 1, none⟩ = some (.map (some M))
  f : ∀ c, c < 4 → w.frozen? ⟨C, c, none⟩ = false
  fam : F3.Fam B0 K v (gn ⟨L, S, F⟩) (gr r ⟨L, S, F⟩) w
  kC : K C
  kM : K M
  map : MapOf w M Lm
  b0 : B0 ≤ C ∧ B0 ≤ M
/-- what has changed: C, M and the rows, and nothing but M that is no row of cells -/
structure Mov (B0 : Nat) (K : Nat → Prop) (C M : Nat) (w w' : World) : Prop where
  oth : ∀ g, K g → g ≠ C → g ≠ M → w'.heap[g]? = w.heap[g]?
  obj : ∀ (g : Nat) (o : Obj), g ≠ M → w.heap[g]? = some o → o.isCells = false → w'.heap[g]? = some o
  bel : Below B0 w w'
theorem Mov.trans {B0 : Nat} {K : Nat → Prop} {C M : Nat} {w w1 w2 : World} (h : Mov B0 K C M w w1) (k : Mov B0 K C M w1 w2) : Mov B0 K C M w w2 :=
  ⟨fun g h1 h2 h3 => (k.oth g h1 h2 h3).trans (h.oth g h1 h2 h3), fun g o h1 h2 h3 => k.obj g o h1 (h.obj g o h1 h2 h3) h3, h.bel.trans k.bel⟩
theorem Mov.of_below {B0 : Nat} {K : Nat → Prop} {C M : Nat} {w w1 : World} (hK : ∀ g, K g → g < w.heap.size) (hB : B0 ≤ w.heap.size) (b : Below w.heap.size w w1) : Mov B0 K C M w w1 :=
  ⟨fun g h1 _ _ => b.block g (hK g h1), fun g o _ h2 _ => (b.block g (Array.getElem?_eq_some_iff.1 h2).1).trans h2, b.mono hB⟩
theorem Mov.less {B0 : Nat} {K K' : Nat → Prop} {C M : Nat} {w w1 : World} (h : Mov B0 K C M w w1) (hk : ∀ g, K' g → K g) : Mov B0 K' C M w w1 := ⟨fun g h1 => h.oth g (hk g h1), h.obj, h.bel⟩

section
variable {B0 : Nat} {K : Nat → Prop} {C M : Nat} {r : Ru} {v : Nat → Value} {L Lm : List Sx} {S : List Stp} {F : List Nat} {w w' : World}
theorem Fnd.kept (h : Fnd B0 K C M r v L Lm S F w) (b : Below w.heap.size w w') : Fnd B0 K C M r v L Lm S F w' := by
  have hC : C < w.heap.size := block_lt h.cm
  exact ⟨fun c hc => (b.cell (p := ⟨C, fld c, none⟩) hC).trans (h.cf c hc), (b.cell (p := ⟨C, 1, none⟩) hC).trans h.cm, fun c hc => (b.frozen (p := ⟨C, c, none⟩) hC).trans (h.f c hc), h.fam.kept b, h.kC, h.kM, h.map.same (b.block M h.map.lt), h.b0⟩
theorem Fnd.alloc (h : Fnd B0 K C M r v L Lm S F w) (o : Obj) : Fnd B0 (fun g => K g ∨ g = w.heap.size) C M r v L Lm S F (w.alloc o) :=
  have k := h.kept (balloc (Below.refl _ _) o)
  ⟨k.cf, k.cm, k.f, h.fam.alloc o, .inl k.kC, .inl k.kM, k.map, k.b0⟩
theorem Fnd.less {K' : Nat → Prop} (h : Fnd B0 K C M r v L Lm S F w) (hk : ∀ g, K' g → K g) (h1 : K' C) (h2 : K' M) : Fnd B0 K' C M r v L Lm S F w :=
  ⟨h.cf, h.cm, h.f, h.fam.less hk, h1, h2, h.map, h.b0⟩
theorem Fnd.drew (h : Fnd B0 K C M r v L Lm S F w) : Fnd B0 K C M r v L Lm S F w.drew := h.kept (Below.drew (Below.refl _ _))
theorem Fnd.apart (h : Fnd B0 K C M r v L Lm S F w) : C ≠ M := fun e => by
  obtain ⟨es, cl, q⟩ := h.map.obj
  have := h.cm
  rw [e] at this
  simp [World.cell?, q] at this
theorem fld_inj {c d : Nat} (hc : c < 3) (hd : d < 3) (h : fld c = fld d) : c = d := by
  rcases (show c = 0 ∨ c = 1 ∨ c = 2 by omega) with rfl | rfl | rfl <;> rcases (show d = 0 ∨ d = 1 ∨ d = 2 by omega) with rfl | rfl | rfl <;> simp [fld] at h ⊢
theorem fld_ne {c : Nat} (hc : c < 3) : fld c ≠ 1 ∧ fld c < 4 := by
  rcases (show c = 0 ∨ c = 1 ∨ c = 2 by omega) with rfl | rfl | rfl <;> simp [fld]
theorem cells_at {w : World} {a : Addr} {x : Value} {o : Obj} (h : w.cell? a = some x) (ho : w.heap[a.block]? = some o) (hc : o.isCells = false) : False := by
  unfold World.cell? at h
  rw [ho] at h
  cases o with
  | cells cs t fr => cases hc
  | _ => cases h
/-- ROW c GROWS BY ONE -/
theorem Fnd.app (h : Fnd B0 K C M r v L Lm S F w) {c : Nat} (hc : c < 3) (hn : gn ⟨L, S, F⟩ c + 1 ≤ 1048576) {news : List Value} (hl : news.length = F3.fsz c) (h1 : ∀ u ∈ news, u.oneCell' = true) (ty : Nat) {L' : List Sx} {S' : List Stp} {F' : List Nat}
    (hg : ∀ d, d < 3 → gn ⟨L', S', F'⟩ d = up (gn ⟨L, S, F⟩) c (gn ⟨L, S, F⟩ c + 1) d ∧ gr r ⟨L', S', F'⟩ d = up (gr r ⟨L, S, F⟩) c (gr r ⟨L, S, F⟩ c ++ news) d) :
    ∃ g cap w2, (Builtin.append_ #[F3.fsl c, F3.fsl c] ty #[v c, .slice (some ⟨w.heap.size, 0, none⟩) 1 1]).run Tryz.prog (w.alloc (.cells news.toArray (F3.fty c))) = .ok (.slice (some ⟨g, 0, none⟩) (gn ⟨L, S, F⟩ c + 1) cap) w2 ∧ w2.cell? ⟨C, fld c, none⟩ = some (v c) ∧ w2.frozen? ⟨C, fld c, none⟩ = false ∧
      Fnd B0 K C M r (up v c (.slice (some ⟨g, 0, none⟩) (gn ⟨L, S, F⟩ c + 1) cap)) L' Lm S' F' (w2.setCell ⟨C, fld c, none⟩ (.slice (some ⟨g, 0, none⟩) (gn ⟨L, S, F⟩ c + 1) cap)) ∧
      Mov B0 K C M w (w2.setCell ⟨C, fld c, none⟩ (.slice (some ⟨g, 0, none⟩) (gn ⟨L, S, F⟩ c + 1) cap)) ∧ (∀ g, K g → w2.heap[g]? = w.heap[g]?) := by
  have k := h.alloc (.cells news.toArray (F3.fty c))
  have hb : (w.alloc (.cells news.toArray (F3.fty c))).heap[w.heap.size]? = some (.cells news.toArray (F3.fty c) (0, 0)) := by show (w.heap.push _)[w.heap.size]? = _; simp
  obtain ⟨g, cap, w2, hr, hF, hK, hgr⟩ := k.fam.append hc hn hb hl h1 ty
  have bA : Below w.heap.size w (w.alloc (.cells news.toArray (F3.fty c))) := balloc (Below.refl _ _) _
  have hKw : ∀ g, K g → g < w.heap.size := fun g hg => (h.fam.kb g hg).1
  have hsame : ∀ g, K g → w2.heap[g]? = w.heap[g]? := fun g hg => (hK g (.inl hg)).trans (bA.block g (hKw g hg))
  have hC := hsame C h.kC
  have hsz : w.heap.size ≤ w2.heap.size := Nat.le_trans bA.size hgr.size
  obtain ⟨hf1, hf4⟩ := fld_ne hc
  have cc : ∀ d, d < 3 → w2.cell? ⟨C, fld d, none⟩ = some (v d) := fun d hd => (World.cell?_of_block (a := ⟨C, fld d, none⟩) hC).trans (h.cf d hd)
  have ff : ∀ d, d < 4 → w2.frozen? ⟨C, d, none⟩ = false := fun d hd => (World.frozen?_of_block (a := ⟨C, d, none⟩) hC).trans (h.f d hd)
  have hne := h.apart
  have hmv : Mov B0 K C M w w2 := by
    refine ⟨fun g hg _ _ => hsame g hg, fun g o hg ho hoc => ?_, ?_⟩
    · have hlt := (Array.getElem?_eq_some_iff.1 ho).1
      have hA := (bA.block g hlt).trans ho
      refine (hgr.block g (Nat.lt_of_lt_of_le hlt bA.size) (fun q => ?_)).trans hA
      obtain ⟨o', q1, q2⟩ := k.fam.cells hc q.symm
      rw [hA] at q1; injection q1 with q1; subst q1; rw [q2] at hoc; cases hoc
    · exact Below.grown (bA.mono h.fam.sz) hgr (Nat.le_trans h.fam.sz bA.size) (fun q hq => ((k.fam.own c hc).lt q hq).1)
  refine ⟨g, cap, w2, hr, cc c hc, ff _ hf4, ?_, hmv.trans ?_, hsame⟩
  · refine ⟨fun d hd => ?_, ?_, fun d hd => (World.frozen?_setCell _ _ _ _).trans (ff d hd), ?_, h.kC, h.kM, ?_, h.b0⟩
    · by_cases e : d = c
      · subst e; rw [up_at]; exact World.cell?_setCell_same _ _ _ (cc d hd)
      · rw [up_ne _ _ _ e, World.cell?_setCell_other _ _ _ _ (fun q => e (fld_inj hd hc (congrArg Addr.off q).symm))]; exact cc d hd
    · rw [World.cell?_setCell_other _ _ _ _ (fun q => hf1 (congrArg Addr.off q))]
      exact (World.cell?_of_block (a := ⟨C, 1, none⟩) hC).trans h.cm
    · refine ((hF.put (p := ⟨C, fld c, none⟩) (.inl h.kC) _).less (K' := K) fun g hg => .inl hg).ext fun d hd => ⟨rfl, (hg d hd).1, (hg d hd).2⟩
    · refine h.map.same ((Below.heap_setCell _ _ _ _ ?_).trans (hsame M h.kM))
      exact fun e => hne e.symm
  · refine ⟨fun g hg q1 q2 => Below.heap_setCell _ _ _ _ (by exact q1), fun g o q1 q2 q3 => ?_, ?_⟩
    · refine (Below.heap_setCell _ _ _ _ ?_).trans q2
      intro e
      have e : g = C := e
      subst e
      exact cells_at (cc c hc) q2 q3
    · exact Below.setCell (Below.refl _ _) (p := ⟨C, fld c, none⟩) h.b0.1 _
/-- THE MAP HEARS OF ONE STATE MORE -/
theorem Fnd.store (h : Fnd B0 K C M r v L Lm S F w) {x : Sx} (hx : okS x) (hn : x ∉ Lm) (hl : Lm.length ≤ 1048576) :
    ∃ w', (Instr.mapUpdate 116 (.map (some M)) (aS x) (.int .i64 (Lm.length : Int))).run Tryz.prog w = .ok () w' ∧ Fnd B0 K C M r v L (Lm ++ [x]) S F w' ∧ Mov B0 K C M w w' := by
  obtain ⟨w', hr, hM, hg, hsz⟩ := h.map.store hx hn hl
  have hne := h.apart
  have blk : ∀ g, g < w.heap.size → g ≠ M → w'.heap[g]? = w.heap[g]? := fun g h1 h2 => hg.block g h1 (fun q => h2 (by injection q))
  have hC : C < w.heap.size := block_lt h.cm
  have eC := blk C hC hne
  refine ⟨w', hr, ⟨fun c hc => (World.cell?_of_block (a := ⟨C, fld c, none⟩) eC).trans (h.cf c hc), (World.cell?_of_block (a := ⟨C, 1, none⟩) eC).trans h.cm, fun c hc => (World.frozen?_of_block (a := ⟨C, c, none⟩) eC).trans (h.f c hc), ?_, h.kC, h.kM, hM, h.b0⟩, ?_⟩
  · exact h.fam.same (fun c hc g hq => blk g ((h.fam.own c hc).lt g hq).2 (fun e => (h.fam.kb M h.kM).2 c hc (by rw [← e]; exact hq))) (by omega)
  · exact ⟨fun g h1 _ h3 => blk g (h.fam.kb g h1).1 h3, fun g o h1 h2 _ => (blk g (Array.getElem?_eq_some_iff.1 h2).1 h1).trans h2, Below.grown (Below.refl _ _) hg h.fam.sz (fun q hq => by cases hq; exact h.b0.2)⟩
end
/-- how the three rows grow -/
theorem gn_state (r : Ru) (L : List Sx) (S : List Stp) (F : List Nat) (y : Sx) : ∀ d, d < 3 → gn ⟨L ++ [y], S, F⟩ d = up (gn ⟨L, S, F⟩) 0 (gn ⟨L, S, F⟩ 0 + 1) d ∧ gr r ⟨L ++ [y], S, F⟩ d = up (gr r ⟨L, S, F⟩) 0 (gr r ⟨L, S, F⟩ 0 ++ cS y) d := by
  intro d hd
  rcases (show d = 0 ∨ d = 1 ∨ d = 2 by omega) with rfl | rfl | rfl
  · exact ⟨by rw [up_at]; simp [gn], by rw [up_at]; simp [gr, flS_append, flS]⟩
  · exact ⟨rfl, rfl⟩
  · exact ⟨rfl, rfl⟩
theorem gn_step (r : Ru) (L : List Sx) (S : List Stp) (F : List Nat) (y : Stp) : ∀ d, d < 3 → gn ⟨L, S ++ [y], F⟩ d = up (gn ⟨L, S, F⟩) 1 (gn ⟨L, S, F⟩ 1 + 1) d ∧ gr r ⟨L, S ++ [y], F⟩ d = up (gr r ⟨L, S, F⟩) 1 (gr r ⟨L, S, F⟩ 1 ++ cP r y) d := by
  intro d hd
  rcases (show d = 0 ∨ d = 1 ∨ d = 2 by omega) with rfl | rfl | rfl
  · exact ⟨rfl, rfl⟩
  · exact ⟨by rw [up_at]; simp [gn], by rw [up_at]; simp [gr, flP_append, flP]⟩
  · exact ⟨rfl, rfl⟩
theorem gn_first (r : Ru) (L : List Sx) (S : List Stp) (F : List Nat) (n : Nat) : ∀ d, d < 3 → gn ⟨L, S, F ++ [n]⟩ d = up (gn ⟨L, S, F⟩) 2 (gn ⟨L, S, F⟩ 2 + 1) d ∧ gr r ⟨L, S, F ++ [n]⟩ d = up (gr r ⟨L, S, F⟩) 2 (gr r ⟨L, S, F⟩ 2 ++ [.int .i64 (n : Int)]) d := by
  intro d hd
  rcases (show d = 0 ∨ d = 1 ∨ d = 2 by omega) with rfl | rfl | rfl
  · exact ⟨rfl, rfl⟩
  · exact ⟨rfl, rfl⟩
  · exact ⟨by rw [up_at]; simp [gn], by rw [up_at]; simp [gr]⟩

end Go.Proofs.YtjageagnclmnjabGreatDoor.D
