/- PROVED: rows of numbers that a function tells. how rows of integers lie in memory, what keeps them. what the variables that the rows list hold: the table of powers of ten, the two errors of strconv, the names of the kinds; and that it stays so. on plain letters: words between blanks, and what cutting at the first blanks gives. CONDITIONS: none beyond each theorem's own. -/
import Derived.Test.YtjageagnclmnjabGreatDoorRows
import Derived.WalkKit
import Derived.Lib.MinMax
import Derived.Lib.SlicesMore
import Derived.Deep.Draws
import Derived.WalkSpells
import Derived.WalkLawsBesides
import Derived.Deep.QuietTactic
import Derived.BigQuiet
import Derived.ArgAppend
import Derived.Deep.LoopGhost
import Derived.Deep.OwnRows
import Derived.Stop.LaidErr
import Derived.Lib.LaidTab
import Derived.Lib.ItoaNum
import Derived.Shelf.Strconv.Itoa3
import Derived.MakeChecks
import Derived.OpenShut
import Derived.Lib.Split
import Derived.Lib.IndexBytes
import Derived.Lib.AtoiAll
namespace Go.Proofs.YtjageagnclmnjabGreatDoor

/-- the first k of what f tells -/
def outs (f : Nat → Int) (k : Nat) : List Int := (List.range k).map f
theorem outs_len (f : Nat → Int) (k : Nat) : (outs f k).length = k := by simp [outs]
theorem outs_succ (f : Nat → Int) (k : Nat) : outs f (k + 1) = outs f k ++ [f k] := by simp [outs, List.range_succ]
end Go.Proofs.YtjageagnclmnjabGreatDoor

namespace Go.Proofs.YtjageagnclmnjabGreatDoor
open Go.RowKit

theorem below_drewN {B : Nat} {w w1 : World} (h : Below B w w1) (n : Nat) : Below B w (w1.drewN n) := by
  induction n with
  | zero => exact h
  | succ n ih => exact Below.drew ih

theorem Tryz.info3 : (Tryz.prog.info? 3).map (fun i => (i.zero, i.size, i.bytes)) = some (some (.int .i64 0), 1, 8) := by kernel_rfl

/-- a slice that holds zs -/
def Row (w : World) (ao : Option Addr) (zs : List Int) : Prop :=
  zs = [] ∨ ∃ b off, ao = some ⟨b, off, none⟩ ∧ ∀ j, j < zs.length → w.cell? ⟨b, off + j, none⟩ = some (.int .i64 (zs.getD j 0))

theorem block_lt {w : World} {a : Addr} {v : Value} (h : w.cell? a = some v) : a.block < w.heap.size := by
  rcases Nat.lt_or_ge a.block w.heap.size with k | k
  · exact k
  · simp [World.cell?, Array.getElem?_eq_none k] at h

theorem bthen {w w1 w2 : World} (h : Below w.heap.size w w1) (k : Below w1.heap.size w1 w2) : Below w.heap.size w w2 := h.trans (k.mono h.size)
theorem balloc {w w1 : World} (h : Below w.heap.size w w1) (o : Obj) : Below w.heap.size w (w1.alloc o) := h.alloc h.size o
theorem owned_row {w : World} {base : Nat} {t : Value} {R : List Int} (h : w.ownsRow base 3 1 t R.length (R.map (Value.int .i64))) : ∃ ao cap, t = .slice ao R.length cap ∧ Row w ao R := by
  obtain ⟨hl, ⟨e, e2⟩ | ⟨g, cap, cur, e, _, hh, _, _, _, htk⟩⟩ := h
  · have hR : R = [] := List.eq_nil_of_length_eq_zero e2
    subst hR
    exact ⟨none, 0, e, .inl rfl⟩
  · refine ⟨_, cap, e, .inr ⟨g, 0, rfl, fun j hj => ?_⟩⟩
    have : (R.map (Value.int .i64))[j]? = some (.int .i64 (R.getD j 0)) := by simp [List.getD_eq_getElem?_getD, hj]
    rw [← htk, List.getElem?_take_of_lt (by omega)] at this
    rw [Nat.zero_add]
    simp [World.cell?, hh]
    simpa using this

theorem own_kept {wr w1 : World} {base : Nat} {t : Value} {n : Nat} {xs : List Value} (h : wr.ownsRow base 3 1 t n xs) (b : Below wr.heap.size wr w1) : w1.ownsRow base 3 1 t n xs := by
  obtain ⟨hl, h2⟩ := h
  refine ⟨hl, ?_⟩
  rcases h2 with e | ⟨g, cap, cur, e, hg, hh, r⟩
  · exact .inl e
  · refine .inr ⟨g, cap, cur, e, hg, ?_, r⟩
    have : g < wr.heap.size := lt_of_block hh
    rw [b.block g this]; exact hh

/-- rows that grow: what has been gathered so far, in a row of the call's own -/
structure Gath (w : World) (t : Value) (wr : World) (R : List Int) : Prop where
  own : wr.ownsRow w.heap.size 3 1 t R.length (R.map (Value.int .i64))
  below : Below w.heap.size w wr
theorem Gath.start (w : World) : Gath w (.slice none 0 0) w [] := ⟨World.ownsRow_nil _ _ _ _, Below.refl _ _⟩
theorem Gath.step {w : World} {t t' : Value} {wr w1 w2 : World} {R : List Int} (h : Gath w t wr R) {x : Int}
    (hb : Below wr.heap.size wr w1) (ho : w2.ownsRow w.heap.size 3 1 t' (R.length + 1) (R.map (Value.int .i64) ++ [.int .i64 x])) {o : Obj} (hg : (w1.alloc o).grownBy w2 t.ownBlock) : Gath w t' w2 (R ++ [x]) := by
  refine ⟨by simpa using ho, ?_⟩
  have b1 := balloc (bthen h.below hb) o
  exact b1.grown hg b1.size (fun q hq => (h.own.lt q hq).1)

end Go.Proofs.YtjageagnclmnjabGreatDoor

namespace Go.Proofs.YtjageagnclmnjabGreatDoor.D
open Go.RowKit
set_option linter.unusedVariables false

theorem gNam : Tryz.prog.globalNamed "tidewait/bench.names" = some 0 := by kernel_rfl
theorem gNamT : (Tryz.prog.globals[0]?).map (·.type) = some 108 := by kernel_rfl
theorem gPow : Tryz.prog.globalNamed "internal/strconv.uint64pow10" = some 4 := by kernel_rfl
theorem gPowT : (Tryz.prog.globals[4]?).map (·.type) = some 209 := by kernel_rfl
theorem gSyn : Tryz.prog.globalNamed "strconv.ErrSyntax" = some 2 := by kernel_rfl
theorem gSynT : (Tryz.prog.globals[2]?).map (·.type) = some 110 := by kernel_rfl
theorem gRng : Tryz.prog.globalNamed "strconv.ErrRange" = some 3 := by kernel_rfl
theorem gRngT : (Tryz.prog.globals[3]?).map (·.type) = some 110 := by kernel_rfl
theorem cPow : Tryz.prog.cellsOf 209 = 20 := by kernel_rfl
theorem cU64 : Tryz.prog.cellsOf 182 = 1 := by kernel_rfl
theorem cNam : Tryz.prog.cellsOf 108 = 4 := by kernel_rfl
theorem cEs : Tryz.prog.cellsOf 221 = 1 := by kernel_rfl
theorem cStr : Tryz.prog.cellsOf 9 = 1 := by kernel_rfl
theorem star : "*" ++ "errors.errorString" = "*errors.errorString" := by decide
theorem rowEs (u : TypeId) (h : Tryz.prog.typeName? 3 u = some "*errors.errorString") : u = 219 :=
  typeName_ptr_named (nm := "errors.errorString") (by kernel_rfl) (by kernel_rfl) (by decide) u (by rw [star]; exact h)

/-- the names of the kinds, as they lie -/
abbrev sVegas : ByteArray := ⟨#[118, 101, 103, 97, 115]⟩
abbrev sCopa : ByteArray := ⟨#[99, 111, 112, 97]⟩
abbrev sLedbat : ByteArray := ⟨#[108, 101, 100, 98, 97, 116]⟩

/-- what the variables hold -/
structure Lw (w : World) : Prop where
  tab : Lib.TabIs Tryz.prog w "internal/strconv.uint64pow10" .u64 Lib.pow10Tab
  rng : ∃ tp p, w.var? Tryz.prog "strconv.ErrRange" = some #[.iface tp p]
  syn : ∃ tp p, w.var? Tryz.prog "strconv.ErrSyntax" = some #[.iface tp p]
  nam : w.var? Tryz.prog "tidewait/bench.names" = some #[.string ⟨#[]⟩, .string sVegas, .string sCopa, .string sLedbat]

theorem var_kept {w w' : World} {n : String} {cs : Array Value} (h : w.var? Tryz.prog n = some cs) (g : Below w.heap.size w w') : w'.var? Tryz.prog n = some cs := by
  unfold World.var? at h ⊢
  cases hg : Tryz.prog.globalNamed n with
  | none => simp [hg] at h
  | some k =>
    simp only [hg, Option.bind_some] at h ⊢
    have hlt : k < w.heap.size := by
      rcases Nat.lt_or_ge k w.heap.size with h' | h'
      · exact h'
      · simp [Array.getElem?_eq_none h'] at h
    rw [g.block k hlt]
    exact h
theorem Lw.kept {w w' : World} (h : Lw w) (g : Below w.heap.size w w') : Lw w' := by
  obtain ⟨a, ⟨t, p, b⟩, ⟨u, q, c⟩, d⟩ := h
  exact ⟨var_kept a g, ⟨t, p, var_kept b g⟩, ⟨u, q, var_kept c g⟩, var_kept d g⟩
theorem Lw.cell {w : World} (h : Lw w) : w.cell? ⟨0, 0, none⟩ = some (.string ⟨#[]⟩) ∧ w.cell? ⟨0, 1, none⟩ = some (.string sVegas) ∧ w.cell? ⟨0, 2, none⟩ = some (.string sCopa) ∧ w.cell? ⟨0, 3, none⟩ = some (.string sLedbat) :=
  ⟨World.var?_cell gNam h.nam 0, World.var?_cell gNam h.nam 1, World.var?_cell gNam h.nam 2, World.var?_cell gNam h.nam 3⟩

theorem bytes_is {s : ByteArray} {l : List UInt8} (h : s.data.toList = l) : s = ⟨l.toArray⟩ := by
  obtain ⟨a⟩ := s
  simp only at h
  rw [← h, Array.toArray_toList]
set_option maxRecDepth 100000 in
/-- a variable of four strings -/
theorem names_of {W : World} {rest : List (String × DataW Unit)} {l0 l1 l2 l3 : List UInt8}
    (h : laidMet Tryz.prog (("tidewait/bench.names", .agg [.lit (.string l0), .lit (.string l1), .lit (.string l2), .lit (.string l3)]) :: rest) W) :
    W.var? Tryz.prog "tidewait/bench.names" = some #[.string ⟨l0.toArray⟩, .string ⟨l1.toArray⟩, .string ⟨l2.toArray⟩, .string ⟨l3.toArray⟩] := by
  obtain ⟨ps, ⟨g, t, cs, fuel, p, q, hg, ht, hvar, hd, _, _⟩, _⟩ := h
  obtain rfl := Option.some.inj (gNam.symm.trans hg)
  obtain rfl := Option.some.inj (gNamT.symm.trans ht)
  obtain ⟨xs, m, rfl, hx, hlen, hn, hel⟩ := DataW.trod_array Tryz.underlying108 hd
  rw [cNam] at hlen
  have h0 := hel 0 (by omega)
  have h1 := hel 1 (by omega)
  have h2 := hel 2 (by omega)
  have h3 := hel 3 (by omega)
  rw [cStr] at h0 h1 h2 h3
  simp only [Prod.mk.injEq, DataW.agg.injEq] at hx
  obtain ⟨c⟩ := cs
  match xs, hn, c, hlen with
  | [x0, x1, x2, x3], _, [c0, c1, c2, c3], _ =>
    simp only [List.map_cons, List.map_nil, List.cons.injEq, and_true] at hx
    obtain ⟨⟨e0, e1, e2, e3⟩, _⟩ := hx
    obtain ⟨s0, f0, y0, _⟩ := DataW.trod_string Tryz.underlying9 (show DataW.trod _ Tryz.prog W 0 _ false m 9 [c0] = some x0 from h0)
    obtain ⟨s1, f1, y1, _⟩ := DataW.trod_string Tryz.underlying9 (show DataW.trod _ Tryz.prog W 0 _ false m 9 [c1] = some x1 from h1)
    obtain ⟨s2, f2, y2, _⟩ := DataW.trod_string Tryz.underlying9 (show DataW.trod _ Tryz.prog W 0 _ false m 9 [c2] = some x2 from h2)
    obtain ⟨s3, f3, y3, _⟩ := DataW.trod_string Tryz.underlying9 (show DataW.trod _ Tryz.prog W 0 _ false m 9 [c3] = some x3 from h3)
    subst y0 y1 y2 y3
    simp only [DataW.lit.injEq, Lit.string.injEq] at e0 e1 e2 e3
    rw [hvar]
    simp only [List.cons.injEq, and_true] at f0 f1 f2 f3
    rw [f0, f1, f2, f3, bytes_is e0.symm, bytes_is e1.symm, bytes_is e2.symm, bytes_is e3.symm]

set_option maxRecDepth 100000 in
theorem lw_of {W : World} (h0 : laidMetH Tryz.prog Rows.topShapedRow.laid W) : Lw W := by
  have h : laidMet Tryz.prog Rows.topShapedRow.laid W := by rwa [MakeChecks.laidMetH_plain _ _ _ (by kernel_rfl)] at h0
  have h2 := h.tail.tail
  have h4 := h2.tail.tail
  have h5 := h4.tail
  have h6 := h5.tail
  obtain ⟨a0, s0, v0, -⟩ := laid_sentinel h4 gRng gRngT Tryz.underlying110 rowEs Tryz.underlying219 Tryz.underlying221 rfl rfl Tryz.underlying9 cEs cStr
  obtain ⟨a1, s1, v1, -⟩ := laid_sentinel h5 gSyn gSynT Tryz.underlying110 rowEs Tryz.underlying219 Tryz.underlying221 rfl rfl Tryz.underlying9 cEs cStr
  exact ⟨Lib.tabIs_of_head gPow gPowT Tryz.underlying209 Tryz.underlying182 cU64 cPow h2, ⟨_, _, v0⟩, ⟨_, _, v1⟩, names_of h6⟩

end Go.Proofs.YtjageagnclmnjabGreatDoor.D

namespace Go.Proofs.YtjageagnclmnjabGreatDoor.D
set_option maxRecDepth 100000
set_option linter.unusedVariables false
/-- words between blanks -/
def wds : List UInt8 → List (List UInt8)
  | [] => [[]]
  | c :: l => if c = 32 then [] :: wds l else match wds l with
    | [] => [[c]]
    | w :: ws => (c :: w) :: ws
theorem wds_word (a : List UInt8) (h : ∀ c ∈ a, c ≠ 32) : wds a = [a] := by
  induction a with
  | nil => rfl
  | cons c a ih =>
    have h1 := h c (by simp)
    rw [wds, if_neg h1, ih fun x hx => h x (by simp [hx])]
theorem wds_more (a l : List UInt8) (h : ∀ c ∈ a, c ≠ 32) : wds (a ++ 32 :: l) = a :: wds l := by
  induction a with
  | nil => rw [List.nil_append, wds, if_pos rfl]
  | cons c a ih =>
    have h1 := h c (by simp)
    rw [List.cons_append, wds, if_neg h1, ih fun x hx => h x (by simp [hx])]
theorem wds_ne (l : List UInt8) : 1 ≤ (wds l).length := by
  induction l with
  | nil => simp [wds]
  | cons c l ih =>
    unfold wds
    split
    · simp
    · split <;> simp
theorem wds_le (l : List UInt8) : (wds l).length ≤ l.length + 1 := by
  induction l with
  | nil => simp [wds]
  | cons c l ih =>
    unfold wds
    split
    · simpa using ih
    · split
      · simp
      · rename_i w ws e; rw [e] at ih; simp at ih ⊢; omega
/-- cut at the first k blanks: the words, if there are not more -/
theorem splitK_wds : ∀ (k : Nat) (l : List UInt8), ((wds l).length ≤ k + 1 → Lib.splitK [32] 0 k l = wds l) ∧ (k + 1 < (wds l).length → (Lib.splitK [32] 0 k l).length = k + 1)
  | 0, l => by
    constructor
    · intro h
      have h1 := wds_ne l
      have : ∀ c ∈ l, c ≠ 32 := by
        clear h1
        intro c hc e
        subst e
        obtain ⟨a, b, rfl⟩ := List.append_of_mem hc
        have : ∀ a : List UInt8, 2 ≤ (wds (a ++ 32 :: b)).length := by
          intro a
          induction a with
          | nil => rw [List.nil_append, wds, if_pos rfl]; have := wds_ne b; simp; omega
          | cons c a ih =>
            rw [List.cons_append, wds]
            split
            · simp; omega
            · split
              · rename_i e; rw [e] at ih; simp at ih
              · rename_i e; rw [e] at ih; simpa using ih
        have := this a
        omega
      rw [wds_word l this]
      rfl
    · intro h; rfl
  | k + 1, l => by
    have hi := Lib.index_one l 32
    unfold Lib.splitK
    rw [hi]
    by_cases hm : Lib.indexByte l 32 = -1
    · have hno := Lib.indexByte_none hm
      have hw := wds_word l (fun c hc e => by
        subst e
        obtain ⟨i, hi⟩ := List.getElem?_of_mem hc
        exact hno i hi)
      rw [if_pos (by simp [hm]), hw]
      exact ⟨fun _ => rfl, fun h => by simp at h⟩
    · have h0 := Lib.indexByte_ge l 32
      obtain ⟨o, ho⟩ : ∃ o : Nat, Lib.indexByte l 32 = o := ⟨(Lib.indexByte l 32).toNat, by omega⟩
      obtain ⟨h1, h2⟩ := Lib.indexByte_some ho
      rw [if_neg (by simp [hm]), ho]
      have hol : o < l.length := by
        rcases Nat.lt_or_ge o l.length with h | h
        · exact h
        · rw [List.getElem?_eq_none h] at h1; simp at h1
      have e : l = l.take o ++ 32 :: l.drop (o + 1) := by
        rw [List.getElem?_eq_getElem hol] at h1
        have h1 := Option.some.inj h1
        rw [← h1, List.getElem_cons_drop, List.take_append_drop]
      have hp : ∀ c ∈ l.take o, c ≠ 32 := by
        intro c hc e
        subst e
        obtain ⟨i, hi⟩ := List.getElem?_of_mem hc
        have hlt : i < o := by
          rcases Nat.lt_or_ge i o with h | h
          · exact h
          · rw [List.getElem?_eq_none (by simp; omega)] at hi; simp at hi
        rw [List.getElem?_take_of_lt hlt] at hi
        exact h2 i hlt hi
      have hw : wds l = l.take o :: wds (l.drop (o + 1)) := by
        conv => lhs; rw [e]
        exact wds_more _ _ hp
      have ih := splitK_wds k (l.drop (o + 1))
      rw [hw]
      simp only [Int.toNat_natCast, Nat.add_zero, List.length_cons, List.length_nil, Nat.zero_add]
      constructor
      · intro h
        rw [ih.1 (by omega)]
      · intro h
        rw [ih.2 (by omega)]
theorem splitN_five (l : List UInt8) : ((wds l).length = 5 ∧ Lib.splitK [32] 0 (min 6 (l.length + 1) - 1) l = wds l) ∨ ((wds l).length ≠ 5 ∧ (Lib.splitK [32] 0 (min 6 (l.length + 1) - 1) l).length ≠ 5) := by
  have h1 := wds_le l
  have h2 := wds_ne l
  obtain ⟨a, b⟩ := splitK_wds (min 6 (l.length + 1) - 1) l
  by_cases h : (wds l).length = 5
  · exact .inl ⟨h, a (by omega)⟩
  · refine .inr ⟨h, ?_⟩
    by_cases hh : (wds l).length ≤ min 6 (l.length + 1) - 1 + 1
    · rw [a hh]; exact h
    · rw [b (by omega)]; omega
/-- what a word of digits reads as -/
def nb (l : List UInt8) : Int := match Lib.atoiAll l with
  | .ok v => v
  | .syntax => 0
  | .range => Lib.atoiSat l
theorem nb_dig : ∀ n, n < 17 → nb (Lib.decDigits n) = (n : Int) := by decide +kernel
/-- the kind that a word names -/
def kd (l : List UInt8) : Int := if l = [118, 101, 103, 97, 115] then 1 else if l = [99, 111, 112, 97] then 2 else if l = [108, 101, 100, 98, 97, 116] then 3 else 0
end Go.Proofs.YtjageagnclmnjabGreatDoor.D
