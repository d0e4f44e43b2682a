/- PROVED: rows of numbers that a function tells. how rows of integers lie in memory, what keeps them. what the variables that the rows list hold: the table of powers of ten, the two errors of strconv, the names of the kinds; and that it stays so. on plain letters: words between blanks, and what cutting at the first blanks gives. a line for two, on plain integers: the row of packets, of the first of them how many are whose, what comes, waits and is lost. what the promises say of what comes, waits and is lost, on plain integers. CONDITIONS: none beyond each theorem's own. -/
import Derived.Test.YtjageagnclmnjaaGreatDoorRows
import Derived.WalkKit
import Derived.Lib.MinMax
import Derived.Lib.SlicesMore
import Derived.Deep.Draws
import Derived.WalkSpells
import Derived.WalkLawsBesides
import Derived.Deep.QuietTactic
import Derived.BigQuiet
import Derived.ArgAppend
import Derived.Deep.LoopGhost
import Derived.Deep.OwnRows
import Derived.Stop.LaidErr
import Derived.Lib.LaidTab
import Derived.Lib.ItoaNum
import Derived.Shelf.Strconv.Itoa3
import Derived.MakeChecks
import Derived.OpenShut
import Derived.Lib.Split
import Derived.Lib.IndexBytes
import Derived.Lib.AtoiAll
namespace Go.Proofs.YtjageagnclmnjaaGreatDoor

/-- the first k of what f tells -/
def outs (f : Nat → Int) (k : Nat) : List Int := (List.range k).map f
theorem outs_len (f : Nat → Int) (k : Nat) : (outs f k).length = k := by simp [outs]
theorem outs_succ (f : Nat → Int) (k : Nat) : outs f (k + 1) = outs f k ++ [f k] := by simp [outs, List.range_succ]
theorem outs_getD (f : Nat → Int) (k j : Nat) (h : j < k) : (outs f k).getD j 0 = f j := by
  simp [outs, List.getD_eq_getElem?_getD, h]
end Go.Proofs.YtjageagnclmnjaaGreatDoor

namespace Go.Proofs.YtjageagnclmnjaaGreatDoor
open Go.RowKit

theorem below_drewN {B : Nat} {w w1 : World} (h : Below B w w1) (n : Nat) : Below B w (w1.drewN n) := by
  induction n with
  | zero => exact h
  | succ n ih => exact Below.drew ih

theorem Tryz.info3 : (Tryz.prog.info? 3).map (fun i => (i.zero, i.size, i.bytes)) = some (some (.int .i64 0), 1, 8) := by kernel_rfl

/-- a slice that holds zs -/
def Row (w : World) (ao : Option Addr) (zs : List Int) : Prop :=
  zs = [] ∨ ∃ b off, ao = some ⟨b, off, none⟩ ∧ ∀ j, j < zs.length → w.cell? ⟨b, off + j, none⟩ = some (.int .i64 (zs.getD j 0))

theorem block_lt {w : World} {a : Addr} {v : Value} (h : w.cell? a = some v) : a.block < w.heap.size := by
  rcases Nat.lt_or_ge a.block w.heap.size with k | k
  · exact k
  · simp [World.cell?, Array.getElem?_eq_none k] at h

theorem Row.kept {w w' : World} {ao : Option Addr} {zs : List Int} (h : Row w ao zs) (b : Below w.heap.size w w') : Row w' ao zs := by
  rcases h with h | ⟨g, off, rfl, h⟩
  · exact .inl h
  · exact .inr ⟨g, off, rfl, fun j hj => (b.cell (p := ⟨g, off + j, none⟩) (block_lt (h j hj))).trans (h j hj)⟩

/-- one of its numbers is there -/
theorem Row.at {w : World} {ao : Option Addr} {zs : List Int} (h : Row w ao zs) (hp : 0 < zs.length) : ∃ b off, ao = some ⟨b, off, none⟩ ∧ ∀ j, j < zs.length → w.cell? ⟨b, off + j, none⟩ = some (.int .i64 (zs.getD j 0)) := by
  rcases h with e | e
  · subst e; simp at hp
  · exact e

theorem bthen {w w1 w2 : World} (h : Below w.heap.size w w1) (k : Below w1.heap.size w1 w2) : Below w.heap.size w w2 := h.trans (k.mono h.size)
theorem balloc {w w1 : World} (h : Below w.heap.size w w1) (o : Obj) : Below w.heap.size w (w1.alloc o) := h.alloc h.size o
theorem Row.alloc {w : World} {ao : Option Addr} {zs : List Int} (h : Row w ao zs) (o : Obj) : Row (w.alloc o) ao zs := h.kept (balloc (Below.refl _ _) o)
theorem owned_row {w : World} {base : Nat} {t : Value} {R : List Int} (h : w.ownsRow base 3 1 t R.length (R.map (Value.int .i64))) : ∃ ao cap, t = .slice ao R.length cap ∧ Row w ao R := by
  obtain ⟨hl, ⟨e, e2⟩ | ⟨g, cap, cur, e, _, hh, _, _, _, htk⟩⟩ := h
  · have hR : R = [] := List.eq_nil_of_length_eq_zero e2
    subst hR
    exact ⟨none, 0, e, .inl rfl⟩
  · refine ⟨_, cap, e, .inr ⟨g, 0, rfl, fun j hj => ?_⟩⟩
    have : (R.map (Value.int .i64))[j]? = some (.int .i64 (R.getD j 0)) := by simp [List.getD_eq_getElem?_getD, hj]
    rw [← htk, List.getElem?_take_of_lt (by omega)] at this
    rw [Nat.zero_add]
    simp [World.cell?, hh]
    simpa using this

theorem own_kept {wr w1 : World} {base : Nat} {t : Value} {n : Nat} {xs : List Value} (h : wr.ownsRow base 3 1 t n xs) (b : Below wr.heap.size wr w1) : w1.ownsRow base 3 1 t n xs := by
  obtain ⟨hl, h2⟩ := h
  refine ⟨hl, ?_⟩
  rcases h2 with e | ⟨g, cap, cur, e, hg, hh, r⟩
  · exact .inl e
  · refine .inr ⟨g, cap, cur, e, hg, ?_, r⟩
    have : g < wr.heap.size := lt_of_block hh
    rw [b.block g this]; exact hh

/-- rows that grow: what has been gathered so far, in a row of the call's own -/
structure Gath (w : World) (t : Value) (wr : World) (R : List Int) : Prop where
  own : wr.ownsRow w.heap.size 3 1 t R.length (R.map (Value.int .i64))
  below : Below w.heap.size w wr
theorem Gath.start (w : World) : Gath w (.slice none 0 0) w [] := ⟨World.ownsRow_nil _ _ _ _, Below.refl _ _⟩
theorem Gath.step {w : World} {t t' : Value} {wr w1 w2 : World} {R : List Int} (h : Gath w t wr R) {x : Int}
    (hb : Below wr.heap.size wr w1) (ho : w2.ownsRow w.heap.size 3 1 t' (R.length + 1) (R.map (Value.int .i64) ++ [.int .i64 x])) {o : Obj} (hg : (w1.alloc o).grownBy w2 t.ownBlock) : Gath w t' w2 (R ++ [x]) := by
  refine ⟨by simpa using ho, ?_⟩
  have b1 := balloc (bthen h.below hb) o
  exact b1.grown hg b1.size (fun q hq => (h.own.lt q hq).1)

end Go.Proofs.YtjageagnclmnjaaGreatDoor

namespace Go.Proofs.YtjageagnclmnjaaGreatDoor.D
open Go.RowKit
set_option linter.unusedVariables false

theorem gNam : Tryz.prog.globalNamed "tidewait/bench.names" = some 0 := by kernel_rfl
theorem gNamT : (Tryz.prog.globals[0]?).map (·.type) = some 109 := by kernel_rfl
theorem gPow : Tryz.prog.globalNamed "internal/strconv.uint64pow10" = some 1 := by kernel_rfl
theorem gPowT : (Tryz.prog.globals[1]?).map (·.type) = some 206 := by kernel_rfl
theorem gSyn : Tryz.prog.globalNamed "strconv.ErrSyntax" = some 3 := by kernel_rfl
theorem gSynT : (Tryz.prog.globals[3]?).map (·.type) = some 115 := by kernel_rfl
theorem gRng : Tryz.prog.globalNamed "strconv.ErrRange" = some 4 := by kernel_rfl
theorem gRngT : (Tryz.prog.globals[4]?).map (·.type) = some 115 := by kernel_rfl
theorem cPow : Tryz.prog.cellsOf 206 = 20 := by kernel_rfl
theorem cU64 : Tryz.prog.cellsOf 181 = 1 := by kernel_rfl
theorem cNam : Tryz.prog.cellsOf 109 = 4 := by kernel_rfl
theorem cEs : Tryz.prog.cellsOf 236 = 1 := by kernel_rfl
theorem cStr : Tryz.prog.cellsOf 9 = 1 := by kernel_rfl
theorem star : "*" ++ "errors.errorString" = "*errors.errorString" := by decide
theorem rowEs (u : TypeId) (h : Tryz.prog.typeName? 3 u = some "*errors.errorString") : u = 234 :=
  typeName_ptr_named (nm := "errors.errorString") (by kernel_rfl) (by kernel_rfl) (by decide) u (by rw [star]; exact h)

/-- the names of the kinds, as they lie -/
abbrev sVegas : ByteArray := ⟨#[118, 101, 103, 97, 115]⟩
abbrev sCopa : ByteArray := ⟨#[99, 111, 112, 97]⟩
abbrev sLedbat : ByteArray := ⟨#[108, 101, 100, 98, 97, 116]⟩

/-- what the variables hold -/
structure Lw (w : World) : Prop where
  tab : Lib.TabIs Tryz.prog w "internal/strconv.uint64pow10" .u64 Lib.pow10Tab
  rng : ∃ tp p, w.var? Tryz.prog "strconv.ErrRange" = some #[.iface tp p]
  syn : ∃ tp p, w.var? Tryz.prog "strconv.ErrSyntax" = some #[.iface tp p]
  nam : w.var? Tryz.prog "tidewait/bench.names" = some #[.string ⟨#[]⟩, .string sVegas, .string sCopa, .string sLedbat]

theorem var_kept {w w' : World} {n : String} {cs : Array Value} (h : w.var? Tryz.prog n = some cs) (g : Below w.heap.size w w') : w'.var? Tryz.prog n = some cs := by
  unfold World.var? at h ⊢
  cases hg : Tryz.prog.globalNamed n with
  | none => simp [hg] at h
  | some k =>
    simp only [hg, Option.bind_some] at h ⊢
    have hlt : k < w.heap.size := by
      rcases Nat.lt_or_ge k w.heap.size with h' | h'
      · exact h'
      · simp [Array.getElem?_eq_none h'] at h
    rw [g.block k hlt]
    exact h
theorem Lw.kept {w w' : World} (h : Lw w) (g : Below w.heap.size w w') : Lw w' := by
  obtain ⟨a, ⟨t, p, b⟩, ⟨u, q, c⟩, d⟩ := h
  exact ⟨var_kept a g, ⟨t, p, var_kept b g⟩, ⟨u, q, var_kept c g⟩, var_kept d g⟩
theorem Lw.cell {w : World} (h : Lw w) : w.cell? ⟨0, 0, none⟩ = some (.string ⟨#[]⟩) ∧ w.cell? ⟨0, 1, none⟩ = some (.string sVegas) ∧ w.cell? ⟨0, 2, none⟩ = some (.string sCopa) ∧ w.cell? ⟨0, 3, none⟩ = some (.string sLedbat) :=
  ⟨World.var?_cell gNam h.nam 0, World.var?_cell gNam h.nam 1, World.var?_cell gNam h.nam 2, World.var?_cell gNam h.nam 3⟩

theorem bytes_is {s : ByteArray} {l : List UInt8} (h : s.data.toList = l) : s = ⟨l.toArray⟩ := by
  obtain ⟨a⟩ := s
  simp only at h
  rw [← h, Array.toArray_toList]
set_option maxRecDepth 100000 in
/-- a variable of four strings -/
theorem names_of {W : World} {rest : List (String × DataW Unit)} {l0 l1 l2 l3 : List UInt8}
    (h : laidMet Tryz.prog (("tidewait/bench.names", .agg [.lit (.string l0), .lit (.string l1), .lit (.string l2), .lit (.string l3)]) :: rest) W) :
    W.var? Tryz.prog "tidewait/bench.names" = some #[.string ⟨l0.toArray⟩, .string ⟨l1.toArray⟩, .string ⟨l2.toArray⟩, .string ⟨l3.toArray⟩] := by
  obtain ⟨ps, ⟨g, t, cs, fuel, p, q, hg, ht, hvar, hd, _, _⟩, _⟩ := h
  obtain rfl := Option.some.inj (gNam.symm.trans hg)
  obtain rfl := Option.some.inj (gNamT.symm.trans ht)
  obtain ⟨xs, m, rfl, hx, hlen, hn, hel⟩ := DataW.trod_array Tryz.underlying109 hd
  rw [cNam] at hlen
  have h0 := hel 0 (by omega)
  have h1 := hel 1 (by omega)
  have h2 := hel 2 (by omega)
  have h3 := hel 3 (by omega)
  rw [cStr] at h0 h1 h2 h3
  simp only [Prod.mk.injEq, DataW.agg.injEq] at hx
  obtain ⟨c⟩ := cs
  match xs, hn, c, hlen with
  | [x0, x1, x2, x3], _, [c0, c1, c2, c3], _ =>
    simp only [List.map_cons, List.map_nil, List.cons.injEq, and_true] at hx
    obtain ⟨⟨e0, e1, e2, e3⟩, _⟩ := hx
    obtain ⟨s0, f0, y0, _⟩ := DataW.trod_string Tryz.underlying9 (show DataW.trod _ Tryz.prog W 0 _ false m 9 [c0] = some x0 from h0)
    obtain ⟨s1, f1, y1, _⟩ := DataW.trod_string Tryz.underlying9 (show DataW.trod _ Tryz.prog W 0 _ false m 9 [c1] = some x1 from h1)
    obtain ⟨s2, f2, y2, _⟩ := DataW.trod_string Tryz.underlying9 (show DataW.trod _ Tryz.prog W 0 _ false m 9 [c2] = some x2 from h2)
    obtain ⟨s3, f3, y3, _⟩ := DataW.trod_string Tryz.underlying9 (show DataW.trod _ Tryz.prog W 0 _ false m 9 [c3] = some x3 from h3)
    subst y0 y1 y2 y3
    simp only [DataW.lit.injEq, Lit.string.injEq] at e0 e1 e2 e3
    rw [hvar]
    simp only [List.cons.injEq, and_true] at f0 f1 f2 f3
    rw [f0, f1, f2, f3, bytes_is e0.symm, bytes_is e1.symm, bytes_is e2.symm, bytes_is e3.symm]

set_option maxRecDepth 100000 in
theorem lw_of {W : World} (h0 : laidMetH Tryz.prog Rows.benchTellsRow.laid W) : Lw W := by
  have h : laidMet Tryz.prog Rows.benchTellsRow.laid W := by rwa [MakeChecks.laidMetH_plain _ _ _ (by kernel_rfl)] at h0
  have h2 := h.tail.tail
  have h4 := h2.tail.tail
  have h5 := h4.tail
  have h6 := h5.tail
  obtain ⟨a0, s0, v0, -⟩ := laid_sentinel h4 gRng gRngT Tryz.underlying115 rowEs Tryz.underlying234 Tryz.underlying236 rfl rfl Tryz.underlying9 cEs cStr
  obtain ⟨a1, s1, v1, -⟩ := laid_sentinel h5 gSyn gSynT Tryz.underlying115 rowEs Tryz.underlying234 Tryz.underlying236 rfl rfl Tryz.underlying9 cEs cStr
  exact ⟨Lib.tabIs_of_head gPow gPowT Tryz.underlying206 Tryz.underlying181 cU64 cPow h2, ⟨_, _, v0⟩, ⟨_, _, v1⟩, names_of h6⟩

end Go.Proofs.YtjageagnclmnjaaGreatDoor.D

namespace Go.Proofs.YtjageagnclmnjaaGreatDoor.D
set_option maxRecDepth 100000
set_option linter.unusedVariables false
/-- words between blanks -/
def wds : List UInt8 → List (List UInt8)
  | [] => [[]]
  | c :: l => if c = 32 then [] :: wds l else match wds l with
    | [] => [[c]]
    | w :: ws => (c :: w) :: ws
theorem wds_word (a : List UInt8) (h : ∀ c ∈ a, c ≠ 32) : wds a = [a] := by
  induction a with
  | nil => rfl
  | cons c a ih =>
    have h1 := h c (by simp)
    rw [wds, if_neg h1, ih fun x hx => h x (by simp [hx])]
theorem wds_more (a l : List UInt8) (h : ∀ c ∈ a, c ≠ 32) : wds (a ++ 32 :: l) = a :: wds l := by
  induction a with
  | nil => rw [List.nil_append, wds, if_pos rfl]
  | cons c a ih =>
    have h1 := h c (by simp)
    rw [List.cons_append, wds, if_neg h1, ih fun x hx => h x (by simp [hx])]
theorem wds_ne (l : List UInt8) : 1 ≤ (wds l).length := by
  induction l with
  | nil => simp [wds]
  | cons c l ih =>
    unfold wds
    split
    · simp
    · split <;> simp
theorem wds_le (l : List UInt8) : (wds l).length ≤ l.length + 1 := by
  induction l with
  | nil => simp [wds]
  | cons c l ih =>
    unfold wds
    split
    · simpa using ih
    · split
      · simp
      · rename_i w ws e; rw [e] at ih; simp at ih ⊢; omega
/-- cut at the first k blanks: the words, if there are not more -/
theorem splitK_wds : ∀ (k : Nat) (l : List UInt8), ((wds l).length ≤ k + 1 → Lib.splitK [32] 0 k l = wds l) ∧ (k + 1 < (wds l).length → (Lib.splitK [32] 0 k l).length = k + 1)
  | 0, l => by
    constructor
    · intro h
      have h1 := wds_ne l
      have : ∀ c ∈ l, c ≠ 32 := by
        clear h1
        intro c hc e
        subst e
        obtain ⟨a, b, rfl⟩ := List.append_of_mem hc
        have : ∀ a : List UInt8, 2 ≤ (wds (a ++ 32 :: b)).length := by
          intro a
          induction a with
          | nil => rw [List.nil_append, wds, if_pos rfl]; have := wds_ne b; simp; omega
          | cons c a ih =>
            rw [List.cons_append, wds]
            split
            · simp; omega
            · split
              · rename_i e; rw [e] at ih; simp at ih
              · rename_i e; rw [e] at ih; simpa using ih
        have := this a
        omega
      rw [wds_word l this]
      rfl
    · intro h; rfl
  | k + 1, l => by
    have hi := Lib.index_one l 32
    unfold Lib.splitK
    rw [hi]
    by_cases hm : Lib.indexByte l 32 = -1
    · have hno := Lib.indexByte_none hm
      have hw := wds_word l (fun c hc e => by
        subst e
        obtain ⟨i, hi⟩ := List.getElem?_of_mem hc
        exact hno i hi)
      rw [if_pos (by simp [hm]), hw]
      exact ⟨fun _ => rfl, fun h => by simp at h⟩
    · have h0 := Lib.indexByte_ge l 32
      obtain ⟨o, ho⟩ : ∃ o : Nat, Lib.indexByte l 32 = o := ⟨(Lib.indexByte l 32).toNat, by omega⟩
      obtain ⟨h1, h2⟩ := Lib.indexByte_some ho
      rw [if_neg (by simp [hm]), ho]
      have hol : o < l.length := by
        rcases Nat.lt_or_ge o l.length with h | h
        · exact h
        · rw [List.getElem?_eq_none h] at h1; simp at h1
      have e : l = l.take o ++ 32 :: l.drop (o + 1) := by
        rw [List.getElem?_eq_getElem hol] at h1
        have h1 := Option.some.inj h1
        rw [← h1, List.getElem_cons_drop, List.take_append_drop]
      have hp : ∀ c ∈ l.take o, c ≠ 32 := by
        intro c hc e
        subst e
        obtain ⟨i, hi⟩ := List.getElem?_of_mem hc
        have hlt : i < o := by
          rcases Nat.lt_or_ge i o with h | h
          · exact h
          · rw [List.getElem?_eq_none (by simp; omega)] at hi; simp at hi
        rw [List.getElem?_take_of_lt hlt] at hi
        exact h2 i hlt hi
      have hw : wds l = l.take o :: wds (l.drop (o + 1)) := by
        conv => lhs; rw [e]
        exact wds_more _ _ hp
      have ih := splitK_wds k (l.drop (o + 1))
      rw [hw]
      simp only [Int.toNat_natCast, Nat.add_zero, List.length_cons, List.length_nil, Nat.zero_add]
      constructor
      · intro h
        rw [ih.1 (by omega)]
      · intro h
        rw [ih.2 (by omega)]
theorem splitN_five (l : List UInt8) : ((wds l).length = 5 ∧ Lib.splitK [32] 0 (min 6 (l.length + 1) - 1) l = wds l) ∨ ((wds l).length ≠ 5 ∧ (Lib.splitK [32] 0 (min 6 (l.length + 1) - 1) l).length ≠ 5) := by
  have h1 := wds_le l
  have h2 := wds_ne l
  obtain ⟨a, b⟩ := splitK_wds (min 6 (l.length + 1) - 1) l
  by_cases h : (wds l).length = 5
  · exact .inl ⟨h, a (by omega)⟩
  · refine .inr ⟨h, ?_⟩
    by_cases hh : (wds l).length ≤ min 6 (l.length + 1) - 1 + 1
    · rw [a hh]; exact h
    · rw [b (by omega)]; omega
/-- what a word of digits reads as -/
def nb (l : List UInt8) : Int := match Lib.atoiAll l with
  | .ok v => v
  | .syntax => 0
  | .range => Lib.atoiSat l
theorem nb_dig : ∀ n, n < 17 → nb (Lib.decDigits n) = (n : Int) := by decide +kernel
/-- the kind that a word names -/
def kd (l : List UInt8) : Int := if l = [118, 101, 103, 97, 115] then 1 else if l = [99, 111, 112, 97] then 2 else if l = [108, 101, 100, 98, 97, 116] then 3 else 0
end Go.Proofs.YtjageagnclmnjaaGreatDoor.D

namespace Go.Proofs.YtjageagnclmnjaaGreatDoor.K

/-- small enough -/
def lr (r m a b s t : Int) : Prop := 1 ≤ r ∧ r ≤ 12 ∧ 0 ≤ m ∧ m ≤ 16 ∧ 0 ≤ a ∧ a ≤ 16 ∧ 0 ≤ b ∧ b ≤ 16 - a ∧ 0 ≤ s ∧ s ≤ 12 ∧ 0 ≤ t ∧ t ≤ 12
instance (r m a b s t : Int) : Decidable (lr r m a b s t) := inferInstanceAs (Decidable (_ ∧ _ ∧ _ ∧ _ ∧ _ ∧ _ ∧ _ ∧ _ ∧ _ ∧ _ ∧ _ ∧ _))

/-- one turn: one of the first flow if x, one of the second one if y -/
def turn (x y : Bool) : List Bool := (if x then [false] else []) ++ (if y then [true] else [])
/-- those that were sent, k turns of them -/
def turns (s t : Nat) : Nat → List Bool
  | 0 => []
  | k + 1 => turns s t k ++ turn (decide (k < s)) (decide (k < t))
/-- the row: false is one of the first flow, true is one of the second one -/
def pk (a b s t : Nat) : List Bool := (List.replicate a false ++ List.replicate b true) ++ turns s t (max s t)

/-- how many of them are f's -/
def cn (f : Bool) (l : List Bool) : Nat := l.count f
theorem cn_nil (f : Bool) : cn f [] = 0 := rfl
theorem cn_append (f : Bool) (l k : List Bool) : cn f (l ++ k) = cn f l + cn f k := List.count_append
theorem cn_one (f x : Bool) : cn f [x] = if x = f then 1 else 0 := by cases f <;> cases x <;> rfl
theorem cn_rep (f x : Bool) (n : Nat) : cn f (List.replicate n x) = if x = f then n else 0 := by
  unfold cn; rw [List.count_replicate]; cases f <;> cases x <;> simp
theorem cn_le (f : Bool) (l : List Bool) : cn f l ≤ l.length := List.count_le_length
theorem cn_take_le (f : Bool) (l : List Bool) (n : Nat) : cn f (l.take n) ≤ cn f l := by
  have := cn_append f (l.take n) (l.drop n)
  rw [List.take_append_drop] at this
  omega
theorem cn_take_mono (f : Bool) (l : List Bool) (n m : Nat) (h : n ≤ m) : cn f (l.take n) ≤ cn f (l.take m) := by
  have := cn_take_le f (l.take m) n
  rwa [List.take_take, Nat.min_eq_left h] at this

theorem turn_len (x y : Bool) : (turn x y).length = (if x then 1 else 0) + (if y then 1 else 0) := by cases x <;> cases y <;> rfl
theorem turn_cn0 (x y : Bool) (j : Nat) : cn false ((turn x y).take j) = if x = true ∧ 1 ≤ j then 1 else 0 := by
  match j with
  | 0 => cases x <;> cases y <;> rfl
  | 1 => cases x <;> cases y <;> rfl
  | j + 2 => cases x <;> cases y <;> simp [turn, cn]
theorem turn_cn1 (x y : Bool) (j : Nat) : cn true ((turn x y).take j) = if y = true ∧ (if x then 2 else 1) ≤ j then 1 else 0 := by
  match j with
  | 0 => cases x <;> cases y <;> rfl
  | 1 => cases x <;> cases y <;> rfl
  | j + 2 => cases x <;> cases y <;> simp [turn, cn]

theorem turns_len (s t k : Nat) : (turns s t k).length = min k s + min k t := by
  induction k with
  | zero => simp [turns]
  | succ k ih =>
    rw [turns, List.length_append, ih, turn_len]
    by_cases h1 : k < s <;> by_cases h2 : k < t <;> simp [h1, h2] <;> omega

/-- of the first k in turn, if there are p of the first flow and q of the second one -/
def g0 (k p q : Nat) : Nat := if k ≤ 2 * min p q then (k + 1) / 2 else if p > min p q then min k (p + q) - min p q else min p q
def g1 (k p q : Nat) : Nat := if k ≤ 2 * min p q then k / 2 else if p > min p q then min p q else min k (p + q) - min p q

theorem turns_cn0 (s t k n : Nat) : cn false ((turns s t k).take n) = g0 n (min k s) (min k t) := by
  induction k with
  | zero => simp [turns, cn, g0]; omega
  | succ k ih =>
    rw [turns, List.take_append, cn_append, ih, turns_len, turn_cn0]
    unfold g0
    by_cases h1 : k < s <;> by_cases h2 : k < t <;> simp only [h1, decide_true, decide_false, true_and, Bool.false_eq_true, false_and, if_false] <;> clear ih <;> (repeat' split) <;> omega
theorem turns_cn1 (s t k n : Nat) : cn true ((turns s t k).take n) = g1 n (min k s) (min k t) := by
  induction k with
  | zero => simp [turns, cn, g1]; omega
  | succ k ih =>
    rw [turns, List.take_append, cn_append, ih, turns_len, turn_cn1]
    unfold g1
    by_cases h1 : k < s <;> by_cases h2 : k < t <;> simp only [h1, h2, decide_true, decide_false, true_and, Bool.false_eq_true, false_and, if_false, if_true] <;> clear ih <;> (repeat' split) <;> omega

theorem pk_cn0 (a b s t n : Nat) : cn false ((pk a b s t).take n) = min n a + g0 (n - min n a - min (n - min n a) b) s t := by
  rw [pk, List.take_append, cn_append, List.take_append, cn_append, List.take_replicate, List.take_replicate, cn_rep, cn_rep, turns_cn0]
  simp only [List.length_append, List.length_replicate, if_true, Bool.true_eq_false, if_false]
  rw [show min (max s t) s = s by omega, show min (max s t) t = t by omega, show n - (a + b) = n - min n a - min (n - min n a) b by omega, Nat.add_zero]
theorem pk_cn1 (a b s t n : Nat) : cn true ((pk a b s t).take n) = min (n - min n a) b + g1 (n - min n a - min (n - min n a) b) s t := by
  rw [pk, List.take_append, cn_append, List.take_append, cn_append, List.take_replicate, List.take_replicate, cn_rep, cn_rep, turns_cn1]
  simp only [List.length_append, List.length_replicate, if_true, Bool.false_eq_true, if_false]
  rw [show min (max s t) s = s by omega, show min (max s t) t = t by omega, show n - (a + b) = n - min n a - min (n - min n a) b by omega]
  omega
theorem pk_len (a b s t : Nat) : (pk a b s t).length = a + b + (s + t) := by
  rw [pk, List.length_append, List.length_append, turns_len]; simp; omega

/-- of the first n in the row, how many are the first flow's, the second one's -/
def u0 (n a b s t : Int) : Int :=
  if n - (min n a + min (n - min n a) b) ≤ 2 * min s t then min n a + (n - (min n a + min (n - min n a) b) + 1) / 2
  else if s > min s t then min n a + min (n - (min n a + min (n - min n a) b)) (s + t) - min s t else min n a + min s t
def u1 (n a b s t : Int) : Int :=
  if n - (min n a + min (n - min n a) b) ≤ 2 * min s t then min (n - min n a) b + (n - (min n a + min (n - min n a) b)) / 2
  else if s > min s t then min (n - min n a) b + min s t else min (n - min n a) b + min (n - (min n a + min (n - min n a) b)) (s + t) - min s t

theorem cn_u0 (a b s t n : Nat) : (cn false ((pk a b s t).take n) : Int) = u0 n a b s t := by
  rw [pk_cn0]; unfold g0 u0
  (repeat' split) <;> omega
theorem cn_u1 (a b s t n : Nat) : (cn true ((pk a b s t).take n) : Int) = u1 n a b s t := by
  rw [pk_cn1]; unfold g1 u1
  (repeat' split) <;> omega
theorem cn_all0 (a b s t : Nat) : cn false (pk a b s t) = a + s := by
  have := cn_u0 a b s t (a + b + (s + t))
  rw [← pk_len, List.take_length, pk_len] at this
  unfold u0 at this; (repeat' split at this) <;> omega
theorem cn_all1 (a b s t : Nat) : cn true (pk a b s t) = b + t := by
  have := cn_u1 a b s t (a + b + (s + t))
  rw [← pk_len, List.take_length, pk_len] at this
  unfold u1 at this; (repeat' split at this) <;> omega

/-- what of f's has come, waits, is lost, when l stood in the row -/
def ca (r : Nat) (f : Bool) (l : List Bool) : Int := (cn f (l.take r) : Int)
def wt (r m : Nat) (f : Bool) (l : List Bool) : Int := (cn f (l.take (r + m)) : Int) - cn f (l.take r)
def lo (r m : Nat) (f : Bool) (l : List Bool) : Int := (cn f l : Int) - cn f (l.take (r + m))
theorem cn_snoc (n : Nat) (f x : Bool) (l : List Bool) : cn f ((l ++ [x]).take n) = cn f (l.take n) + if l.length < n ∧ x = f then 1 else 0 := by
  rw [List.take_append, cn_append]
  by_cases h : l.length < n
  · rw [show n - l.length = (n - l.length - 1) + 1 by omega, List.take_succ_cons, List.take_nil, cn_one]
    simp [h]
  · rw [show n - l.length = 0 by omega, List.take_zero, cn_nil]
    simp [h]
theorem ca_snoc (r : Nat) (f x : Bool) (l : List Bool) : ca r f (l ++ [x]) = ca r f l + if l.length < r ∧ x = f then 1 else 0 := by
  unfold ca; rw [cn_snoc]; split <;> simp
theorem wt_snoc (r m : Nat) (f x : Bool) (l : List Bool) : wt r m f (l ++ [x]) = wt r m f l + if r ≤ l.length ∧ l.length < r + m ∧ x = f then 1 else 0 := by
  unfold wt; rw [cn_snoc, cn_snoc]
  by_cases h1 : x = f <;> simp only [h1, and_true, and_false, if_false] <;> (repeat' split) <;> omega
theorem lo_snoc (r m : Nat) (f x : Bool) (l : List Bool) : lo r m f (l ++ [x]) = lo r m f l + if r + m ≤ l.length ∧ x = f then 1 else 0 := by
  unfold lo; rw [cn_snoc, cn_append, cn_one]
  by_cases h1 : x = f <;> simp only [h1, and_true, and_false, if_false, if_true] <;> (repeat' split) <;> omega
theorem ca_in (r : Nat) (f : Bool) (l : List Bool) : 0 ≤ ca r f l ∧ ca r f l ≤ l.length := by
  unfold ca; have := cn_take_le f l r; have := cn_le f l; omega
theorem wt_in (r m : Nat) (f : Bool) (l : List Bool) : 0 ≤ wt r m f l ∧ wt r m f l ≤ l.length := by
  unfold wt; have := cn_take_le f l (r + m); have := cn_le f l; have := cn_take_mono f l r (r + m) (by omega); omega
theorem lo_in (r m : Nat) (f : Bool) (l : List Bool) : 0 ≤ lo r m f l ∧ lo r m f l ≤ l.length := by
  unfold lo; have := cn_take_le f l (r + m); have := cn_le f l; omega

/-- what is told of both -/
def C0 (r a b s t : Int) : Int := u0 r a b s t
def C1 (r a b s t : Int) : Int := u1 r a b s t
def W0 (r m a b s t : Int) : Int := u0 (r + m) a b s t - u0 r a b s t
def W1 (r m a b s t : Int) : Int := u1 (r + m) a b s t - u1 r a b s t
def L0 (r m a b s t : Int) : Int := a + s - u0 (r + m) a b s t
def L1 (r m a b s t : Int) : Int := b + t - u1 (r + m) a b s t
theorem ca_pk0 (r a b s t : Nat) : ca r false (pk a b s t) = C0 r a b s t := cn_u0 a b s t r
theorem ca_pk1 (r a b s t : Nat) : ca r true (pk a b s t) = C1 r a b s t := cn_u1 a b s t r
theorem wt_pk0 (r m a b s t : Nat) : wt r m false (pk a b s t) = W0 r m a b s t := by
  unfold wt W0; rw [cn_u0, cn_u0]; simp
theorem wt_pk1 (r m a b s t : Nat) : wt r m true (pk a b s t) = W1 r m a b s t := by
  unfold wt W1; rw [cn_u1, cn_u1]; simp
theorem lo_pk0 (r m a b s t : Nat) : lo r m false (pk a b s t) = L0 r m a b s t := by
  unfold lo L0; rw [cn_u0, cn_all0]; simp
theorem lo_pk1 (r m a b s t : Nat) : lo r m true (pk a b s t) = L1 r m a b s t := by
  unfold lo L1; rw [cn_u1, cn_all1]; simp

end Go.Proofs.YtjageagnclmnjaaGreatDoor.K

namespace Go.Proofs.YtjageagnclmnjaaGreatDoor.K

theorem inside (r m a b s t : Int) (h : lr r m a b s t) : (0 ≤ C0 r a b s t ∧ C0 r a b s t ≤ 100) ∧ (0 ≤ C1 r a b s t ∧ C1 r a b s t ≤ 100) ∧ (0 ≤ L0 r m a b s t ∧ L0 r m a b s t ≤ 100) ∧ (0 ≤ L1 r m a b s t ∧ L1 r m a b s t ≤ 100) ∧ (0 ≤ W0 r m a b s t ∧ W0 r m a b s t ≤ 100) ∧ (0 ≤ W1 r m a b s t ∧ W1 r m a b s t ≤ 100) := by
  unfold lr at h
  unfold C0 C1 L0 L1 W0 W1 u0 u1
  (repeat' split) <;> omega

/-- whatever is there comes, waits or is lost; no more comes than may, no more waits than there is room for; nothing waits while more could come, nothing is lost while there is room -/
theorem sums_are (r m a b s t : Int) (h : lr r m a b s t) : a + s = C0 r a b s t + W0 r m a b s t + L0 r m a b s t ∧ b + t = C1 r a b s t + W1 r m a b s t + L1 r m a b s t ∧
    C0 r a b s t + C1 r a b s t ≤ r ∧ W0 r m a b s t + W1 r m a b s t ≤ m ∧
    (W0 r m a b s t + W1 r m a b s t + (L0 r m a b s t + L1 r m a b s t) = 0 ∨ C0 r a b s t + C1 r a b s t = r) ∧ (L0 r m a b s t + L1 r m a b s t = 0 ∨ W0 r m a b s t + W1 r m a b s t = m) := by
  unfold lr at h
  refine ⟨by unfold C0 W0 L0; omega, by unfold C1 W1 L1; omega, ?_⟩
  unfold C0 C1 L0 L1 W0 W1 u0 u1
  (repeat' split) <;> omega

end Go.Proofs.YtjageagnclmnjaaGreatDoor.K
