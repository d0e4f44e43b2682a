/- PROVED: what the variables that the rows list hold: the table of powers of ten, the two errors of strconv, the names of the kinds; and that it stays so. CONDITIONS: none beyond each theorem's own. -/
import Derived.Test.YtjageagnclmnjaaDoorRows
import Derived.Test.YtjageagnclmnjaaDoorMem
import Derived.Stop.LaidErr
import Derived.Lib.LaidTab
import Derived.Lib.ItoaNum
import Derived.Shelf.Strconv.Itoa3
import Derived.MakeChecks
import Derived.OpenShut
namespace Go.Proofs.YtjageagnclmnjaaDoor.D
open Go.RowKit
set_option linter.unusedVariables false

theorem gNam : Tryd.prog.globalNamed "tidewait/bench.names" = some 0 := by kernel_rfl
theorem gNamT : (Tryd.prog.globals[0]?).map (·.type) = some 33 := by kernel_rfl
theorem gPow : Tryd.prog.globalNamed "internal/strconv.uint64pow10" = some 1 := by kernel_rfl
theorem gPowT : (Tryd.prog.globals[1]?).map (·.type) = some 87 := by kernel_rfl
theorem gSyn : Tryd.prog.globalNamed "strconv.ErrSyntax" = some 3 := by kernel_rfl
theorem gSynT : (Tryd.prog.globals[3]?).map (·.type) = some 53 := by kernel_rfl
theorem gRng : Tryd.prog.globalNamed "strconv.ErrRange" = some 4 := by kernel_rfl
theorem gRngT : (Tryd.prog.globals[4]?).map (·.type) = some 53 := by kernel_rfl
theorem cPow : Tryd.prog.cellsOf 87 = 20 := by kernel_rfl
theorem cU64 : Tryd.prog.cellsOf 69 = 1 := by kernel_rfl
theorem cNam : Tryd.prog.cellsOf 33 = 4 := by kernel_rfl
theorem cEs : Tryd.prog.cellsOf 110 = 1 := by kernel_rfl
theorem cStr : Tryd.prog.cellsOf 9 = 1 := by kernel_rfl
theorem star : "*" ++ "errors.errorString" = "*errors.errorString" := by decide
theorem rowEs (u : TypeId) (h : Tryd.prog.typeName? 3 u = some "*errors.errorString") : u = 108 :=
  typeName_ptr_named (nm := "errors.errorString") (by kernel_rfl) (by kernel_rfl) (by decide) u (by rw [star]; exact h)

/-- the names of the kinds, as they lie -/
abbrev sVegas : ByteArray := ⟨#[118, 101, 103, 97, 115]⟩
abbrev sCopa : ByteArray := ⟨#[99, 111, 112, 97]⟩
abbrev sLedbat : ByteArray := ⟨#[108, 101, 100, 98, 97, 116]⟩

/-- what the variables hold -/
structure Lw (w : World) : Prop where
  tab : Lib.TabIs Tryd.prog w "internal/strconv.uint64pow10" .u64 Lib.pow10Tab
  rng : ∃ tp p, w.var? Tryd.prog "strconv.ErrRange" = some #[.iface tp p]
  syn : ∃ tp p, w.var? Tryd.prog "strconv.ErrSyntax" = some #[.iface tp p]
  nam : w.var? Tryd.prog "tidewait/bench.names" = some #[.string ⟨#[]⟩, .string sVegas, .string sCopa, .string sLedbat]

theorem var_kept {w w' : World} {n : String} {cs : Array Value} (h : w.var? Tryd.prog n = some cs) (g : Below w.heap.size w w') : w'.var? Tryd.prog n = some cs := by
  unfold World.var? at h ⊢
  cases hg : Tryd.prog.globalNamed n with
  | none => simp [hg] at h
  | some k =>
    simp only [hg, Option.bind_some] at h ⊢
    have hlt : k < w.heap.size := by
      rcases Nat.lt_or_ge k w.heap.size with h' | h'
      · exact h'
      · simp [Array.getElem?_eq_none h'] at h
    rw [g.block k hlt]
    exact h
theorem Lw.kept {w w' : World} (h : Lw w) (g : Below w.heap.size w w') : Lw w' := by
  obtain ⟨a, ⟨t, p, b⟩, ⟨u, q, c⟩, d⟩ := h
  exact ⟨var_kept a g, ⟨t, p, var_kept b g⟩, ⟨u, q, var_kept c g⟩, var_kept d g⟩
theorem Lw.grown {B : Nat} {w w' : World} (h : Lw w) (g : Below B w w') (hB : w.heap.size ≤ B) : Lw w' := h.kept ⟨g.os, g.tape, g.output, g.size, fun k hk => g.block k (by omega)⟩
theorem Lw.cell {w : World} (h : Lw w) : w.cell? ⟨0, 0, none⟩ = some (.string ⟨#[]⟩) ∧ w.cell? ⟨0, 1, none⟩ = some (.string sVegas) ∧ w.cell? ⟨0, 2, none⟩ = some (.string sCopa) ∧ w.cell? ⟨0, 3, none⟩ = some (.string sLedbat) :=
  ⟨World.var?_cell gNam h.nam 0, World.var?_cell gNam h.nam 1, World.var?_cell gNam h.nam 2, World.var?_cell gNam h.nam 3⟩

theorem bytes_is {s : ByteArray} {l : List UInt8} (h : s.data.toList = l) : s = ⟨l.toArray⟩ := by
  obtain ⟨a⟩ := s
  simp only at h
  rw [← h, Array.toArray_toList]
set_option maxRecDepth 100000 in
/-- a variable of four strings -/
theorem names_of {W : World} {rest : List (String × DataW Unit)} {l0 l1 l2 l3 : List UInt8}
    (h : laidMet Tryd.prog (("tidewait/bench.names", .agg [.lit (.string l0), .lit (.string l1), .lit (.string l2), .lit (.string l3)]) :: rest) W) :
    W.var? Tryd.prog "tidewait/bench.names" = some #[.string ⟨l0.toArray⟩, .string ⟨l1.toArray⟩, .string ⟨l2.toArray⟩, .string ⟨l3.toArray⟩] := by
  obtain ⟨ps, ⟨g, t, cs, fuel, p, q, hg, ht, hvar, hd, _, _⟩, _⟩ := h
  obtain rfl := Option.some.inj (gNam.symm.trans hg)
  obtain rfl := Option.some.inj (gNamT.symm.trans ht)
  obtain ⟨xs, m, rfl, hx, hlen, hn, hel⟩ := DataW.trod_array Tryd.underlying33 hd
  rw [cNam] at hlen
  have h0 := hel 0 (by omega)
  have h1 := hel 1 (by omega)
  have h2 := hel 2 (by omega)
  have h3 := hel 3 (by omega)
  rw [cStr] at h0 h1 h2 h3
  simp only [Prod.mk.injEq, DataW.agg.injEq] at hx
  obtain ⟨c⟩ := cs
  match xs, hn, c, hlen with
  | [x0, x1, x2, x3], _, [c0, c1, c2, c3], _ =>
    simp only [List.map_cons, List.map_nil, List.cons.injEq, and_true] at hx
    obtain ⟨⟨e0, e1, e2, e3⟩, _⟩ := hx
    obtain ⟨s0, f0, y0, _⟩ := DataW.trod_string Tryd.underlying9 (show DataW.trod _ Tryd.prog W 0 _ false m 9 [c0] = some x0 from h0)
    obtain ⟨s1, f1, y1, _⟩ := DataW.trod_string Tryd.underlying9 (show DataW.trod _ Tryd.prog W 0 _ false m 9 [c1] = some x1 from h1)
    obtain ⟨s2, f2, y2, _⟩ := DataW.trod_string Tryd.underlying9 (show DataW.trod _ Tryd.prog W 0 _ false m 9 [c2] = some x2 from h2)
    obtain ⟨s3, f3, y3, _⟩ := DataW.trod_string Tryd.underlying9 (show DataW.trod _ Tryd.prog W 0 _ false m 9 [c3] = some x3 from h3)
    subst y0 y1 y2 y3
    simp only [DataW.lit.injEq, Lit.string.injEq] at e0 e1 e2 e3
    rw [hvar]
    simp only [List.cons.injEq, and_true] at f0 f1 f2 f3
    rw [f0, f1, f2, f3, bytes_is e0.symm, bytes_is e1.symm, bytes_is e2.symm, bytes_is e3.symm]

set_option maxRecDepth 100000 in
theorem lw_of {W : World} (h0 : laidMetH Tryd.prog Rows.benchReadsRow.laid W) : Lw W := by
  have h : laidMet Tryd.prog Rows.benchReadsRow.laid W := by rwa [MakeChecks.laidMetH_plain _ _ _ (by kernel_rfl)] at h0
  have h2 := h.tail.tail
  have h4 := h2.tail.tail
  have h5 := h4.tail
  have h6 := h5.tail
  obtain ⟨a0, s0, v0, -⟩ := laid_sentinel h4 gRng gRngT Tryd.underlying53 rowEs Tryd.underlying108 Tryd.underlying110 rfl rfl Tryd.underlying9 cEs cStr
  obtain ⟨a1, s1, v1, -⟩ := laid_sentinel h5 gSyn gSynT Tryd.underlying53 rowEs Tryd.underlying108 Tryd.underlying110 rfl rfl Tryd.underlying9 cEs cStr
  exact ⟨Lib.tabIs_of_head gPow gPowT Tryd.underlying87 Tryd.underlying69 cU64 cPow h2, ⟨_, _, v0⟩, ⟨_, _, v1⟩, names_of h6⟩

end Go.Proofs.YtjageagnclmnjaaDoor.D
