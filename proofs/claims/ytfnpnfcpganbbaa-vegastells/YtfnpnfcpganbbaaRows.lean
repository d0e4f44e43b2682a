/-
  No cell of these rows narrows 'for every input' (looked for: loops, veiled, ifaces, maps, wideKeys, modest, calm, conditions, laid).
  DERIVED. THE GIVEN ROWS OF THIS SEAT. 4 by the template 'for every input the law returns true; each argument reads behind the call as it read before'; 0 by the template 'total and deterministic' (their statements: YtfnpnfcpganbbaaTotals.lean).
  GIVEN WITH THE SEED: the statements are not yours to turn. If you find one false, say at which input.
  Laid BY PROGRAM, IN A SANDBOX (cutbox-rows.mjs): the forced cells as the released guide's own fill.sh prints them over the translation dc2fde9f676933b7… (all of the seat's roots in one cut). By AI agents, Wed Nov 11 2026. No macro, syntax, notation, axiom, sorry.
-/
import Derived.Test.YtfnpnfcpganbbaaChecked
import GoSem.Claim
import GoSem.ClaimJoined
import GoSem.ClaimMapViews
import Derived.JoinedTies
import Derived.KernelRfl
namespace Go.Proofs.Ytfnpnfcpganbbaa
/- THE CELL 'sum', in the pinned program and in every row, IS THE sha256 OF THE DUMP (.gsa) THAT YtfnpnfcpganbbaaProg.lean LOADS. Nothing in Lean hashes anything: it is a label: what it is worth is what the hold of that sum in a sandbox is worth. -/
noncomputable def Try.pinned : Pinned := { name := "ytfnpnfcpganbbaa", sum := "dc2fde9f676933b7f39512d10abec3ff632ec30ae8909f569fe32546807971a9", checked := Try.checked }
namespace Rows
def none {H : Type} : Left H := { results := [], args := [] }

/-- 'tidewaitlaw.VegasTells': WHATEVER THE INPUT: true; the input reads as it did. -/
def vegasTellsSpec : ChangeSpec := { name := "vegasTells", fn := fun _ => fun
  | [d1, d2, d3] => { results := [.lit (.bool true)], args := [d1, d2, d3] }
  | _ => none }
def vegasTellsRow : OpenClaim := { program := "ytfnpnfcpganbbaa", sum := "dc2fde9f676933b7f39512d10abec3ff632ec30ae8909f569fe32546807971a9", func := "tidewait/tidewaitlaw.VegasTells", spec := "vegasTells", apart := false }
def VegasTellsSaid : Prop := vegasTellsRow.holds Try.pinned (OpenSpec.ofChange vegasTellsSpec)

/-- ITS FALSE NEIGHBOUR: 'it returns false'. Refute it at one input. -/
def vegasTellsWrong : ChangeSpec := { name := "vegasTells", fn := fun _ => fun
  | [d1, d2, d3] => { results := [.lit (.bool false)], args := [d1, d2, d3] }
  | _ => none }
def VegasTellsWrongFalsely : Prop := vegasTellsRow.holds Try.pinned (OpenSpec.ofChange vegasTellsWrong)

/-- 'tidewaitkeep.VegasStays': WHATEVER THE INPUT: true; the input reads as it did. -/
def vegasStaysSpec : ChangeSpec := { name := "vegasStays", fn := fun _ => fun
  | [d1, d2] => { results := [.lit (.bool true)], args := [d1, d2] }
  | _ => none }
def vegasStaysRow : OpenClaim := { program := "ytfnpnfcpganbbaa", sum := "dc2fde9f676933b7f39512d10abec3ff632ec30ae8909f569fe32546807971a9", func := "tidewait/tidewaitkeep.VegasStays", spec := "vegasStays", apart := false }
def VegasStaysSaid : Prop := vegasStaysRow.holds Try.pinned (OpenSpec.ofChange vegasStaysSpec)

/-- ITS FALSE NEIGHBOUR: 'it returns false'. Refute it at one input. -/
def vegasStaysWrong : ChangeSpec := { name := "vegasStays", fn := fun _ => fun
  | [d1, d2] => { results := [.lit (.bool false)], args := [d1, d2] }
  | _ => none }
def VegasStaysWrongFalsely : Prop := vegasStaysRow.holds Try.pinned (OpenSpec.ofChange vegasStaysWrong)

/-- 'tidewaitkeep.VegasYields': WHATEVER THE INPUT: true; the input reads as it did. -/
def vegasYieldsSpec : ChangeSpec := { name := "vegasYields", fn := fun _ => fun
  | [d1, d2, d3] => { results := [.lit (.bool true)], args := [d1, d2, d3] }
  | _ => none }
def vegasYieldsRow : OpenClaim := { program := "ytfnpnfcpganbbaa", sum := "dc2fde9f676933b7f39512d10abec3ff632ec30ae8909f569fe32546807971a9", func := "tidewait/tidewaitkeep.VegasYields", spec := "vegasYields", apart := false }
def VegasYieldsSaid : Prop := vegasYieldsRow.holds Try.pinned (OpenSpec.ofChange vegasYieldsSpec)

/-- ITS FALSE NEIGHBOUR: 'it returns false'. Refute it at one input. -/
def vegasYieldsWrong : ChangeSpec := { name := "vegasYields", fn := fun _ => fun
  | [d1, d2, d3] => { results := [.lit (.bool false)], args := [d1, d2, d3] }
  | _ => none }
def VegasYieldsWrongFalsely : Prop := vegasYieldsRow.holds Try.pinned (OpenSpec.ofChange vegasYieldsWrong)

/-- 'tidewaitkeep.VegasRests': WHATEVER THE INPUT: true; the input reads as it did. -/
def vegasRestsSpec : ChangeSpec := { name := "vegasRests", fn := fun _ => fun
  | [d1, d2] => { results := [.lit (.bool true)], args := [d1, d2] }
  | _ => none }
def vegasRestsRow : OpenClaim := { program := "ytfnpnfcpganbbaa", sum := "dc2fde9f676933b7f39512d10abec3ff632ec30ae8909f569fe32546807971a9", func := "tidewait/tidewaitkeep.VegasRests", spec := "vegasRests", apart := false }
def VegasRestsSaid : Prop := vegasRestsRow.holds Try.pinned (OpenSpec.ofChange vegasRestsSpec)

/-- ITS FALSE NEIGHBOUR: 'it returns false'. Refute it at one input. -/
def vegasRestsWrong : ChangeSpec := { name := "vegasRests", fn := fun _ => fun
  | [d1, d2] => { results := [.lit (.bool false)], args := [d1, d2] }
  | _ => none }
def VegasRestsWrongFalsely : Prop := vegasRestsRow.holds Try.pinned (OpenSpec.ofChange vegasRestsWrong)

/- THE SECOND FORM. 'bulk': how many values and letters a reading holds, each counted each time it is reached (what is shared counts as often as it is met; a slice's spare places count too). A statement '..UptoSaid' is the law's where the arguments, and the package variables that the reading takes, are together of bulk at most 1048576: NARROWER than '..Said'. Prove '..Said' where nothing that the law and all that it calls make is longer than what came in: it says more and counts as full. Else prove '..UptoSaid'. A law counts once. -/
mutual
def uptoBulk {H : Type} : DataW H → Nat
  | .lit (.string bytes) => bytes.length + 1
  | .lit _ => 1
  | .nil => 1
  | .ptr d => uptoBulk d + 1
  | .slice elems spare => uptoBulkAll elems + uptoBulkAll spare + 1
  | .agg parts => uptoBulkAll parts + 1
  | .iface _ d => uptoBulk d + 1
  | .map entries => uptoBulkEntries entries + 1
  | .held _ => 1
def uptoBulkAll {H : Type} : List (DataW H) → Nat
  | [] => 0
  | d :: r => uptoBulk d + uptoBulkAll r
def uptoBulkEntries {H : Type} : List (Lit × DataW H) → Nat
  | [] => 0
  | x :: r => uptoBulkEntry x + uptoBulkEntries r
def uptoBulkEntry {H : Type} : Lit × DataW H → Nat
  | (.string bytes, d) => bytes.length + uptoBulk d + 1
  | (_, d) => uptoBulk d + 1
 end
def uptoSmall : (H : Type) → List (DataW H) → Bool := fun _ ds => decide (uptoBulkAll ds ≤ 1048576)
def OpenSpec.upto (s : _root_.Go.ChangeSpec) : _root_.Go.OpenSpec := { _root_.Go.OpenSpec.ofChange s with cond := some uptoSmall }

/-- 'tidewaitlaw.VegasTells', WHERE WHAT IT READS IS OF BULK AT MOST 1048576: true; the input reads as it did. -/
def vegasTellsUptoRow : OpenClaim := { program := "ytfnpnfcpganbbaa", sum := "dc2fde9f676933b7f39512d10abec3ff632ec30ae8909f569fe32546807971a9", func := "tidewait/tidewaitlaw.VegasTells", spec := "vegasTells", apart := false, narrowed := true }
def VegasTellsUptoSaid : Prop := vegasTellsUptoRow.holds Try.pinned (OpenSpec.upto vegasTellsSpec)

/-- 'tidewaitkeep.VegasStays', WHERE WHAT IT READS IS OF BULK AT MOST 1048576: true; the input reads as it did. -/
def vegasStaysUptoRow : OpenClaim := { program := "ytfnpnfcpganbbaa", sum := "dc2fde9f676933b7f39512d10abec3ff632ec30ae8909f569fe32546807971a9", func := "tidewait/tidewaitkeep.VegasStays", spec := "vegasStays", apart := false, narrowed := true }
def VegasStaysUptoSaid : Prop := vegasStaysUptoRow.holds Try.pinned (OpenSpec.upto vegasStaysSpec)

/-- 'tidewaitkeep.VegasYields', WHERE WHAT IT READS IS OF BULK AT MOST 1048576: true; the input reads as it did. -/
def vegasYieldsUptoRow : OpenClaim := { program := "ytfnpnfcpganbbaa", sum := "dc2fde9f676933b7f39512d10abec3ff632ec30ae8909f569fe32546807971a9", func := "tidewait/tidewaitkeep.VegasYields", spec := "vegasYields", apart := false, narrowed := true }
def VegasYieldsUptoSaid : Prop := vegasYieldsUptoRow.holds Try.pinned (OpenSpec.upto vegasYieldsSpec)

/-- 'tidewaitkeep.VegasRests', WHERE WHAT IT READS IS OF BULK AT MOST 1048576: true; the input reads as it did. -/
def vegasRestsUptoRow : OpenClaim := { program := "ytfnpnfcpganbbaa", sum := "dc2fde9f676933b7f39512d10abec3ff632ec30ae8909f569fe32546807971a9", func := "tidewait/tidewaitkeep.VegasRests", spec := "vegasRests", apart := false, narrowed := true }
def VegasRestsUptoSaid : Prop := vegasRestsUptoRow.holds Try.pinned (OpenSpec.upto vegasRestsSpec)

end Rows
end Go.Proofs.Ytfnpnfcpganbbaa
