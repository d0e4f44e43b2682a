/-
  No cell of these rows narrows 'for every input' (looked for: loops, veiled, ifaces, maps, wideKeys, modest, calm, conditions, laid).
  DERIVED. THE GIVEN ROWS OF THIS SEAT. 4 by the template 'for every input the law returns true; each argument reads behind the call as it read before'; 0 by the template 'total and deterministic' (their statements: YteeoflabkedokaaTotals.lean).
  GIVEN WITH THE SEED: the statements are not yours to turn. If you find one false, say at which input.
  Laid BY PROGRAM, IN A SANDBOX (cutbox-rows.mjs): the forced cells as the released guide's own fill.sh prints them over the translation 0a720e276a29608c… (all of the seat's roots in one cut). By AI agents, Wed Nov 11 2026. No macro, syntax, notation, axiom, sorry.
-/
import Derived.Test.YteeoflabkedokaaChecked
import GoSem.Claim
import GoSem.ClaimJoined
import GoSem.ClaimMapViews
import Derived.JoinedTies
import Derived.KernelRfl
namespace Go.Proofs.Yteeoflabkedokaa
/- THE CELL 'sum', in the pinned program and in every row, IS THE sha256 OF THE DUMP (.gsa) THAT YteeoflabkedokaaProg.lean LOADS. Nothing in Lean hashes anything: it is a label: what it is worth is what the hold of that sum in a sandbox is worth. -/
noncomputable def Try.pinned : Pinned := { name := "yteeoflabkedokaa", sum := "0a720e276a29608c49eb00efd02074dc8b3aafe3680f878b73e0eb411f19ef60", checked := Try.checked }
namespace Rows
def none {H : Type} : Left H := { results := [], args := [] }

/-- 'tidewaitlaw.CopaTells': WHATEVER THE INPUT: true; the input reads as it did. -/
def copaTellsSpec : ChangeSpec := { name := "copaTells", fn := fun _ => fun
  | [d1, d2, d3] => { results := [.lit (.bool true)], args := [d1, d2, d3] }
  | _ => none }
def copaTellsRow : OpenClaim := { program := "yteeoflabkedokaa", sum := "0a720e276a29608c49eb00efd02074dc8b3aafe3680f878b73e0eb411f19ef60", func := "tidewait/tidewaitlaw.CopaTells", spec := "copaTells", apart := false }
def CopaTellsSaid : Prop := copaTellsRow.holds Try.pinned (OpenSpec.ofChange copaTellsSpec)

/-- ITS FALSE NEIGHBOUR: 'it returns false'. Refute it at one input. -/
def copaTellsWrong : ChangeSpec := { name := "copaTells", fn := fun _ => fun
  | [d1, d2, d3] => { results := [.lit (.bool false)], args := [d1, d2, d3] }
  | _ => none }
def CopaTellsWrongFalsely : Prop := copaTellsRow.holds Try.pinned (OpenSpec.ofChange copaTellsWrong)

/-- 'tidewaitkeep.CopaStays': WHATEVER THE INPUT: true; the input reads as it did. -/
def copaStaysSpec : ChangeSpec := { name := "copaStays", fn := fun _ => fun
  | [d1, d2] => { results := [.lit (.bool true)], args := [d1, d2] }
  | _ => none }
def copaStaysRow : OpenClaim := { program := "yteeoflabkedokaa", sum := "0a720e276a29608c49eb00efd02074dc8b3aafe3680f878b73e0eb411f19ef60", func := "tidewait/tidewaitkeep.CopaStays", spec := "copaStays", apart := false }
def CopaStaysSaid : Prop := copaStaysRow.holds Try.pinned (OpenSpec.ofChange copaStaysSpec)

/-- ITS FALSE NEIGHBOUR: 'it returns false'. Refute it at one input. -/
def copaStaysWrong : ChangeSpec := { name := "copaStays", fn := fun _ => fun
  | [d1, d2] => { results := [.lit (.bool false)], args := [d1, d2] }
  | _ => none }
def CopaStaysWrongFalsely : Prop := copaStaysRow.holds Try.pinned (OpenSpec.ofChange copaStaysWrong)

/-- 'tidewaitkeep.CopaYields': WHATEVER THE INPUT: true; the input reads as it did. -/
def copaYieldsSpec : ChangeSpec := { name := "copaYields", fn := fun _ => fun
  | [d1, d2, d3] => { results := [.lit (.bool true)], args := [d1, d2, d3] }
  | _ => none }
def copaYieldsRow : OpenClaim := { program := "yteeoflabkedokaa", sum := "0a720e276a29608c49eb00efd02074dc8b3aafe3680f878b73e0eb411f19ef60", func := "tidewait/tidewaitkeep.CopaYields", spec := "copaYields", apart := false }
def CopaYieldsSaid : Prop := copaYieldsRow.holds Try.pinned (OpenSpec.ofChange copaYieldsSpec)

/-- ITS FALSE NEIGHBOUR: 'it returns false'. Refute it at one input. -/
def copaYieldsWrong : ChangeSpec := { name := "copaYields", fn := fun _ => fun
  | [d1, d2, d3] => { results := [.lit (.bool false)], args := [d1, d2, d3] }
  | _ => none }
def CopaYieldsWrongFalsely : Prop := copaYieldsRow.holds Try.pinned (OpenSpec.ofChange copaYieldsWrong)

/-- 'tidewaitkeep.CopaFaster': WHATEVER THE INPUT: true; the input reads as it did. -/
def copaFasterSpec : ChangeSpec := { name := "copaFaster", fn := fun _ => fun
  | [d1, d2] => { results := [.lit (.bool true)], args := [d1, d2] }
  | _ => none }
def copaFasterRow : OpenClaim := { program := "yteeoflabkedokaa", sum := "0a720e276a29608c49eb00efd02074dc8b3aafe3680f878b73e0eb411f19ef60", func := "tidewait/tidewaitkeep.CopaFaster", spec := "copaFaster", apart := false }
def CopaFasterSaid : Prop := copaFasterRow.holds Try.pinned (OpenSpec.ofChange copaFasterSpec)

/-- ITS FALSE NEIGHBOUR: 'it returns false'. Refute it at one input. -/
def copaFasterWrong : ChangeSpec := { name := "copaFaster", fn := fun _ => fun
  | [d1, d2] => { results := [.lit (.bool false)], args := [d1, d2] }
  | _ => none }
def CopaFasterWrongFalsely : Prop := copaFasterRow.holds Try.pinned (OpenSpec.ofChange copaFasterWrong)

/- THE SECOND FORM. 'bulk': how many values and letters a reading holds, each counted each time it is reached (what is shared counts as often as it is met; a slice's spare places count too). A statement '..UptoSaid' is the law's where the arguments, and the package variables that the reading takes, are together of bulk at most 1048576: NARROWER than '..Said'. Prove '..Said' where nothing that the law and all that it calls make is longer than what came in: it says more and counts as full. Else prove '..UptoSaid'. A law counts once. -/
mutual
def uptoBulk {H : Type} : DataW H → Nat
  | .lit (.string bytes) => bytes.length + 1
  | .lit _ => 1
  | .nil => 1
  | .ptr d => uptoBulk d + 1
  | .slice elems spare => uptoBulkAll elems + uptoBulkAll spare + 1
  | .agg parts => uptoBulkAll parts + 1
  | .iface _ d => uptoBulk d + 1
  | .map entries => uptoBulkEntries entries + 1
  | .held _ => 1
def uptoBulkAll {H : Type} : List (DataW H) → Nat
  | [] => 0
  | d :: r => uptoBulk d + uptoBulkAll r
def uptoBulkEntries {H : Type} : List (Lit × DataW H) → Nat
  | [] => 0
  | x :: r => uptoBulkEntry x + uptoBulkEntries r
def uptoBulkEntry {H : Type} : Lit × DataW H → Nat
  | (.string bytes, d) => bytes.length + uptoBulk d + 1
  | (_, d) => uptoBulk d + 1
 end
def uptoSmall : (H : Type) → List (DataW H) → Bool := fun _ ds => decide (uptoBulkAll ds ≤ 1048576)
def OpenSpec.upto (s : _root_.Go.ChangeSpec) : _root_.Go.OpenSpec := { _root_.Go.OpenSpec.ofChange s with cond := some uptoSmall }

/-- 'tidewaitlaw.CopaTells', WHERE WHAT IT READS IS OF BULK AT MOST 1048576: true; the input reads as it did. -/
def copaTellsUptoRow : OpenClaim := { program := "yteeoflabkedokaa", sum := "0a720e276a29608c49eb00efd02074dc8b3aafe3680f878b73e0eb411f19ef60", func := "tidewait/tidewaitlaw.CopaTells", spec := "copaTells", apart := false, narrowed := true }
def CopaTellsUptoSaid : Prop := copaTellsUptoRow.holds Try.pinned (OpenSpec.upto copaTellsSpec)

/-- 'tidewaitkeep.CopaStays', WHERE WHAT IT READS IS OF BULK AT MOST 1048576: true; the input reads as it did. -/
def copaStaysUptoRow : OpenClaim := { program := "yteeoflabkedokaa", sum := "0a720e276a29608c49eb00efd02074dc8b3aafe3680f878b73e0eb411f19ef60", func := "tidewait/tidewaitkeep.CopaStays", spec := "copaStays", apart := false, narrowed := true }
def CopaStaysUptoSaid : Prop := copaStaysUptoRow.holds Try.pinned (OpenSpec.upto copaStaysSpec)

/-- 'tidewaitkeep.CopaYields', WHERE WHAT IT READS IS OF BULK AT MOST 1048576: true; the input reads as it did. -/
def copaYieldsUptoRow : OpenClaim := { program := "yteeoflabkedokaa", sum := "0a720e276a29608c49eb00efd02074dc8b3aafe3680f878b73e0eb411f19ef60", func := "tidewait/tidewaitkeep.CopaYields", spec := "copaYields", apart := false, narrowed := true }
def CopaYieldsUptoSaid : Prop := copaYieldsUptoRow.holds Try.pinned (OpenSpec.upto copaYieldsSpec)

/-- 'tidewaitkeep.CopaFaster', WHERE WHAT IT READS IS OF BULK AT MOST 1048576: true; the input reads as it did. -/
def copaFasterUptoRow : OpenClaim := { program := "yteeoflabkedokaa", sum := "0a720e276a29608c49eb00efd02074dc8b3aafe3680f878b73e0eb411f19ef60", func := "tidewait/tidewaitkeep.CopaFaster", spec := "copaFaster", apart := false, narrowed := true }
def CopaFasterUptoSaid : Prop := copaFasterUptoRow.holds Try.pinned (OpenSpec.upto copaFasterSpec)

end Rows
end Go.Proofs.Yteeoflabkedokaa
