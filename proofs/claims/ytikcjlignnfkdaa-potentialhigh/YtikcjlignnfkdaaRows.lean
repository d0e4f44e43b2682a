/-
  No cell of these rows narrows 'for every input' (looked for: loops, veiled, ifaces, maps, wideKeys, modest, calm, conditions, laid).
  DERIVED. THE GIVEN ROWS OF THIS SEAT. 6 by the template 'for every input the law returns true; each argument reads behind the call as it read before'; 0 by the template 'total and deterministic' (their statements: YtikcjlignnfkdaaTotals.lean).
  GIVEN WITH THE SEED: the statements are not yours to turn. If you find one false, say at which input.
  Laid BY PROGRAM, IN A SANDBOX (cutbox-rows.mjs): the forced cells as the released guide's own fill.sh prints them over the translation 44babec9217f1eba… (all of the seat's roots in one cut). By AI agents, Wed Nov 11 2026. No macro, syntax, notation, axiom, sorry.
-/
import Derived.Test.YtikcjlignnfkdaaChecked
import GoSem.Claim
import GoSem.ClaimJoined
import GoSem.ClaimMapViews
import Derived.JoinedTies
import Derived.KernelRfl
namespace Go.Proofs.Ytikcjlignnfkdaa
/- THE CELL 'sum', in the pinned program and in every row, IS THE sha256 OF THE DUMP (.gsa) THAT YtikcjlignnfkdaaProg.lean LOADS. Nothing in Lean hashes anything: it is a label: what it is worth is what the hold of that sum in a sandbox is worth. -/
noncomputable def Try.pinned : Pinned := { name := "ytikcjlignnfkdaa", sum := "44babec9217f1eba08a94c519718880ce4d77a4cc57b65981355f20402503d1e", checked := Try.checked }
namespace Rows
def none {H : Type} : Left H := { results := [], args := [] }

/-- 'tidewaitlaw.PotentialTells': WHATEVER THE INPUT: true; the input reads as it did. -/
def potentialTellsSpec : ChangeSpec := { name := "potentialTells", fn := fun _ => fun
  | [d1, d2] => { results := [.lit (.bool true)], args := [d1, d2] }
  | _ => none }
def potentialTellsRow : OpenClaim := { program := "ytikcjlignnfkdaa", sum := "44babec9217f1eba08a94c519718880ce4d77a4cc57b65981355f20402503d1e", func := "tidewait/tidewaitlaw.PotentialTells", spec := "potentialTells", apart := false }
def PotentialTellsSaid : Prop := potentialTellsRow.holds Try.pinned (OpenSpec.ofChange potentialTellsSpec)

/-- ITS FALSE NEIGHBOUR: 'it returns false'. Refute it at one input. -/
def potentialTellsWrong : ChangeSpec := { name := "potentialTells", fn := fun _ => fun
  | [d1, d2] => { results := [.lit (.bool false)], args := [d1, d2] }
  | _ => none }
def PotentialTellsWrongFalsely : Prop := potentialTellsRow.holds Try.pinned (OpenSpec.ofChange potentialTellsWrong)

/-- 'tidewaitlaw.PotentialCycle': WHATEVER THE INPUT: true; the input reads as it did. -/
def potentialCycleSpec : ChangeSpec := { name := "potentialCycle", fn := fun _ => fun
  | [d] => { results := [.lit (.bool true)], args := [d] }
  | _ => none }
def potentialCycleRow : OpenClaim := { program := "ytikcjlignnfkdaa", sum := "44babec9217f1eba08a94c519718880ce4d77a4cc57b65981355f20402503d1e", func := "tidewait/tidewaitlaw.PotentialCycle", spec := "potentialCycle", apart := false }
def PotentialCycleSaid : Prop := potentialCycleRow.holds Try.pinned (OpenSpec.ofChange potentialCycleSpec)

/-- ITS FALSE NEIGHBOUR: 'it returns false'. Refute it at one input. -/
def potentialCycleWrong : ChangeSpec := { name := "potentialCycle", fn := fun _ => fun
  | [d] => { results := [.lit (.bool false)], args := [d] }
  | _ => none }
def PotentialCycleWrongFalsely : Prop := potentialCycleRow.holds Try.pinned (OpenSpec.ofChange potentialCycleWrong)

/-- 'tidewaitkeep.PotentialWalks': WHATEVER THE INPUT: true; the input reads as it did. -/
def potentialWalksSpec : ChangeSpec := { name := "potentialWalks", fn := fun _ => fun
  | [d1, d2] => { results := [.lit (.bool true)], args := [d1, d2] }
  | _ => none }
def potentialWalksRow : OpenClaim := { program := "ytikcjlignnfkdaa", sum := "44babec9217f1eba08a94c519718880ce4d77a4cc57b65981355f20402503d1e", func := "tidewait/tidewaitkeep.PotentialWalks", spec := "potentialWalks", apart := false }
def PotentialWalksSaid : Prop := potentialWalksRow.holds Try.pinned (OpenSpec.ofChange potentialWalksSpec)

/-- ITS FALSE NEIGHBOUR: 'it returns false'. Refute it at one input. -/
def potentialWalksWrong : ChangeSpec := { name := "potentialWalks", fn := fun _ => fun
  | [d1, d2] => { results := [.lit (.bool false)], args := [d1, d2] }
  | _ => none }
def PotentialWalksWrongFalsely : Prop := potentialWalksRow.holds Try.pinned (OpenSpec.ofChange potentialWalksWrong)

/-- 'tidewaitkeep.PotentialTight': WHATEVER THE INPUT: true; the input reads as it did. -/
def potentialTightSpec : ChangeSpec := { name := "potentialTight", fn := fun _ => fun
  | [d] => { results := [.lit (.bool true)], args := [d] }
  | _ => none }
def potentialTightRow : OpenClaim := { program := "ytikcjlignnfkdaa", sum := "44babec9217f1eba08a94c519718880ce4d77a4cc57b65981355f20402503d1e", func := "tidewait/tidewaitkeep.PotentialTight", spec := "potentialTight", apart := false }
def PotentialTightSaid : Prop := potentialTightRow.holds Try.pinned (OpenSpec.ofChange potentialTightSpec)

/-- ITS FALSE NEIGHBOUR: 'it returns false'. Refute it at one input. -/
def potentialTightWrong : ChangeSpec := { name := "potentialTight", fn := fun _ => fun
  | [d] => { results := [.lit (.bool false)], args := [d] }
  | _ => none }
def PotentialTightWrongFalsely : Prop := potentialTightRow.holds Try.pinned (OpenSpec.ofChange potentialTightWrong)

/-- 'tidewaitkeep.PotentialEither': WHATEVER THE INPUT: true; the input reads as it did. -/
def potentialEitherSpec : ChangeSpec := { name := "potentialEither", fn := fun _ => fun
  | [d] => { results := [.lit (.bool true)], args := [d] }
  | _ => none }
def potentialEitherRow : OpenClaim := { program := "ytikcjlignnfkdaa", sum := "44babec9217f1eba08a94c519718880ce4d77a4cc57b65981355f20402503d1e", func := "tidewait/tidewaitkeep.PotentialEither", spec := "potentialEither", apart := false }
def PotentialEitherSaid : Prop := potentialEitherRow.holds Try.pinned (OpenSpec.ofChange potentialEitherSpec)

/-- ITS FALSE NEIGHBOUR: 'it returns false'. Refute it at one input. -/
def potentialEitherWrong : ChangeSpec := { name := "potentialEither", fn := fun _ => fun
  | [d] => { results := [.lit (.bool false)], args := [d] }
  | _ => none }
def PotentialEitherWrongFalsely : Prop := potentialEitherRow.holds Try.pinned (OpenSpec.ofChange potentialEitherWrong)

/-- 'tidewaitkeep.PotentialHigh': WHATEVER THE INPUT: true; the input reads as it did. -/
def potentialHighSpec : ChangeSpec := { name := "potentialHigh", fn := fun _ => fun
  | [d1, d2] => { results := [.lit (.bool true)], args := [d1, d2] }
  | _ => none }
def potentialHighRow : OpenClaim := { program := "ytikcjlignnfkdaa", sum := "44babec9217f1eba08a94c519718880ce4d77a4cc57b65981355f20402503d1e", func := "tidewait/tidewaitkeep.PotentialHigh", spec := "potentialHigh", apart := false }
def PotentialHighSaid : Prop := potentialHighRow.holds Try.pinned (OpenSpec.ofChange potentialHighSpec)

/-- ITS FALSE NEIGHBOUR: 'it returns false'. Refute it at one input. -/
def potentialHighWrong : ChangeSpec := { name := "potentialHigh", fn := fun _ => fun
  | [d1, d2] => { results := [.lit (.bool false)], args := [d1, d2] }
  | _ => none }
def PotentialHighWrongFalsely : Prop := potentialHighRow.holds Try.pinned (OpenSpec.ofChange potentialHighWrong)

/- THE SECOND FORM. 'bulk': how many values and letters a reading holds, each counted each time it is reached (what is shared counts as often as it is met; a slice's spare places count too). A statement '..UptoSaid' is the law's where the arguments, and the package variables that the reading takes, are together of bulk at most 1048576: NARROWER than '..Said'. Prove '..Said' where nothing that the law and all that it calls make is longer than what came in: it says more and counts as full. Else prove '..UptoSaid'. A law counts once. -/
mutual
def uptoBulk {H : Type} : DataW H → Nat
  | .lit (.string bytes) => bytes.length + 1
  | .lit _ => 1
  | .nil => 1
  | .ptr d => uptoBulk d + 1
  | .slice elems spare => uptoBulkAll elems + uptoBulkAll spare + 1
  | .agg parts => uptoBulkAll parts + 1
  | .iface _ d => uptoBulk d + 1
  | .map entries => uptoBulkEntries entries + 1
  | .held _ => 1
def uptoBulkAll {H : Type} : List (DataW H) → Nat
  | [] => 0
  | d :: r => uptoBulk d + uptoBulkAll r
def uptoBulkEntries {H : Type} : List (Lit × DataW H) → Nat
  | [] => 0
  | x :: r => uptoBulkEntry x + uptoBulkEntries r
def uptoBulkEntry {H : Type} : Lit × DataW H → Nat
  | (.string bytes, d) => bytes.length + uptoBulk d + 1
  | (_, d) => uptoBulk d + 1
 end
def uptoSmall : (H : Type) → List (DataW H) → Bool := fun _ ds => decide (uptoBulkAll ds ≤ 1048576)
def OpenSpec.upto (s : _root_.Go.ChangeSpec) : _root_.Go.OpenSpec := { _root_.Go.OpenSpec.ofChange s with cond := some uptoSmall }

/-- 'tidewaitlaw.PotentialTells', WHERE WHAT IT READS IS OF BULK AT MOST 1048576: true; the input reads as it did. -/
def potentialTellsUptoRow : OpenClaim := { program := "ytikcjlignnfkdaa", sum := "44babec9217f1eba08a94c519718880ce4d77a4cc57b65981355f20402503d1e", func := "tidewait/tidewaitlaw.PotentialTells", spec := "potentialTells", apart := false, narrowed := true }
def PotentialTellsUptoSaid : Prop := potentialTellsUptoRow.holds Try.pinned (OpenSpec.upto potentialTellsSpec)

/-- 'tidewaitlaw.PotentialCycle', WHERE WHAT IT READS IS OF BULK AT MOST 1048576: true; the input reads as it did. -/
def potentialCycleUptoRow : OpenClaim := { program := "ytikcjlignnfkdaa", sum := "44babec9217f1eba08a94c519718880ce4d77a4cc57b65981355f20402503d1e", func := "tidewait/tidewaitlaw.PotentialCycle", spec := "potentialCycle", apart := false, narrowed := true }
def PotentialCycleUptoSaid : Prop := potentialCycleUptoRow.holds Try.pinned (OpenSpec.upto potentialCycleSpec)

/-- 'tidewaitkeep.PotentialWalks', WHERE WHAT IT READS IS OF BULK AT MOST 1048576: true; the input reads as it did. -/
def potentialWalksUptoRow : OpenClaim := { program := "ytikcjlignnfkdaa", sum := "44babec9217f1eba08a94c519718880ce4d77a4cc57b65981355f20402503d1e", func := "tidewait/tidewaitkeep.PotentialWalks", spec := "potentialWalks", apart := false, narrowed := true }
def PotentialWalksUptoSaid : Prop := potentialWalksUptoRow.holds Try.pinned (OpenSpec.upto potentialWalksSpec)

/-- 'tidewaitkeep.PotentialTight', WHERE WHAT IT READS IS OF BULK AT MOST 1048576: true; the input reads as it did. -/
def potentialTightUptoRow : OpenClaim := { program := "ytikcjlignnfkdaa", sum := "44babec9217f1eba08a94c519718880ce4d77a4cc57b65981355f20402503d1e", func := "tidewait/tidewaitkeep.PotentialTight", spec := "potentialTight", apart := false, narrowed := true }
def PotentialTightUptoSaid : Prop := potentialTightUptoRow.holds Try.pinned (OpenSpec.upto potentialTightSpec)

/-- 'tidewaitkeep.PotentialEither', WHERE WHAT IT READS IS OF BULK AT MOST 1048576: true; the input reads as it did. -/
def potentialEitherUptoRow : OpenClaim := { program := "ytikcjlignnfkdaa", sum := "44babec9217f1eba08a94c519718880ce4d77a4cc57b65981355f20402503d1e", func := "tidewait/tidewaitkeep.PotentialEither", spec := "potentialEither", apart := false, narrowed := true }
def PotentialEitherUptoSaid : Prop := potentialEitherUptoRow.holds Try.pinned (OpenSpec.upto potentialEitherSpec)

/-- 'tidewaitkeep.PotentialHigh', WHERE WHAT IT READS IS OF BULK AT MOST 1048576: true; the input reads as it did. -/
def potentialHighUptoRow : OpenClaim := { program := "ytikcjlignnfkdaa", sum := "44babec9217f1eba08a94c519718880ce4d77a4cc57b65981355f20402503d1e", func := "tidewait/tidewaitkeep.PotentialHigh", spec := "potentialHigh", apart := false, narrowed := true }
def PotentialHighUptoSaid : Prop := potentialHighUptoRow.holds Try.pinned (OpenSpec.upto potentialHighSpec)

end Rows
end Go.Proofs.Ytikcjlignnfkdaa
