/-
  No cell of these rows narrows 'for every input' (looked for: loops, veiled, ifaces, maps, wideKeys, modest, calm, conditions, laid).
  DERIVED. THE GIVEN ROWS OF THIS SEAT. 4 by the template 'for every input the law returns true; each argument reads behind the call as it read before'; 0 by the template 'total and deterministic' (their statements: YtdbpgcaodgkcjaaTotals.lean).
  GIVEN WITH THE SEED: the statements are not yours to turn. If you find one false, say at which input.
  Laid BY PROGRAM, IN A SANDBOX (cutbox-rows.mjs): the forced cells as the released guide's own fill.sh prints them over the translation 3bd6dd717ec0035d… (all of the seat's roots in one cut). By AI agents, Wed Nov 11 2026. No macro, syntax, notation, axiom, sorry.
-/
import Derived.Test.YtdbpgcaodgkcjaaChecked
import GoSem.Claim
import GoSem.ClaimJoined
import GoSem.ClaimMapViews
import Derived.JoinedTies
import Derived.KernelRfl
namespace Go.Proofs.Ytdbpgcaodgkcjaa
/- THE CELL 'sum', in the pinned program and in every row, IS THE sha256 OF THE DUMP (.gsa) THAT YtdbpgcaodgkcjaaProg.lean LOADS. Nothing in Lean hashes anything: it is a label: what it is worth is what the hold of that sum in a sandbox is worth. -/
noncomputable def Try.pinned : Pinned := { name := "ytdbpgcaodgkcjaa", sum := "3bd6dd717ec0035dc35d5070ae932379dc3ea9721d8e6e459cc939f08d4412fd", checked := Try.checked }
namespace Rows
def none {H : Type} : Left H := { results := [], args := [] }

/-- 'tidewaitlaw.MeanTells': WHATEVER THE INPUT: true; the input reads as it did. -/
def meanTellsSpec : ChangeSpec := { name := "meanTells", fn := fun _ => fun
  | [d] => { results := [.lit (.bool true)], args := [d] }
  | _ => none }
def meanTellsRow : OpenClaim := { program := "ytdbpgcaodgkcjaa", sum := "3bd6dd717ec0035dc35d5070ae932379dc3ea9721d8e6e459cc939f08d4412fd", func := "tidewait/tidewaitlaw.MeanTells", spec := "meanTells", apart := false }
def MeanTellsSaid : Prop := meanTellsRow.holds Try.pinned (OpenSpec.ofChange meanTellsSpec)

/-- ITS FALSE NEIGHBOUR: 'it returns false'. Refute it at one input. -/
def meanTellsWrong : ChangeSpec := { name := "meanTells", fn := fun _ => fun
  | [d] => { results := [.lit (.bool false)], args := [d] }
  | _ => none }
def MeanTellsWrongFalsely : Prop := meanTellsRow.holds Try.pinned (OpenSpec.ofChange meanTellsWrong)

/-- 'tidewaitkeep.MeanMost': WHATEVER THE INPUT: true; the input reads as it did. -/
def meanMostSpec : ChangeSpec := { name := "meanMost", fn := fun _ => fun
  | [d1, d2] => { results := [.lit (.bool true)], args := [d1, d2] }
  | _ => none }
def meanMostRow : OpenClaim := { program := "ytdbpgcaodgkcjaa", sum := "3bd6dd717ec0035dc35d5070ae932379dc3ea9721d8e6e459cc939f08d4412fd", func := "tidewait/tidewaitkeep.MeanMost", spec := "meanMost", apart := false }
def MeanMostSaid : Prop := meanMostRow.holds Try.pinned (OpenSpec.ofChange meanMostSpec)

/-- ITS FALSE NEIGHBOUR: 'it returns false'. Refute it at one input. -/
def meanMostWrong : ChangeSpec := { name := "meanMost", fn := fun _ => fun
  | [d1, d2] => { results := [.lit (.bool false)], args := [d1, d2] }
  | _ => none }
def MeanMostWrongFalsely : Prop := meanMostRow.holds Try.pinned (OpenSpec.ofChange meanMostWrong)

/-- 'tidewaitkeep.MeanSign': WHATEVER THE INPUT: true; the input reads as it did. -/
def meanSignSpec : ChangeSpec := { name := "meanSign", fn := fun _ => fun
  | [d] => { results := [.lit (.bool true)], args := [d] }
  | _ => none }
def meanSignRow : OpenClaim := { program := "ytdbpgcaodgkcjaa", sum := "3bd6dd717ec0035dc35d5070ae932379dc3ea9721d8e6e459cc939f08d4412fd", func := "tidewait/tidewaitkeep.MeanSign", spec := "meanSign", apart := false }
def MeanSignSaid : Prop := meanSignRow.holds Try.pinned (OpenSpec.ofChange meanSignSpec)

/-- ITS FALSE NEIGHBOUR: 'it returns false'. Refute it at one input. -/
def meanSignWrong : ChangeSpec := { name := "meanSign", fn := fun _ => fun
  | [d] => { results := [.lit (.bool false)], args := [d] }
  | _ => none }
def MeanSignWrongFalsely : Prop := meanSignRow.holds Try.pinned (OpenSpec.ofChange meanSignWrong)

/-- 'tidewaitkeep.MeanMore': WHATEVER THE INPUT: true; the input reads as it did. -/
def meanMoreSpec : ChangeSpec := { name := "meanMore", fn := fun _ => fun
  | [d1, d2] => { results := [.lit (.bool true)], args := [d1, d2] }
  | _ => none }
def meanMoreRow : OpenClaim := { program := "ytdbpgcaodgkcjaa", sum := "3bd6dd717ec0035dc35d5070ae932379dc3ea9721d8e6e459cc939f08d4412fd", func := "tidewait/tidewaitkeep.MeanMore", spec := "meanMore", apart := false }
def MeanMoreSaid : Prop := meanMoreRow.holds Try.pinned (OpenSpec.ofChange meanMoreSpec)

/-- ITS FALSE NEIGHBOUR: 'it returns false'. Refute it at one input. -/
def meanMoreWrong : ChangeSpec := { name := "meanMore", fn := fun _ => fun
  | [d1, d2] => { results := [.lit (.bool false)], args := [d1, d2] }
  | _ => none }
def MeanMoreWrongFalsely : Prop := meanMoreRow.holds Try.pinned (OpenSpec.ofChange meanMoreWrong)

/- THE SECOND FORM. 'bulk': how many values and letters a reading holds, each counted each time it is reached (what is shared counts as often as it is met; a slice's spare places count too). A statement '..UptoSaid' is the law's where the arguments, and the package variables that the reading takes, are together of bulk at most 1048576: NARROWER than '..Said'. Prove '..Said' where nothing that the law and all that it calls make is longer than what came in: it says more and counts as full. Else prove '..UptoSaid'. A law counts once. -/
mutual
def uptoBulk {H : Type} : DataW H → Nat
  | .lit (.string bytes) => bytes.length + 1
  | .lit _ => 1
  | .nil => 1
  | .ptr d => uptoBulk d + 1
  | .slice elems spare => uptoBulkAll elems + uptoBulkAll spare + 1
  | .agg parts => uptoBulkAll parts + 1
  | .iface _ d => uptoBulk d + 1
  | .map entries => uptoBulkEntries entries + 1
  | .held _ => 1
def uptoBulkAll {H : Type} : List (DataW H) → Nat
  | [] => 0
  | d :: r => uptoBulk d + uptoBulkAll r
def uptoBulkEntries {H : Type} : List (Lit × DataW H) → Nat
  | [] => 0
  | x :: r => uptoBulkEntry x + uptoBulkEntries r
def uptoBulkEntry {H : Type} : Lit × DataW H → Nat
  | (.string bytes, d) => bytes.length + uptoBulk d + 1
  | (_, d) => uptoBulk d + 1
 end
def uptoSmall : (H : Type) → List (DataW H) → Bool := fun _ ds => decide (uptoBulkAll ds ≤ 1048576)
def OpenSpec.upto (s : _root_.Go.ChangeSpec) : _root_.Go.OpenSpec := { _root_.Go.OpenSpec.ofChange s with cond := some uptoSmall }

/-- 'tidewaitlaw.MeanTells', WHERE WHAT IT READS IS OF BULK AT MOST 1048576: true; the input reads as it did. -/
def meanTellsUptoRow : OpenClaim := { program := "ytdbpgcaodgkcjaa", sum := "3bd6dd717ec0035dc35d5070ae932379dc3ea9721d8e6e459cc939f08d4412fd", func := "tidewait/tidewaitlaw.MeanTells", spec := "meanTells", apart := false, narrowed := true }
def MeanTellsUptoSaid : Prop := meanTellsUptoRow.holds Try.pinned (OpenSpec.upto meanTellsSpec)

/-- 'tidewaitkeep.MeanMost', WHERE WHAT IT READS IS OF BULK AT MOST 1048576: true; the input reads as it did. -/
def meanMostUptoRow : OpenClaim := { program := "ytdbpgcaodgkcjaa", sum := "3bd6dd717ec0035dc35d5070ae932379dc3ea9721d8e6e459cc939f08d4412fd", func := "tidewait/tidewaitkeep.MeanMost", spec := "meanMost", apart := false, narrowed := true }
def MeanMostUptoSaid : Prop := meanMostUptoRow.holds Try.pinned (OpenSpec.upto meanMostSpec)

/-- 'tidewaitkeep.MeanSign', WHERE WHAT IT READS IS OF BULK AT MOST 1048576: true; the input reads as it did. -/
def meanSignUptoRow : OpenClaim := { program := "ytdbpgcaodgkcjaa", sum := "3bd6dd717ec0035dc35d5070ae932379dc3ea9721d8e6e459cc939f08d4412fd", func := "tidewait/tidewaitkeep.MeanSign", spec := "meanSign", apart := false, narrowed := true }
def MeanSignUptoSaid : Prop := meanSignUptoRow.holds Try.pinned (OpenSpec.upto meanSignSpec)

/-- 'tidewaitkeep.MeanMore', WHERE WHAT IT READS IS OF BULK AT MOST 1048576: true; the input reads as it did. -/
def meanMoreUptoRow : OpenClaim := { program := "ytdbpgcaodgkcjaa", sum := "3bd6dd717ec0035dc35d5070ae932379dc3ea9721d8e6e459cc939f08d4412fd", func := "tidewait/tidewaitkeep.MeanMore", spec := "meanMore", apart := false, narrowed := true }
def MeanMoreUptoSaid : Prop := meanMoreUptoRow.holds Try.pinned (OpenSpec.upto meanMoreSpec)

end Rows
end Go.Proofs.Ytdbpgcaodgkcjaa
