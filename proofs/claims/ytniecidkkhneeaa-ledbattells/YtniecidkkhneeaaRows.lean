/-
  No cell of these rows narrows 'for every input' (looked for: loops, veiled, ifaces, maps, wideKeys, modest, calm, conditions, laid).
  DERIVED. THE GIVEN ROWS OF THIS SEAT. 5 by the template 'for every input the law returns true; each argument reads behind the call as it read before'; 0 by the template 'total and deterministic' (their statements: YtniecidkkhneeaaTotals.lean).
  GIVEN WITH THE SEED: the statements are not yours to turn. If you find one false, say at which input.
  Laid BY PROGRAM, IN A SANDBOX (cutbox-rows.mjs): the forced cells as the released guide's own fill.sh prints them over the translation f34b310d70023d38… (all of the seat's roots in one cut). By AI agents, Wed Nov 11 2026. No macro, syntax, notation, axiom, sorry.
-/
import Derived.Test.YtniecidkkhneeaaChecked
import GoSem.Claim
import GoSem.ClaimJoined
import GoSem.ClaimMapViews
import Derived.JoinedTies
import Derived.KernelRfl
namespace Go.Proofs.Ytniecidkkhneeaa
/- THE CELL 'sum', in the pinned program and in every row, IS THE sha256 OF THE DUMP (.gsa) THAT YtniecidkkhneeaaProg.lean LOADS. Nothing in Lean hashes anything: it is a label: what it is worth is what the hold of that sum in a sandbox is worth. -/
noncomputable def Try.pinned : Pinned := { name := "ytniecidkkhneeaa", sum := "f34b310d70023d388e6801fb923bf11ddfaccd87e55c50349955c11e8afa9000", checked := Try.checked }
namespace Rows
def none {H : Type} : Left H := { results := [], args := [] }

/-- 'tidewaitlaw.LedbatTells': WHATEVER THE INPUT: true; the input reads as it did. -/
def ledbatTellsSpec : ChangeSpec := { name := "ledbatTells", fn := fun _ => fun
  | [d1, d2, d3] => { results := [.lit (.bool true)], args := [d1, d2, d3] }
  | _ => none }
def ledbatTellsRow : OpenClaim := { program := "ytniecidkkhneeaa", sum := "f34b310d70023d388e6801fb923bf11ddfaccd87e55c50349955c11e8afa9000", func := "tidewait/tidewaitlaw.LedbatTells", spec := "ledbatTells", apart := false }
def LedbatTellsSaid : Prop := ledbatTellsRow.holds Try.pinned (OpenSpec.ofChange ledbatTellsSpec)

/-- ITS FALSE NEIGHBOUR: 'it returns false'. Refute it at one input. -/
def ledbatTellsWrong : ChangeSpec := { name := "ledbatTells", fn := fun _ => fun
  | [d1, d2, d3] => { results := [.lit (.bool false)], args := [d1, d2, d3] }
  | _ => none }
def LedbatTellsWrongFalsely : Prop := ledbatTellsRow.holds Try.pinned (OpenSpec.ofChange ledbatTellsWrong)

/-- 'tidewaitkeep.LedbatStays': WHATEVER THE INPUT: true; the input reads as it did. -/
def ledbatStaysSpec : ChangeSpec := { name := "ledbatStays", fn := fun _ => fun
  | [d1, d2] => { results := [.lit (.bool true)], args := [d1, d2] }
  | _ => none }
def ledbatStaysRow : OpenClaim := { program := "ytniecidkkhneeaa", sum := "f34b310d70023d388e6801fb923bf11ddfaccd87e55c50349955c11e8afa9000", func := "tidewait/tidewaitkeep.LedbatStays", spec := "ledbatStays", apart := false }
def LedbatStaysSaid : Prop := ledbatStaysRow.holds Try.pinned (OpenSpec.ofChange ledbatStaysSpec)

/-- ITS FALSE NEIGHBOUR: 'it returns false'. Refute it at one input. -/
def ledbatStaysWrong : ChangeSpec := { name := "ledbatStays", fn := fun _ => fun
  | [d1, d2] => { results := [.lit (.bool false)], args := [d1, d2] }
  | _ => none }
def LedbatStaysWrongFalsely : Prop := ledbatStaysRow.holds Try.pinned (OpenSpec.ofChange ledbatStaysWrong)

/-- 'tidewaitkeep.LedbatLess': WHATEVER THE INPUT: true; the input reads as it did. -/
def ledbatLessSpec : ChangeSpec := { name := "ledbatLess", fn := fun _ => fun
  | [d1, d2, d3] => { results := [.lit (.bool true)], args := [d1, d2, d3] }
  | _ => none }
def ledbatLessRow : OpenClaim := { program := "ytniecidkkhneeaa", sum := "f34b310d70023d388e6801fb923bf11ddfaccd87e55c50349955c11e8afa9000", func := "tidewait/tidewaitkeep.LedbatLess", spec := "ledbatLess", apart := false }
def LedbatLessSaid : Prop := ledbatLessRow.holds Try.pinned (OpenSpec.ofChange ledbatLessSpec)

/-- ITS FALSE NEIGHBOUR: 'it returns false'. Refute it at one input. -/
def ledbatLessWrong : ChangeSpec := { name := "ledbatLess", fn := fun _ => fun
  | [d1, d2, d3] => { results := [.lit (.bool false)], args := [d1, d2, d3] }
  | _ => none }
def LedbatLessWrongFalsely : Prop := ledbatLessRow.holds Try.pinned (OpenSpec.ofChange ledbatLessWrong)

/-- 'tidewaitkeep.LedbatOff': WHATEVER THE INPUT: true; the input reads as it did. -/
def ledbatOffSpec : ChangeSpec := { name := "ledbatOff", fn := fun _ => fun
  | [d1, d2, d3] => { results := [.lit (.bool true)], args := [d1, d2, d3] }
  | _ => none }
def ledbatOffRow : OpenClaim := { program := "ytniecidkkhneeaa", sum := "f34b310d70023d388e6801fb923bf11ddfaccd87e55c50349955c11e8afa9000", func := "tidewait/tidewaitkeep.LedbatOff", spec := "ledbatOff", apart := false }
def LedbatOffSaid : Prop := ledbatOffRow.holds Try.pinned (OpenSpec.ofChange ledbatOffSpec)

/-- ITS FALSE NEIGHBOUR: 'it returns false'. Refute it at one input. -/
def ledbatOffWrong : ChangeSpec := { name := "ledbatOff", fn := fun _ => fun
  | [d1, d2, d3] => { results := [.lit (.bool false)], args := [d1, d2, d3] }
  | _ => none }
def LedbatOffWrongFalsely : Prop := ledbatOffRow.holds Try.pinned (OpenSpec.ofChange ledbatOffWrong)

/-- 'tidewaitkeep.LedbatYields': WHATEVER THE INPUT: true; the input reads as it did. -/
def ledbatYieldsSpec : ChangeSpec := { name := "ledbatYields", fn := fun _ => fun
  | [d1, d2] => { results := [.lit (.bool true)], args := [d1, d2] }
  | _ => none }
def ledbatYieldsRow : OpenClaim := { program := "ytniecidkkhneeaa", sum := "f34b310d70023d388e6801fb923bf11ddfaccd87e55c50349955c11e8afa9000", func := "tidewait/tidewaitkeep.LedbatYields", spec := "ledbatYields", apart := false }
def LedbatYieldsSaid : Prop := ledbatYieldsRow.holds Try.pinned (OpenSpec.ofChange ledbatYieldsSpec)

/-- ITS FALSE NEIGHBOUR: 'it returns false'. Refute it at one input. -/
def ledbatYieldsWrong : ChangeSpec := { name := "ledbatYields", fn := fun _ => fun
  | [d1, d2] => { results := [.lit (.bool false)], args := [d1, d2] }
  | _ => none }
def LedbatYieldsWrongFalsely : Prop := ledbatYieldsRow.holds Try.pinned (OpenSpec.ofChange ledbatYieldsWrong)

/- THE SECOND FORM. 'bulk': how many values and letters a reading holds, each counted each time it is reached (what is shared counts as often as it is met; a slice's spare places count too). A statement '..UptoSaid' is the law's where the arguments, and the package variables that the reading takes, are together of bulk at most 1048576: NARROWER than '..Said'. Prove '..Said' where nothing that the law and all that it calls make is longer than what came in: it says more and counts as full. Else prove '..UptoSaid'. A law counts once. -/
mutual
def uptoBulk {H : Type} : DataW H → Nat
  | .lit (.string bytes) => bytes.length + 1
  | .lit _ => 1
  | .nil => 1
  | .ptr d => uptoBulk d + 1
  | .slice elems spare => uptoBulkAll elems + uptoBulkAll spare + 1
  | .agg parts => uptoBulkAll parts + 1
  | .iface _ d => uptoBulk d + 1
  | .map entries => uptoBulkEntries entries + 1
  | .held _ => 1
def uptoBulkAll {H : Type} : List (DataW H) → Nat
  | [] => 0
  | d :: r => uptoBulk d + uptoBulkAll r
def uptoBulkEntries {H : Type} : List (Lit × DataW H) → Nat
  | [] => 0
  | x :: r => uptoBulkEntry x + uptoBulkEntries r
def uptoBulkEntry {H : Type} : Lit × DataW H → Nat
  | (.string bytes, d) => bytes.length + uptoBulk d + 1
  | (_, d) => uptoBulk d + 1
 end
def uptoSmall : (H : Type) → List (DataW H) → Bool := fun _ ds => decide (uptoBulkAll ds ≤ 1048576)
def OpenSpec.upto (s : _root_.Go.ChangeSpec) : _root_.Go.OpenSpec := { _root_.Go.OpenSpec.ofChange s with cond := some uptoSmall }

/-- 'tidewaitlaw.LedbatTells', WHERE WHAT IT READS IS OF BULK AT MOST 1048576: true; the input reads as it did. -/
def ledbatTellsUptoRow : OpenClaim := { program := "ytniecidkkhneeaa", sum := "f34b310d70023d388e6801fb923bf11ddfaccd87e55c50349955c11e8afa9000", func := "tidewait/tidewaitlaw.LedbatTells", spec := "ledbatTells", apart := false, narrowed := true }
def LedbatTellsUptoSaid : Prop := ledbatTellsUptoRow.holds Try.pinned (OpenSpec.upto ledbatTellsSpec)

/-- 'tidewaitkeep.LedbatStays', WHERE WHAT IT READS IS OF BULK AT MOST 1048576: true; the input reads as it did. -/
def ledbatStaysUptoRow : OpenClaim := { program := "ytniecidkkhneeaa", sum := "f34b310d70023d388e6801fb923bf11ddfaccd87e55c50349955c11e8afa9000", func := "tidewait/tidewaitkeep.LedbatStays", spec := "ledbatStays", apart := false, narrowed := true }
def LedbatStaysUptoSaid : Prop := ledbatStaysUptoRow.holds Try.pinned (OpenSpec.upto ledbatStaysSpec)

/-- 'tidewaitkeep.LedbatLess', WHERE WHAT IT READS IS OF BULK AT MOST 1048576: true; the input reads as it did. -/
def ledbatLessUptoRow : OpenClaim := { program := "ytniecidkkhneeaa", sum := "f34b310d70023d388e6801fb923bf11ddfaccd87e55c50349955c11e8afa9000", func := "tidewait/tidewaitkeep.LedbatLess", spec := "ledbatLess", apart := false, narrowed := true }
def LedbatLessUptoSaid : Prop := ledbatLessUptoRow.holds Try.pinned (OpenSpec.upto ledbatLessSpec)

/-- 'tidewaitkeep.LedbatOff', WHERE WHAT IT READS IS OF BULK AT MOST 1048576: true; the input reads as it did. -/
def ledbatOffUptoRow : OpenClaim := { program := "ytniecidkkhneeaa", sum := "f34b310d70023d388e6801fb923bf11ddfaccd87e55c50349955c11e8afa9000", func := "tidewait/tidewaitkeep.LedbatOff", spec := "ledbatOff", apart := false, narrowed := true }
def LedbatOffUptoSaid : Prop := ledbatOffUptoRow.holds Try.pinned (OpenSpec.upto ledbatOffSpec)

/-- 'tidewaitkeep.LedbatYields', WHERE WHAT IT READS IS OF BULK AT MOST 1048576: true; the input reads as it did. -/
def ledbatYieldsUptoRow : OpenClaim := { program := "ytniecidkkhneeaa", sum := "f34b310d70023d388e6801fb923bf11ddfaccd87e55c50349955c11e8afa9000", func := "tidewait/tidewaitkeep.LedbatYields", spec := "ledbatYields", apart := false, narrowed := true }
def LedbatYieldsUptoSaid : Prop := ledbatYieldsUptoRow.holds Try.pinned (OpenSpec.upto ledbatYieldsSpec)

end Rows
end Go.Proofs.Ytniecidkkhneeaa
