/-
  No cell of these rows narrows 'for every input' (looked for: loops, veiled, ifaces, maps, wideKeys, modest, calm, conditions, laid).
  DERIVED. THE GIVEN ROWS OF THIS SEAT. 6 by the template 'for every input the law returns true; each argument reads behind the call as it read before'; 0 by the template 'total and deterministic' (their statements: YtbnofjpiioneiaaTotals.lean).
  GIVEN WITH THE SEED: the statements are not yours to turn. If you find one false, say at which input.
  Laid BY PROGRAM, IN A SANDBOX (cutbox-rows.mjs): the forced cells as the released guide's own fill.sh prints them over the translation 102baff1f00d07be… (all of the seat's roots in one cut). By AI agents, Wed Nov 11 2026. No macro, syntax, notation, axiom, sorry.
-/
import Derived.Test.YtbnofjpiioneiaaChecked
import GoSem.Claim
import GoSem.ClaimJoined
import GoSem.ClaimMapViews
import Derived.JoinedTies
import Derived.KernelRfl
namespace Go.Proofs.Ytbnofjpiioneiaa
/- THE CELL 'sum', in the pinned program and in every row, IS THE sha256 OF THE DUMP (.gsa) THAT YtbnofjpiioneiaaProg.lean LOADS. Nothing in Lean hashes anything: it is a label: what it is worth is what the hold of that sum in a sandbox is worth. -/
noncomputable def Try.pinned : Pinned := { name := "ytbnofjpiioneiaa", sum := "102baff1f00d07be3e059ab4d783a6d2e7777eafc546e64811fb21c3ab0f5c66", checked := Try.checked }
namespace Rows
def none {H : Type} : Left H := { results := [], args := [] }

/-- 'tidewaitlaw.VerdictTells': WHATEVER THE INPUT: true; the input reads as it did. -/
def verdictTellsSpec : ChangeSpec := { name := "verdictTells", fn := fun _ => fun
  | [d1, d2, d3] => { results := [.lit (.bool true)], args := [d1, d2, d3] }
  | _ => none }
def verdictTellsRow : OpenClaim := { program := "ytbnofjpiioneiaa", sum := "102baff1f00d07be3e059ab4d783a6d2e7777eafc546e64811fb21c3ab0f5c66", func := "tidewait/tidewaitlaw.VerdictTells", spec := "verdictTells", unfollowed := true, recurses := true, plainKeys := false, apart := false }
def VerdictTellsSaid : Prop := verdictTellsRow.holds Try.pinned (OpenSpec.ofChange verdictTellsSpec)

/-- ITS FALSE NEIGHBOUR: 'it returns false'. Refute it at one input. -/
def verdictTellsWrong : ChangeSpec := { name := "verdictTells", fn := fun _ => fun
  | [d1, d2, d3] => { results := [.lit (.bool false)], args := [d1, d2, d3] }
  | _ => none }
def VerdictTellsWrongFalsely : Prop := verdictTellsRow.holds Try.pinned (OpenSpec.ofChange verdictTellsWrong)

/-- 'tidewaitlaw.VerdictThreshold': WHATEVER THE INPUT: true; the input reads as it did. -/
def verdictThresholdSpec : ChangeSpec := { name := "verdictThreshold", fn := fun _ => fun
  | [d1, d2, d3] => { results := [.lit (.bool true)], args := [d1, d2, d3] }
  | _ => none }
def verdictThresholdRow : OpenClaim := { program := "ytbnofjpiioneiaa", sum := "102baff1f00d07be3e059ab4d783a6d2e7777eafc546e64811fb21c3ab0f5c66", func := "tidewait/tidewaitlaw.VerdictThreshold", spec := "verdictThreshold", unfollowed := true, recurses := true, plainKeys := false, apart := false }
def VerdictThresholdSaid : Prop := verdictThresholdRow.holds Try.pinned (OpenSpec.ofChange verdictThresholdSpec)

/-- ITS FALSE NEIGHBOUR: 'it returns false'. Refute it at one input. -/
def verdictThresholdWrong : ChangeSpec := { name := "verdictThreshold", fn := fun _ => fun
  | [d1, d2, d3] => { results := [.lit (.bool false)], args := [d1, d2, d3] }
  | _ => none }
def VerdictThresholdWrongFalsely : Prop := verdictThresholdRow.holds Try.pinned (OpenSpec.ofChange verdictThresholdWrong)

/-- 'tidewaitkeep.VerdictBounds': WHATEVER THE INPUT: true; the input reads as it did. -/
def verdictBoundsSpec : ChangeSpec := { name := "verdictBounds", fn := fun _ => fun
  | [d1, d2, d3, d4, d5, d6] => { results := [.lit (.bool true)], args := [d1, d2, d3, d4, d5, d6] }
  | _ => none }
def verdictBoundsRow : OpenClaim := { program := "ytbnofjpiioneiaa", sum := "102baff1f00d07be3e059ab4d783a6d2e7777eafc546e64811fb21c3ab0f5c66", func := "tidewait/tidewaitkeep.VerdictBounds", spec := "verdictBounds", unfollowed := true, recurses := true, plainKeys := false, apart := false }
def VerdictBoundsSaid : Prop := verdictBoundsRow.holds Try.pinned (OpenSpec.ofChange verdictBoundsSpec)

/-- ITS FALSE NEIGHBOUR: 'it returns false'. Refute it at one input. -/
def verdictBoundsWrong : ChangeSpec := { name := "verdictBounds", fn := fun _ => fun
  | [d1, d2, d3, d4, d5, d6] => { results := [.lit (.bool false)], args := [d1, d2, d3, d4, d5, d6] }
  | _ => none }
def VerdictBoundsWrongFalsely : Prop := verdictBoundsRow.holds Try.pinned (OpenSpec.ofChange verdictBoundsWrong)

/-- 'tidewaitkeep.VerdictStarves': WHATEVER THE INPUT: true; the input reads as it did. -/
def verdictStarvesSpec : ChangeSpec := { name := "verdictStarves", fn := fun _ => fun
  | [d1, d2, d3, d4] => { results := [.lit (.bool true)], args := [d1, d2, d3, d4] }
  | _ => none }
def verdictStarvesRow : OpenClaim := { program := "ytbnofjpiioneiaa", sum := "102baff1f00d07be3e059ab4d783a6d2e7777eafc546e64811fb21c3ab0f5c66", func := "tidewait/tidewaitkeep.VerdictStarves", spec := "verdictStarves", unfollowed := true, recurses := true, plainKeys := false, apart := false }
def VerdictStarvesSaid : Prop := verdictStarvesRow.holds Try.pinned (OpenSpec.ofChange verdictStarvesSpec)

/-- ITS FALSE NEIGHBOUR: 'it returns false'. Refute it at one input. -/
def verdictStarvesWrong : ChangeSpec := { name := "verdictStarves", fn := fun _ => fun
  | [d1, d2, d3, d4] => { results := [.lit (.bool false)], args := [d1, d2, d3, d4] }
  | _ => none }
def VerdictStarvesWrongFalsely : Prop := verdictStarvesRow.holds Try.pinned (OpenSpec.ofChange verdictStarvesWrong)

/-- 'tidewaitkeep.VerdictJitter': WHATEVER THE INPUT: true; the input reads as it did. -/
def verdictJitterSpec : ChangeSpec := { name := "verdictJitter", fn := fun _ => fun
  | [d1, d2, d3, d4, d5] => { results := [.lit (.bool true)], args := [d1, d2, d3, d4, d5] }
  | _ => none }
def verdictJitterRow : OpenClaim := { program := "ytbnofjpiioneiaa", sum := "102baff1f00d07be3e059ab4d783a6d2e7777eafc546e64811fb21c3ab0f5c66", func := "tidewait/tidewaitkeep.VerdictJitter", spec := "verdictJitter", unfollowed := true, recurses := true, plainKeys := false, apart := false }
def VerdictJitterSaid : Prop := verdictJitterRow.holds Try.pinned (OpenSpec.ofChange verdictJitterSpec)

/-- ITS FALSE NEIGHBOUR: 'it returns false'. Refute it at one input. -/
def verdictJitterWrong : ChangeSpec := { name := "verdictJitter", fn := fun _ => fun
  | [d1, d2, d3, d4, d5] => { results := [.lit (.bool false)], args := [d1, d2, d3, d4, d5] }
  | _ => none }
def VerdictJitterWrongFalsely : Prop := verdictJitterRow.holds Try.pinned (OpenSpec.ofChange verdictJitterWrong)

/-- 'tidewaitkeep.VerdictLeast': WHATEVER THE INPUT: true; the input reads as it did. -/
def verdictLeastSpec : ChangeSpec := { name := "verdictLeast", fn := fun _ => fun
  | [d1, d2, d3, d4] => { results := [.lit (.bool true)], args := [d1, d2, d3, d4] }
  | _ => none }
def verdictLeastRow : OpenClaim := { program := "ytbnofjpiioneiaa", sum := "102baff1f00d07be3e059ab4d783a6d2e7777eafc546e64811fb21c3ab0f5c66", func := "tidewait/tidewaitkeep.VerdictLeast", spec := "verdictLeast", unfollowed := true, recurses := true, plainKeys := false, apart := false }
def VerdictLeastSaid : Prop := verdictLeastRow.holds Try.pinned (OpenSpec.ofChange verdictLeastSpec)

/-- ITS FALSE NEIGHBOUR: 'it returns false'. Refute it at one input. -/
def verdictLeastWrong : ChangeSpec := { name := "verdictLeast", fn := fun _ => fun
  | [d1, d2, d3, d4] => { results := [.lit (.bool false)], args := [d1, d2, d3, d4] }
  | _ => none }
def VerdictLeastWrongFalsely : Prop := verdictLeastRow.holds Try.pinned (OpenSpec.ofChange verdictLeastWrong)

/- THE SECOND FORM. 'bulk': how many values and letters a reading holds, each counted each time it is reached (what is shared counts as often as it is met; a slice's spare places count too). A statement '..UptoSaid' is the law's where the arguments, and the package variables that the reading takes, are together of bulk at most 1048576: NARROWER than '..Said'. Prove '..Said' where nothing that the law and all that it calls make is longer than what came in: it says more and counts as full. Else prove '..UptoSaid'. A law counts once. -/
mutual
def uptoBulk {H : Type} : DataW H → Nat
  | .lit (.string bytes) => bytes.length + 1
  | .lit _ => 1
  | .nil => 1
  | .ptr d => uptoBulk d + 1
  | .slice elems spare => uptoBulkAll elems + uptoBulkAll spare + 1
  | .agg parts => uptoBulkAll parts + 1
  | .iface _ d => uptoBulk d + 1
  | .map entries => uptoBulkEntries entries + 1
  | .held _ => 1
def uptoBulkAll {H : Type} : List (DataW H) → Nat
  | [] => 0
  | d :: r => uptoBulk d + uptoBulkAll r
def uptoBulkEntries {H : Type} : List (Lit × DataW H) → Nat
  | [] => 0
  | x :: r => uptoBulkEntry x + uptoBulkEntries r
def uptoBulkEntry {H : Type} : Lit × DataW H → Nat
  | (.string bytes, d) => bytes.length + uptoBulk d + 1
  | (_, d) => uptoBulk d + 1
 end
def uptoSmall : (H : Type) → List (DataW H) → Bool := fun _ ds => decide (uptoBulkAll ds ≤ 1048576)
def OpenSpec.upto (s : _root_.Go.ChangeSpec) : _root_.Go.OpenSpec := { _root_.Go.OpenSpec.ofChange s with cond := some uptoSmall }

/-- 'tidewaitlaw.VerdictTells', WHERE WHAT IT READS IS OF BULK AT MOST 1048576: true; the input reads as it did. -/
def verdictTellsUptoRow : OpenClaim := { program := "ytbnofjpiioneiaa", sum := "102baff1f00d07be3e059ab4d783a6d2e7777eafc546e64811fb21c3ab0f5c66", func := "tidewait/tidewaitlaw.VerdictTells", spec := "verdictTells", unfollowed := true, recurses := true, plainKeys := false, apart := false, narrowed := true }
def VerdictTellsUptoSaid : Prop := verdictTellsUptoRow.holds Try.pinned (OpenSpec.upto verdictTellsSpec)

/-- 'tidewaitlaw.VerdictThreshold', WHERE WHAT IT READS IS OF BULK AT MOST 1048576: true; the input reads as it did. -/
def verdictThresholdUptoRow : OpenClaim := { program := "ytbnofjpiioneiaa", sum := "102baff1f00d07be3e059ab4d783a6d2e7777eafc546e64811fb21c3ab0f5c66", func := "tidewait/tidewaitlaw.VerdictThreshold", spec := "verdictThreshold", unfollowed := true, recurses := true, plainKeys := false, apart := false, narrowed := true }
def VerdictThresholdUptoSaid : Prop := verdictThresholdUptoRow.holds Try.pinned (OpenSpec.upto verdictThresholdSpec)

/-- 'tidewaitkeep.VerdictBounds', WHERE WHAT IT READS IS OF BULK AT MOST 1048576: true; the input reads as it did. -/
def verdictBoundsUptoRow : OpenClaim := { program := "ytbnofjpiioneiaa", sum := "102baff1f00d07be3e059ab4d783a6d2e7777eafc546e64811fb21c3ab0f5c66", func := "tidewait/tidewaitkeep.VerdictBounds", spec := "verdictBounds", unfollowed := true, recurses := true, plainKeys := false, apart := false, narrowed := true }
def VerdictBoundsUptoSaid : Prop := verdictBoundsUptoRow.holds Try.pinned (OpenSpec.upto verdictBoundsSpec)

/-- 'tidewaitkeep.VerdictStarves', WHERE WHAT IT READS IS OF BULK AT MOST 1048576: true; the input reads as it did. -/
def verdictStarvesUptoRow : OpenClaim := { program := "ytbnofjpiioneiaa", sum := "102baff1f00d07be3e059ab4d783a6d2e7777eafc546e64811fb21c3ab0f5c66", func := "tidewait/tidewaitkeep.VerdictStarves", spec := "verdictStarves", unfollowed := true, recurses := true, plainKeys := false, apart := false, narrowed := true }
def VerdictStarvesUptoSaid : Prop := verdictStarvesUptoRow.holds Try.pinned (OpenSpec.upto verdictStarvesSpec)

/-- 'tidewaitkeep.VerdictJitter', WHERE WHAT IT READS IS OF BULK AT MOST 1048576: true; the input reads as it did. -/
def verdictJitterUptoRow : OpenClaim := { program := "ytbnofjpiioneiaa", sum := "102baff1f00d07be3e059ab4d783a6d2e7777eafc546e64811fb21c3ab0f5c66", func := "tidewait/tidewaitkeep.VerdictJitter", spec := "verdictJitter", unfollowed := true, recurses := true, plainKeys := false, apart := false, narrowed := true }
def VerdictJitterUptoSaid : Prop := verdictJitterUptoRow.holds Try.pinned (OpenSpec.upto verdictJitterSpec)

/-- 'tidewaitkeep.VerdictLeast', WHERE WHAT IT READS IS OF BULK AT MOST 1048576: true; the input reads as it did. -/
def verdictLeastUptoRow : OpenClaim := { program := "ytbnofjpiioneiaa", sum := "102baff1f00d07be3e059ab4d783a6d2e7777eafc546e64811fb21c3ab0f5c66", func := "tidewait/tidewaitkeep.VerdictLeast", spec := "verdictLeast", unfollowed := true, recurses := true, plainKeys := false, apart := false, narrowed := true }
def VerdictLeastUptoSaid : Prop := verdictLeastUptoRow.holds Try.pinned (OpenSpec.upto verdictLeastSpec)

end Rows
end Go.Proofs.Ytbnofjpiioneiaa
