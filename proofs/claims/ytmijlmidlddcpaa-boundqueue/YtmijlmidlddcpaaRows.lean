/-
  No cell of these rows narrows 'for every input' (looked for: loops, veiled, ifaces, maps, wideKeys, modest, calm, conditions, laid).
  DERIVED. THE GIVEN ROWS OF THIS SEAT. 5 by the template 'for every input the law returns true; each argument reads behind the call as it read before'; 0 by the template 'total and deterministic' (their statements: YtmijlmidlddcpaaTotals.lean).
  GIVEN WITH THE SEED: the statements are not yours to turn. If you find one false, say at which input.
  Laid BY PROGRAM, IN A SANDBOX (cutbox-rows.mjs): the forced cells as the released guide's own fill.sh prints them over the translation c6a36c5f14f1744e… (all of the seat's roots in one cut). By AI agents, Wed Nov 11 2026. No macro, syntax, notation, axiom, sorry.
-/
import Derived.Test.YtmijlmidlddcpaaChecked
import GoSem.Claim
import GoSem.ClaimJoined
import GoSem.ClaimMapViews
import Derived.JoinedTies
import Derived.KernelRfl
namespace Go.Proofs.Ytmijlmidlddcpaa
/- THE CELL 'sum', in the pinned program and in every row, IS THE sha256 OF THE DUMP (.gsa) THAT YtmijlmidlddcpaaProg.lean LOADS. Nothing in Lean hashes anything: it is a label: what it is worth is what the hold of that sum in a sandbox is worth. -/
noncomputable def Try.pinned : Pinned := { name := "ytmijlmidlddcpaa", sum := "c6a36c5f14f1744e967670e11561f3960cf1b173db6224103fe6d28831218c58", checked := Try.checked }
namespace Rows
def none {H : Type} : Left H := { results := [], args := [] }

/-- 'tidewaitlaw.BoundTells': WHATEVER THE INPUT: true; the input reads as it did. -/
def boundTellsSpec : ChangeSpec := { name := "boundTells", fn := fun _ => fun
  | [d1, d2, d3, d4, d5] => { results := [.lit (.bool true)], args := [d1, d2, d3, d4, d5] }
  | _ => none }
def boundTellsRow : OpenClaim := { program := "ytmijlmidlddcpaa", sum := "c6a36c5f14f1744e967670e11561f3960cf1b173db6224103fe6d28831218c58", func := "tidewait/tidewaitlaw.BoundTells", spec := "boundTells", unfollowed := true, recurses := true, apart := false }
def BoundTellsSaid : Prop := boundTellsRow.holds Try.pinned (OpenSpec.ofChange boundTellsSpec)

/-- ITS FALSE NEIGHBOUR: 'it returns false'. Refute it at one input. -/
def boundTellsWrong : ChangeSpec := { name := "boundTells", fn := fun _ => fun
  | [d1, d2, d3, d4, d5] => { results := [.lit (.bool false)], args := [d1, d2, d3, d4, d5] }
  | _ => none }
def BoundTellsWrongFalsely : Prop := boundTellsRow.holds Try.pinned (OpenSpec.ofChange boundTellsWrong)

/-- 'tidewaitkeep.BoundKeeps': WHATEVER THE INPUT: true; the input reads as it did. -/
def boundKeepsSpec : ChangeSpec := { name := "boundKeeps", fn := fun _ => fun
  | [d1, d2, d3, d4] => { results := [.lit (.bool true)], args := [d1, d2, d3, d4] }
  | _ => none }
def boundKeepsRow : OpenClaim := { program := "ytmijlmidlddcpaa", sum := "c6a36c5f14f1744e967670e11561f3960cf1b173db6224103fe6d28831218c58", func := "tidewait/tidewaitkeep.BoundKeeps", spec := "boundKeeps", unfollowed := true, recurses := true, apart := false }
def BoundKeepsSaid : Prop := boundKeepsRow.holds Try.pinned (OpenSpec.ofChange boundKeepsSpec)

/-- ITS FALSE NEIGHBOUR: 'it returns false'. Refute it at one input. -/
def boundKeepsWrong : ChangeSpec := { name := "boundKeeps", fn := fun _ => fun
  | [d1, d2, d3, d4] => { results := [.lit (.bool false)], args := [d1, d2, d3, d4] }
  | _ => none }
def BoundKeepsWrongFalsely : Prop := boundKeepsRow.holds Try.pinned (OpenSpec.ofChange boundKeepsWrong)

/-- 'tidewaitkeep.BoundWaits': WHATEVER THE INPUT: true; the input reads as it did. -/
def boundWaitsSpec : ChangeSpec := { name := "boundWaits", fn := fun _ => fun
  | [d1, d2, d3, d4] => { results := [.lit (.bool true)], args := [d1, d2, d3, d4] }
  | _ => none }
def boundWaitsRow : OpenClaim := { program := "ytmijlmidlddcpaa", sum := "c6a36c5f14f1744e967670e11561f3960cf1b173db6224103fe6d28831218c58", func := "tidewait/tidewaitkeep.BoundWaits", spec := "boundWaits", unfollowed := true, recurses := true, apart := false }
def BoundWaitsSaid : Prop := boundWaitsRow.holds Try.pinned (OpenSpec.ofChange boundWaitsSpec)

/-- ITS FALSE NEIGHBOUR: 'it returns false'. Refute it at one input. -/
def boundWaitsWrong : ChangeSpec := { name := "boundWaits", fn := fun _ => fun
  | [d1, d2, d3, d4] => { results := [.lit (.bool false)], args := [d1, d2, d3, d4] }
  | _ => none }
def BoundWaitsWrongFalsely : Prop := boundWaitsRow.holds Try.pinned (OpenSpec.ofChange boundWaitsWrong)

/-- 'tidewaitkeep.BoundDelay': WHATEVER THE INPUT: true; the input reads as it did. -/
def boundDelaySpec : ChangeSpec := { name := "boundDelay", fn := fun _ => fun
  | [d1, d2, d3, d4] => { results := [.lit (.bool true)], args := [d1, d2, d3, d4] }
  | _ => none }
def boundDelayRow : OpenClaim := { program := "ytmijlmidlddcpaa", sum := "c6a36c5f14f1744e967670e11561f3960cf1b173db6224103fe6d28831218c58", func := "tidewait/tidewaitkeep.BoundDelay", spec := "boundDelay", unfollowed := true, recurses := true, apart := false }
def BoundDelaySaid : Prop := boundDelayRow.holds Try.pinned (OpenSpec.ofChange boundDelaySpec)

/-- ITS FALSE NEIGHBOUR: 'it returns false'. Refute it at one input. -/
def boundDelayWrong : ChangeSpec := { name := "boundDelay", fn := fun _ => fun
  | [d1, d2, d3, d4] => { results := [.lit (.bool false)], args := [d1, d2, d3, d4] }
  | _ => none }
def BoundDelayWrongFalsely : Prop := boundDelayRow.holds Try.pinned (OpenSpec.ofChange boundDelayWrong)

/-- 'tidewaitkeep.BoundQueue': WHATEVER THE INPUT: true; the input reads as it did. -/
def boundQueueSpec : ChangeSpec := { name := "boundQueue", fn := fun _ => fun
  | [d1, d2, d3] => { results := [.lit (.bool true)], args := [d1, d2, d3] }
  | _ => none }
def boundQueueRow : OpenClaim := { program := "ytmijlmidlddcpaa", sum := "c6a36c5f14f1744e967670e11561f3960cf1b173db6224103fe6d28831218c58", func := "tidewait/tidewaitkeep.BoundQueue", spec := "boundQueue", unfollowed := true, recurses := true, apart := false }
def BoundQueueSaid : Prop := boundQueueRow.holds Try.pinned (OpenSpec.ofChange boundQueueSpec)

/-- ITS FALSE NEIGHBOUR: 'it returns false'. Refute it at one input. -/
def boundQueueWrong : ChangeSpec := { name := "boundQueue", fn := fun _ => fun
  | [d1, d2, d3] => { results := [.lit (.bool false)], args := [d1, d2, d3] }
  | _ => none }
def BoundQueueWrongFalsely : Prop := boundQueueRow.holds Try.pinned (OpenSpec.ofChange boundQueueWrong)

/- THE SECOND FORM. 'bulk': how many values and letters a reading holds, each counted each time it is reached (what is shared counts as often as it is met; a slice's spare places count too). A statement '..UptoSaid' is the law's where the arguments, and the package variables that the reading takes, are together of bulk at most 1048576: NARROWER than '..Said'. Prove '..Said' where nothing that the law and all that it calls make is longer than what came in: it says more and counts as full. Else prove '..UptoSaid'. A law counts once. -/
mutual
def uptoBulk {H : Type} : DataW H → Nat
  | .lit (.string bytes) => bytes.length + 1
  | .lit _ => 1
  | .nil => 1
  | .ptr d => uptoBulk d + 1
  | .slice elems spare => uptoBulkAll elems + uptoBulkAll spare + 1
  | .agg parts => uptoBulkAll parts + 1
  | .iface _ d => uptoBulk d + 1
  | .map entries => uptoBulkEntries entries + 1
  | .held _ => 1
def uptoBulkAll {H : Type} : List (DataW H) → Nat
  | [] => 0
  | d :: r => uptoBulk d + uptoBulkAll r
def uptoBulkEntries {H : Type} : List (Lit × DataW H) → Nat
  | [] => 0
  | x :: r => uptoBulkEntry x + uptoBulkEntries r
def uptoBulkEntry {H : Type} : Lit × DataW H → Nat
  | (.string bytes, d) => bytes.length + uptoBulk d + 1
  | (_, d) => uptoBulk d + 1
 end
def uptoSmall : (H : Type) → List (DataW H) → Bool := fun _ ds => decide (uptoBulkAll ds ≤ 1048576)
def OpenSpec.upto (s : _root_.Go.ChangeSpec) : _root_.Go.OpenSpec := { _root_.Go.OpenSpec.ofChange s with cond := some uptoSmall }

/-- 'tidewaitlaw.BoundTells', WHERE WHAT IT READS IS OF BULK AT MOST 1048576: true; the input reads as it did. -/
def boundTellsUptoRow : OpenClaim := { program := "ytmijlmidlddcpaa", sum := "c6a36c5f14f1744e967670e11561f3960cf1b173db6224103fe6d28831218c58", func := "tidewait/tidewaitlaw.BoundTells", spec := "boundTells", unfollowed := true, recurses := true, apart := false, narrowed := true }
def BoundTellsUptoSaid : Prop := boundTellsUptoRow.holds Try.pinned (OpenSpec.upto boundTellsSpec)

/-- 'tidewaitkeep.BoundKeeps', WHERE WHAT IT READS IS OF BULK AT MOST 1048576: true; the input reads as it did. -/
def boundKeepsUptoRow : OpenClaim := { program := "ytmijlmidlddcpaa", sum := "c6a36c5f14f1744e967670e11561f3960cf1b173db6224103fe6d28831218c58", func := "tidewait/tidewaitkeep.BoundKeeps", spec := "boundKeeps", unfollowed := true, recurses := true, apart := false, narrowed := true }
def BoundKeepsUptoSaid : Prop := boundKeepsUptoRow.holds Try.pinned (OpenSpec.upto boundKeepsSpec)

/-- 'tidewaitkeep.BoundWaits', WHERE WHAT IT READS IS OF BULK AT MOST 1048576: true; the input reads as it did. -/
def boundWaitsUptoRow : OpenClaim := { program := "ytmijlmidlddcpaa", sum := "c6a36c5f14f1744e967670e11561f3960cf1b173db6224103fe6d28831218c58", func := "tidewait/tidewaitkeep.BoundWaits", spec := "boundWaits", unfollowed := true, recurses := true, apart := false, narrowed := true }
def BoundWaitsUptoSaid : Prop := boundWaitsUptoRow.holds Try.pinned (OpenSpec.upto boundWaitsSpec)

/-- 'tidewaitkeep.BoundDelay', WHERE WHAT IT READS IS OF BULK AT MOST 1048576: true; the input reads as it did. -/
def boundDelayUptoRow : OpenClaim := { program := "ytmijlmidlddcpaa", sum := "c6a36c5f14f1744e967670e11561f3960cf1b173db6224103fe6d28831218c58", func := "tidewait/tidewaitkeep.BoundDelay", spec := "boundDelay", unfollowed := true, recurses := true, apart := false, narrowed := true }
def BoundDelayUptoSaid : Prop := boundDelayUptoRow.holds Try.pinned (OpenSpec.upto boundDelaySpec)

/-- 'tidewaitkeep.BoundQueue', WHERE WHAT IT READS IS OF BULK AT MOST 1048576: true; the input reads as it did. -/
def boundQueueUptoRow : OpenClaim := { program := "ytmijlmidlddcpaa", sum := "c6a36c5f14f1744e967670e11561f3960cf1b173db6224103fe6d28831218c58", func := "tidewait/tidewaitkeep.BoundQueue", spec := "boundQueue", unfollowed := true, recurses := true, apart := false, narrowed := true }
def BoundQueueUptoSaid : Prop := boundQueueUptoRow.holds Try.pinned (OpenSpec.upto boundQueueSpec)

end Rows
end Go.Proofs.Ytmijlmidlddcpaa
