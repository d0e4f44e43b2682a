/-
  No cell of these rows narrows 'for every input' (looked for: loops, veiled, ifaces, maps, wideKeys, modest, calm, conditions, laid).
  DERIVED. THE GIVEN ROWS OF THIS SEAT. 6 by the template 'for every input the law returns true; each argument reads behind the call as it read before'; 0 by the template 'total and deterministic' (their statements: YtmhdodlgbbaonaaTotals.lean).
  GIVEN WITH THE SEED: the statements are not yours to turn. If you find one false, say at which input.
  Laid BY PROGRAM, IN A SANDBOX (cutbox-rows.mjs): the forced cells as the released guide's own fill.sh prints them over the translation 6d6d0dc8558da6d3… (all of the seat's roots in one cut). By AI agents, Wed Nov 11 2026. No macro, syntax, notation, axiom, sorry.
-/
import Derived.Test.YtmhdodlgbbaonaaChecked
import GoSem.Claim
import GoSem.ClaimJoined
import GoSem.ClaimMapViews
import Derived.JoinedTies
import Derived.KernelRfl
namespace Go.Proofs.Ytmhdodlgbbaonaa
/- THE CELL 'sum', in the pinned program and in every row, IS THE sha256 OF THE DUMP (.gsa) THAT YtmhdodlgbbaonaaProg.lean LOADS. Nothing in Lean hashes anything: it is a label: what it is worth is what the hold of that sum in a sandbox is worth. -/
noncomputable def Try.pinned : Pinned := { name := "ytmhdodlgbbaonaa", sum := "6d6d0dc8558da6d3e90c1c4746905e5c32b833b892c17994473690bb34acd2f2", checked := Try.checked }
namespace Rows
def none {H : Type} : Left H := { results := [], args := [] }

/-- 'tidewaitlaw.QueuePlays': WHATEVER THE INPUT: true; the input reads as it did. -/
def queuePlaysSpec : ChangeSpec := { name := "queuePlays", fn := fun _ => fun
  | [d1, d2, d3] => { results := [.lit (.bool true)], args := [d1, d2, d3] }
  | _ => none }
def queuePlaysRow : OpenClaim := { program := "ytmhdodlgbbaonaa", sum := "6d6d0dc8558da6d3e90c1c4746905e5c32b833b892c17994473690bb34acd2f2", func := "tidewait/tidewaitlaw.QueuePlays", spec := "queuePlays", unfollowed := true, recurses := true, apart := false }
def QueuePlaysSaid : Prop := queuePlaysRow.holds Try.pinned (OpenSpec.ofChange queuePlaysSpec)

/-- ITS FALSE NEIGHBOUR: 'it returns false'. Refute it at one input. -/
def queuePlaysWrong : ChangeSpec := { name := "queuePlays", fn := fun _ => fun
  | [d1, d2, d3] => { results := [.lit (.bool false)], args := [d1, d2, d3] }
  | _ => none }
def QueuePlaysWrongFalsely : Prop := queuePlaysRow.holds Try.pinned (OpenSpec.ofChange queuePlaysWrong)

/-- 'tidewaitkeep.QueueSums': WHATEVER THE INPUT: true; the input reads as it did. -/
def queueSumsSpec : ChangeSpec := { name := "queueSums", fn := fun _ => fun
  | [d1, d2, d3] => { results := [.lit (.bool true)], args := [d1, d2, d3] }
  | _ => none }
def queueSumsRow : OpenClaim := { program := "ytmhdodlgbbaonaa", sum := "6d6d0dc8558da6d3e90c1c4746905e5c32b833b892c17994473690bb34acd2f2", func := "tidewait/tidewaitkeep.QueueSums", spec := "queueSums", unfollowed := true, recurses := true, apart := false }
def QueueSumsSaid : Prop := queueSumsRow.holds Try.pinned (OpenSpec.ofChange queueSumsSpec)

/-- ITS FALSE NEIGHBOUR: 'it returns false'. Refute it at one input. -/
def queueSumsWrong : ChangeSpec := { name := "queueSums", fn := fun _ => fun
  | [d1, d2, d3] => { results := [.lit (.bool false)], args := [d1, d2, d3] }
  | _ => none }
def QueueSumsWrongFalsely : Prop := queueSumsRow.holds Try.pinned (OpenSpec.ofChange queueSumsWrong)

/-- 'tidewaitkeep.QueueLindley': WHATEVER THE INPUT: true; the input reads as it did. -/
def queueLindleySpec : ChangeSpec := { name := "queueLindley", fn := fun _ => fun
  | [d1, d2] => { results := [.lit (.bool true)], args := [d1, d2] }
  | _ => none }
def queueLindleyRow : OpenClaim := { program := "ytmhdodlgbbaonaa", sum := "6d6d0dc8558da6d3e90c1c4746905e5c32b833b892c17994473690bb34acd2f2", func := "tidewait/tidewaitkeep.QueueLindley", spec := "queueLindley", unfollowed := true, recurses := true, apart := false }
def QueueLindleySaid : Prop := queueLindleyRow.holds Try.pinned (OpenSpec.ofChange queueLindleySpec)

/-- ITS FALSE NEIGHBOUR: 'it returns false'. Refute it at one input. -/
def queueLindleyWrong : ChangeSpec := { name := "queueLindley", fn := fun _ => fun
  | [d1, d2] => { results := [.lit (.bool false)], args := [d1, d2] }
  | _ => none }
def QueueLindleyWrongFalsely : Prop := queueLindleyRow.holds Try.pinned (OpenSpec.ofChange queueLindleyWrong)

/-- 'tidewaitkeep.QueueReich': WHATEVER THE INPUT: true; the input reads as it did. -/
def queueReichSpec : ChangeSpec := { name := "queueReich", fn := fun _ => fun
  | [d1, d2] => { results := [.lit (.bool true)], args := [d1, d2] }
  | _ => none }
def queueReichRow : OpenClaim := { program := "ytmhdodlgbbaonaa", sum := "6d6d0dc8558da6d3e90c1c4746905e5c32b833b892c17994473690bb34acd2f2", func := "tidewait/tidewaitkeep.QueueReich", spec := "queueReich", unfollowed := true, recurses := true, apart := false }
def QueueReichSaid : Prop := queueReichRow.holds Try.pinned (OpenSpec.ofChange queueReichSpec)

/-- ITS FALSE NEIGHBOUR: 'it returns false'. Refute it at one input. -/
def queueReichWrong : ChangeSpec := { name := "queueReich", fn := fun _ => fun
  | [d1, d2] => { results := [.lit (.bool false)], args := [d1, d2] }
  | _ => none }
def QueueReichWrongFalsely : Prop := queueReichRow.holds Try.pinned (OpenSpec.ofChange queueReichWrong)

/-- 'tidewaitkeep.QueueConv': WHATEVER THE INPUT: true; the input reads as it did. -/
def queueConvSpec : ChangeSpec := { name := "queueConv", fn := fun _ => fun
  | [d1, d2] => { results := [.lit (.bool true)], args := [d1, d2] }
  | _ => none }
def queueConvRow : OpenClaim := { program := "ytmhdodlgbbaonaa", sum := "6d6d0dc8558da6d3e90c1c4746905e5c32b833b892c17994473690bb34acd2f2", func := "tidewait/tidewaitkeep.QueueConv", spec := "queueConv", unfollowed := true, recurses := true, apart := false }
def QueueConvSaid : Prop := queueConvRow.holds Try.pinned (OpenSpec.ofChange queueConvSpec)

/-- ITS FALSE NEIGHBOUR: 'it returns false'. Refute it at one input. -/
def queueConvWrong : ChangeSpec := { name := "queueConv", fn := fun _ => fun
  | [d1, d2] => { results := [.lit (.bool false)], args := [d1, d2] }
  | _ => none }
def QueueConvWrongFalsely : Prop := queueConvRow.holds Try.pinned (OpenSpec.ofChange queueConvWrong)

/-- 'tidewaitkeep.QueueMore': WHATEVER THE INPUT: true; the input reads as it did. -/
def queueMoreSpec : ChangeSpec := { name := "queueMore", fn := fun _ => fun
  | [d1, d2, d3, d4, d5] => { results := [.lit (.bool true)], args := [d1, d2, d3, d4, d5] }
  | _ => none }
def queueMoreRow : OpenClaim := { program := "ytmhdodlgbbaonaa", sum := "6d6d0dc8558da6d3e90c1c4746905e5c32b833b892c17994473690bb34acd2f2", func := "tidewait/tidewaitkeep.QueueMore", spec := "queueMore", unfollowed := true, recurses := true, apart := false }
def QueueMoreSaid : Prop := queueMoreRow.holds Try.pinned (OpenSpec.ofChange queueMoreSpec)

/-- ITS FALSE NEIGHBOUR: 'it returns false'. Refute it at one input. -/
def queueMoreWrong : ChangeSpec := { name := "queueMore", fn := fun _ => fun
  | [d1, d2, d3, d4, d5] => { results := [.lit (.bool false)], args := [d1, d2, d3, d4, d5] }
  | _ => none }
def QueueMoreWrongFalsely : Prop := queueMoreRow.holds Try.pinned (OpenSpec.ofChange queueMoreWrong)

/- THE SECOND FORM. 'bulk': how many values and letters a reading holds, each counted each time it is reached (what is shared counts as often as it is met; a slice's spare places count too). A statement '..UptoSaid' is the law's where the arguments, and the package variables that the reading takes, are together of bulk at most 1048576: NARROWER than '..Said'. Prove '..Said' where nothing that the law and all that it calls make is longer than what came in: it says more and counts as full. Else prove '..UptoSaid'. A law counts once. -/
mutual
def uptoBulk {H : Type} : DataW H → Nat
  | .lit (.string bytes) => bytes.length + 1
  | .lit _ => 1
  | .nil => 1
  | .ptr d => uptoBulk d + 1
  | .slice elems spare => uptoBulkAll elems + uptoBulkAll spare + 1
  | .agg parts => uptoBulkAll parts + 1
  | .iface _ d => uptoBulk d + 1
  | .map entries => uptoBulkEntries entries + 1
  | .held _ => 1
def uptoBulkAll {H : Type} : List (DataW H) → Nat
  | [] => 0
  | d :: r => uptoBulk d + uptoBulkAll r
def uptoBulkEntries {H : Type} : List (Lit × DataW H) → Nat
  | [] => 0
  | x :: r => uptoBulkEntry x + uptoBulkEntries r
def uptoBulkEntry {H : Type} : Lit × DataW H → Nat
  | (.string bytes, d) => bytes.length + uptoBulk d + 1
  | (_, d) => uptoBulk d + 1
 end
def uptoSmall : (H : Type) → List (DataW H) → Bool := fun _ ds => decide (uptoBulkAll ds ≤ 1048576)
def OpenSpec.upto (s : _root_.Go.ChangeSpec) : _root_.Go.OpenSpec := { _root_.Go.OpenSpec.ofChange s with cond := some uptoSmall }

/-- 'tidewaitlaw.QueuePlays', WHERE WHAT IT READS IS OF BULK AT MOST 1048576: true; the input reads as it did. -/
def queuePlaysUptoRow : OpenClaim := { program := "ytmhdodlgbbaonaa", sum := "6d6d0dc8558da6d3e90c1c4746905e5c32b833b892c17994473690bb34acd2f2", func := "tidewait/tidewaitlaw.QueuePlays", spec := "queuePlays", unfollowed := true, recurses := true, apart := false, narrowed := true }
def QueuePlaysUptoSaid : Prop := queuePlaysUptoRow.holds Try.pinned (OpenSpec.upto queuePlaysSpec)

/-- 'tidewaitkeep.QueueSums', WHERE WHAT IT READS IS OF BULK AT MOST 1048576: true; the input reads as it did. -/
def queueSumsUptoRow : OpenClaim := { program := "ytmhdodlgbbaonaa", sum := "6d6d0dc8558da6d3e90c1c4746905e5c32b833b892c17994473690bb34acd2f2", func := "tidewait/tidewaitkeep.QueueSums", spec := "queueSums", unfollowed := true, recurses := true, apart := false, narrowed := true }
def QueueSumsUptoSaid : Prop := queueSumsUptoRow.holds Try.pinned (OpenSpec.upto queueSumsSpec)

/-- 'tidewaitkeep.QueueLindley', WHERE WHAT IT READS IS OF BULK AT MOST 1048576: true; the input reads as it did. -/
def queueLindleyUptoRow : OpenClaim := { program := "ytmhdodlgbbaonaa", sum := "6d6d0dc8558da6d3e90c1c4746905e5c32b833b892c17994473690bb34acd2f2", func := "tidewait/tidewaitkeep.QueueLindley", spec := "queueLindley", unfollowed := true, recurses := true, apart := false, narrowed := true }
def QueueLindleyUptoSaid : Prop := queueLindleyUptoRow.holds Try.pinned (OpenSpec.upto queueLindleySpec)

/-- 'tidewaitkeep.QueueReich', WHERE WHAT IT READS IS OF BULK AT MOST 1048576: true; the input reads as it did. -/
def queueReichUptoRow : OpenClaim := { program := "ytmhdodlgbbaonaa", sum := "6d6d0dc8558da6d3e90c1c4746905e5c32b833b892c17994473690bb34acd2f2", func := "tidewait/tidewaitkeep.QueueReich", spec := "queueReich", unfollowed := true, recurses := true, apart := false, narrowed := true }
def QueueReichUptoSaid : Prop := queueReichUptoRow.holds Try.pinned (OpenSpec.upto queueReichSpec)

/-- 'tidewaitkeep.QueueConv', WHERE WHAT IT READS IS OF BULK AT MOST 1048576: true; the input reads as it did. -/
def queueConvUptoRow : OpenClaim := { program := "ytmhdodlgbbaonaa", sum := "6d6d0dc8558da6d3e90c1c4746905e5c32b833b892c17994473690bb34acd2f2", func := "tidewait/tidewaitkeep.QueueConv", spec := "queueConv", unfollowed := true, recurses := true, apart := false, narrowed := true }
def QueueConvUptoSaid : Prop := queueConvUptoRow.holds Try.pinned (OpenSpec.upto queueConvSpec)

/-- 'tidewaitkeep.QueueMore', WHERE WHAT IT READS IS OF BULK AT MOST 1048576: true; the input reads as it did. -/
def queueMoreUptoRow : OpenClaim := { program := "ytmhdodlgbbaonaa", sum := "6d6d0dc8558da6d3e90c1c4746905e5c32b833b892c17994473690bb34acd2f2", func := "tidewait/tidewaitkeep.QueueMore", spec := "queueMore", unfollowed := true, recurses := true, apart := false, narrowed := true }
def QueueMoreUptoSaid : Prop := queueMoreUptoRow.holds Try.pinned (OpenSpec.upto queueMoreSpec)

end Rows
end Go.Proofs.Ytmhdodlgbbaonaa
