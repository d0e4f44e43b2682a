/-
  No cell of these rows narrows 'for every input' (looked for: loops, veiled, ifaces, maps, wideKeys, modest, calm, conditions, laid).
  DERIVED. THE GIVEN ROWS OF THIS SEAT. 6 by the template 'for every input the law returns true; each argument reads behind the call as it read before'; 0 by the template 'total and deterministic' (their statements: YtohfgaipalpncaaTotals.lean).
  GIVEN WITH THE SEED: the statements are not yours to turn. If you find one false, say at which input.
  Laid BY PROGRAM, IN A SANDBOX (cutbox-rows.mjs): the forced cells as the released guide's own fill.sh prints them over the translation 3b3d7792a1d4af70… (all of the seat's roots in one cut). By AI agents, Wed Nov 11 2026. No macro, syntax, notation, axiom, sorry.
-/
import Derived.Test.YtohfgaipalpncaaChecked
import GoSem.Claim
import GoSem.ClaimJoined
import GoSem.ClaimMapViews
import Derived.JoinedTies
import Derived.KernelRfl
namespace Go.Proofs.Ytohfgaipalpncaa
/- THE CELL 'sum', in the pinned program and in every row, IS THE sha256 OF THE DUMP (.gsa) THAT YtohfgaipalpncaaProg.lean LOADS. Nothing in Lean hashes anything: it is a label: what it is worth is what the hold of that sum in a sandbox is worth. -/
noncomputable def Try.pinned : Pinned := { name := "ytohfgaipalpncaa", sum := "3b3d7792a1d4af7087cd7eacd8f1a0ad04b459f9de9d4a63f18c58edd11910c0", checked := Try.checked }
namespace Rows
def none {H : Type} : Left H := { results := [], args := [] }

/-- 'tidewaitlaw.BucketTells': WHATEVER THE INPUT: true; the input reads as it did. -/
def bucketTellsSpec : ChangeSpec := { name := "bucketTells", fn := fun _ => fun
  | [d1, d2, d3] => { results := [.lit (.bool true)], args := [d1, d2, d3] }
  | _ => none }
def bucketTellsRow : OpenClaim := { program := "ytohfgaipalpncaa", sum := "3b3d7792a1d4af7087cd7eacd8f1a0ad04b459f9de9d4a63f18c58edd11910c0", func := "tidewait/tidewaitlaw.BucketTells", spec := "bucketTells", unfollowed := true, recurses := true, apart := false }
def BucketTellsSaid : Prop := bucketTellsRow.holds Try.pinned (OpenSpec.ofChange bucketTellsSpec)

/-- ITS FALSE NEIGHBOUR: 'it returns false'. Refute it at one input. -/
def bucketTellsWrong : ChangeSpec := { name := "bucketTells", fn := fun _ => fun
  | [d1, d2, d3] => { results := [.lit (.bool false)], args := [d1, d2, d3] }
  | _ => none }
def BucketTellsWrongFalsely : Prop := bucketTellsRow.holds Try.pinned (OpenSpec.ofChange bucketTellsWrong)

/-- 'tidewaitlaw.BucketPasses': WHATEVER THE INPUT: true; the input reads as it did. -/
def bucketPassesSpec : ChangeSpec := { name := "bucketPasses", fn := fun _ => fun
  | [d1, d2] => { results := [.lit (.bool true)], args := [d1, d2] }
  | _ => none }
def bucketPassesRow : OpenClaim := { program := "ytohfgaipalpncaa", sum := "3b3d7792a1d4af7087cd7eacd8f1a0ad04b459f9de9d4a63f18c58edd11910c0", func := "tidewait/tidewaitlaw.BucketPasses", spec := "bucketPasses", unfollowed := true, recurses := true, apart := false }
def BucketPassesSaid : Prop := bucketPassesRow.holds Try.pinned (OpenSpec.ofChange bucketPassesSpec)

/-- ITS FALSE NEIGHBOUR: 'it returns false'. Refute it at one input. -/
def bucketPassesWrong : ChangeSpec := { name := "bucketPasses", fn := fun _ => fun
  | [d1, d2] => { results := [.lit (.bool false)], args := [d1, d2] }
  | _ => none }
def BucketPassesWrongFalsely : Prop := bucketPassesRow.holds Try.pinned (OpenSpec.ofChange bucketPassesWrong)

/-- 'tidewaitkeep.BucketKeeps': WHATEVER THE INPUT: true; the input reads as it did. -/
def bucketKeepsSpec : ChangeSpec := { name := "bucketKeeps", fn := fun _ => fun
  | [d1, d2] => { results := [.lit (.bool true)], args := [d1, d2] }
  | _ => none }
def bucketKeepsRow : OpenClaim := { program := "ytohfgaipalpncaa", sum := "3b3d7792a1d4af7087cd7eacd8f1a0ad04b459f9de9d4a63f18c58edd11910c0", func := "tidewait/tidewaitkeep.BucketKeeps", spec := "bucketKeeps", unfollowed := true, recurses := true, apart := false }
def BucketKeepsSaid : Prop := bucketKeepsRow.holds Try.pinned (OpenSpec.ofChange bucketKeepsSpec)

/-- ITS FALSE NEIGHBOUR: 'it returns false'. Refute it at one input. -/
def bucketKeepsWrong : ChangeSpec := { name := "bucketKeeps", fn := fun _ => fun
  | [d1, d2] => { results := [.lit (.bool false)], args := [d1, d2] }
  | _ => none }
def BucketKeepsWrongFalsely : Prop := bucketKeepsRow.holds Try.pinned (OpenSpec.ofChange bucketKeepsWrong)

/-- 'tidewaitkeep.BucketGreedy': WHATEVER THE INPUT: true; the input reads as it did. -/
def bucketGreedySpec : ChangeSpec := { name := "bucketGreedy", fn := fun _ => fun
  | [d1, d2, d3] => { results := [.lit (.bool true)], args := [d1, d2, d3] }
  | _ => none }
def bucketGreedyRow : OpenClaim := { program := "ytohfgaipalpncaa", sum := "3b3d7792a1d4af7087cd7eacd8f1a0ad04b459f9de9d4a63f18c58edd11910c0", func := "tidewait/tidewaitkeep.BucketGreedy", spec := "bucketGreedy", unfollowed := true, recurses := true, apart := false }
def BucketGreedySaid : Prop := bucketGreedyRow.holds Try.pinned (OpenSpec.ofChange bucketGreedySpec)

/-- ITS FALSE NEIGHBOUR: 'it returns false'. Refute it at one input. -/
def bucketGreedyWrong : ChangeSpec := { name := "bucketGreedy", fn := fun _ => fun
  | [d1, d2, d3] => { results := [.lit (.bool false)], args := [d1, d2, d3] }
  | _ => none }
def BucketGreedyWrongFalsely : Prop := bucketGreedyRow.holds Try.pinned (OpenSpec.ofChange bucketGreedyWrong)

/-- 'tidewaitkeep.BucketConv': WHATEVER THE INPUT: true; the input reads as it did. -/
def bucketConvSpec : ChangeSpec := { name := "bucketConv", fn := fun _ => fun
  | [d1, d2] => { results := [.lit (.bool true)], args := [d1, d2] }
  | _ => none }
def bucketConvRow : OpenClaim := { program := "ytohfgaipalpncaa", sum := "3b3d7792a1d4af7087cd7eacd8f1a0ad04b459f9de9d4a63f18c58edd11910c0", func := "tidewait/tidewaitkeep.BucketConv", spec := "bucketConv", unfollowed := true, recurses := true, apart := false }
def BucketConvSaid : Prop := bucketConvRow.holds Try.pinned (OpenSpec.ofChange bucketConvSpec)

/-- ITS FALSE NEIGHBOUR: 'it returns false'. Refute it at one input. -/
def bucketConvWrong : ChangeSpec := { name := "bucketConv", fn := fun _ => fun
  | [d1, d2] => { results := [.lit (.bool false)], args := [d1, d2] }
  | _ => none }
def BucketConvWrongFalsely : Prop := bucketConvRow.holds Try.pinned (OpenSpec.ofChange bucketConvWrong)

/-- 'tidewaitkeep.BucketTwice': WHATEVER THE INPUT: true; the input reads as it did. -/
def bucketTwiceSpec : ChangeSpec := { name := "bucketTwice", fn := fun _ => fun
  | [d1, d2, d3] => { results := [.lit (.bool true)], args := [d1, d2, d3] }
  | _ => none }
def bucketTwiceRow : OpenClaim := { program := "ytohfgaipalpncaa", sum := "3b3d7792a1d4af7087cd7eacd8f1a0ad04b459f9de9d4a63f18c58edd11910c0", func := "tidewait/tidewaitkeep.BucketTwice", spec := "bucketTwice", unfollowed := true, recurses := true, apart := false }
def BucketTwiceSaid : Prop := bucketTwiceRow.holds Try.pinned (OpenSpec.ofChange bucketTwiceSpec)

/-- ITS FALSE NEIGHBOUR: 'it returns false'. Refute it at one input. -/
def bucketTwiceWrong : ChangeSpec := { name := "bucketTwice", fn := fun _ => fun
  | [d1, d2, d3] => { results := [.lit (.bool false)], args := [d1, d2, d3] }
  | _ => none }
def BucketTwiceWrongFalsely : Prop := bucketTwiceRow.holds Try.pinned (OpenSpec.ofChange bucketTwiceWrong)

/- THE SECOND FORM. 'bulk': how many values and letters a reading holds, each counted each time it is reached (what is shared counts as often as it is met; a slice's spare places count too). A statement '..UptoSaid' is the law's where the arguments, and the package variables that the reading takes, are together of bulk at most 1048576: NARROWER than '..Said'. Prove '..Said' where nothing that the law and all that it calls make is longer than what came in: it says more and counts as full. Else prove '..UptoSaid'. A law counts once. -/
mutual
def uptoBulk {H : Type} : DataW H → Nat
  | .lit (.string bytes) => bytes.length + 1
  | .lit _ => 1
  | .nil => 1
  | .ptr d => uptoBulk d + 1
  | .slice elems spare => uptoBulkAll elems + uptoBulkAll spare + 1
  | .agg parts => uptoBulkAll parts + 1
  | .iface _ d => uptoBulk d + 1
  | .map entries => uptoBulkEntries entries + 1
  | .held _ => 1
def uptoBulkAll {H : Type} : List (DataW H) → Nat
  | [] => 0
  | d :: r => uptoBulk d + uptoBulkAll r
def uptoBulkEntries {H : Type} : List (Lit × DataW H) → Nat
  | [] => 0
  | x :: r => uptoBulkEntry x + uptoBulkEntries r
def uptoBulkEntry {H : Type} : Lit × DataW H → Nat
  | (.string bytes, d) => bytes.length + uptoBulk d + 1
  | (_, d) => uptoBulk d + 1
 end
def uptoSmall : (H : Type) → List (DataW H) → Bool := fun _ ds => decide (uptoBulkAll ds ≤ 1048576)
def OpenSpec.upto (s : _root_.Go.ChangeSpec) : _root_.Go.OpenSpec := { _root_.Go.OpenSpec.ofChange s with cond := some uptoSmall }

/-- 'tidewaitlaw.BucketTells', WHERE WHAT IT READS IS OF BULK AT MOST 1048576: true; the input reads as it did. -/
def bucketTellsUptoRow : OpenClaim := { program := "ytohfgaipalpncaa", sum := "3b3d7792a1d4af7087cd7eacd8f1a0ad04b459f9de9d4a63f18c58edd11910c0", func := "tidewait/tidewaitlaw.BucketTells", spec := "bucketTells", unfollowed := true, recurses := true, apart := false, narrowed := true }
def BucketTellsUptoSaid : Prop := bucketTellsUptoRow.holds Try.pinned (OpenSpec.upto bucketTellsSpec)

/-- 'tidewaitlaw.BucketPasses', WHERE WHAT IT READS IS OF BULK AT MOST 1048576: true; the input reads as it did. -/
def bucketPassesUptoRow : OpenClaim := { program := "ytohfgaipalpncaa", sum := "3b3d7792a1d4af7087cd7eacd8f1a0ad04b459f9de9d4a63f18c58edd11910c0", func := "tidewait/tidewaitlaw.BucketPasses", spec := "bucketPasses", unfollowed := true, recurses := true, apart := false, narrowed := true }
def BucketPassesUptoSaid : Prop := bucketPassesUptoRow.holds Try.pinned (OpenSpec.upto bucketPassesSpec)

/-- 'tidewaitkeep.BucketKeeps', WHERE WHAT IT READS IS OF BULK AT MOST 1048576: true; the input reads as it did. -/
def bucketKeepsUptoRow : OpenClaim := { program := "ytohfgaipalpncaa", sum := "3b3d7792a1d4af7087cd7eacd8f1a0ad04b459f9de9d4a63f18c58edd11910c0", func := "tidewait/tidewaitkeep.BucketKeeps", spec := "bucketKeeps", unfollowed := true, recurses := true, apart := false, narrowed := true }
def BucketKeepsUptoSaid : Prop := bucketKeepsUptoRow.holds Try.pinned (OpenSpec.upto bucketKeepsSpec)

/-- 'tidewaitkeep.BucketGreedy', WHERE WHAT IT READS IS OF BULK AT MOST 1048576: true; the input reads as it did. -/
def bucketGreedyUptoRow : OpenClaim := { program := "ytohfgaipalpncaa", sum := "3b3d7792a1d4af7087cd7eacd8f1a0ad04b459f9de9d4a63f18c58edd11910c0", func := "tidewait/tidewaitkeep.BucketGreedy", spec := "bucketGreedy", unfollowed := true, recurses := true, apart := false, narrowed := true }
def BucketGreedyUptoSaid : Prop := bucketGreedyUptoRow.holds Try.pinned (OpenSpec.upto bucketGreedySpec)

/-- 'tidewaitkeep.BucketConv', WHERE WHAT IT READS IS OF BULK AT MOST 1048576: true; the input reads as it did. -/
def bucketConvUptoRow : OpenClaim := { program := "ytohfgaipalpncaa", sum := "3b3d7792a1d4af7087cd7eacd8f1a0ad04b459f9de9d4a63f18c58edd11910c0", func := "tidewait/tidewaitkeep.BucketConv", spec := "bucketConv", unfollowed := true, recurses := true, apart := false, narrowed := true }
def BucketConvUptoSaid : Prop := bucketConvUptoRow.holds Try.pinned (OpenSpec.upto bucketConvSpec)

/-- 'tidewaitkeep.BucketTwice', WHERE WHAT IT READS IS OF BULK AT MOST 1048576: true; the input reads as it did. -/
def bucketTwiceUptoRow : OpenClaim := { program := "ytohfgaipalpncaa", sum := "3b3d7792a1d4af7087cd7eacd8f1a0ad04b459f9de9d4a63f18c58edd11910c0", func := "tidewait/tidewaitkeep.BucketTwice", spec := "bucketTwice", unfollowed := true, recurses := true, apart := false, narrowed := true }
def BucketTwiceUptoSaid : Prop := bucketTwiceUptoRow.holds Try.pinned (OpenSpec.upto bucketTwiceSpec)

end Rows
end Go.Proofs.Ytohfgaipalpncaa
