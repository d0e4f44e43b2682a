/-
  No cell of these rows narrows 'for every input' (looked for: loops, veiled, ifaces, maps, wideKeys, modest, calm, conditions, laid).
  DERIVED. THE GIVEN ROWS OF THIS SEAT. 4 by the template 'for every input the law returns true; each argument reads behind the call as it read before'; 0 by the template 'total and deterministic' (their statements: YtolijbhokaieeaaTotals.lean).
  GIVEN WITH THE SEED: the statements are not yours to turn. If you find one false, say at which input.
  Laid BY PROGRAM, IN A SANDBOX (cutbox-rows.mjs): the forced cells as the released guide's own fill.sh prints them over the translation bad1eb3e37103f6c… (all of the seat's roots in one cut). By AI agents, Wed Nov 11 2026. No macro, syntax, notation, axiom, sorry.
-/
import Derived.Test.YtolijbhokaieeaaChecked
import GoSem.Claim
import GoSem.ClaimJoined
import GoSem.ClaimMapViews
import Derived.JoinedTies
import Derived.KernelRfl
namespace Go.Proofs.Ytolijbhokaieeaa
/- THE CELL 'sum', in the pinned program and in every row, IS THE sha256 OF THE DUMP (.gsa) THAT YtolijbhokaieeaaProg.lean LOADS. Nothing in Lean hashes anything: it is a label: what it is worth is what the hold of that sum in a sandbox is worth. -/
noncomputable def Try.pinned : Pinned := { name := "ytolijbhokaieeaa", sum := "bad1eb3e37103f6c2e912623cf16a7e8ed4be1a6b6c9a7e5d6a960cc9faf0d60", checked := Try.checked }
namespace Rows
def none {H : Type} : Left H := { results := [], args := [] }

/-- 'tidewaitlaw.JitterTells': WHATEVER THE INPUT: true; the input reads as it did. -/
def jitterTellsSpec : ChangeSpec := { name := "jitterTells", fn := fun _ => fun
  | [d1, d2] => { results := [.lit (.bool true)], args := [d1, d2] }
  | _ => none }
def jitterTellsRow : OpenClaim := { program := "ytolijbhokaieeaa", sum := "bad1eb3e37103f6c2e912623cf16a7e8ed4be1a6b6c9a7e5d6a960cc9faf0d60", func := "tidewait/tidewaitlaw.JitterTells", spec := "jitterTells", unfollowed := true, recurses := true, apart := false }
def JitterTellsSaid : Prop := jitterTellsRow.holds Try.pinned (OpenSpec.ofChange jitterTellsSpec)

/-- ITS FALSE NEIGHBOUR: 'it returns false'. Refute it at one input. -/
def jitterTellsWrong : ChangeSpec := { name := "jitterTells", fn := fun _ => fun
  | [d1, d2] => { results := [.lit (.bool false)], args := [d1, d2] }
  | _ => none }
def JitterTellsWrongFalsely : Prop := jitterTellsRow.holds Try.pinned (OpenSpec.ofChange jitterTellsWrong)

/-- 'tidewaitkeep.JitterOrder': WHATEVER THE INPUT: true; the input reads as it did. -/
def jitterOrderSpec : ChangeSpec := { name := "jitterOrder", fn := fun _ => fun
  | [d1, d2] => { results := [.lit (.bool true)], args := [d1, d2] }
  | _ => none }
def jitterOrderRow : OpenClaim := { program := "ytolijbhokaieeaa", sum := "bad1eb3e37103f6c2e912623cf16a7e8ed4be1a6b6c9a7e5d6a960cc9faf0d60", func := "tidewait/tidewaitkeep.JitterOrder", spec := "jitterOrder", unfollowed := true, recurses := true, apart := false }
def JitterOrderSaid : Prop := jitterOrderRow.holds Try.pinned (OpenSpec.ofChange jitterOrderSpec)

/-- ITS FALSE NEIGHBOUR: 'it returns false'. Refute it at one input. -/
def jitterOrderWrong : ChangeSpec := { name := "jitterOrder", fn := fun _ => fun
  | [d1, d2] => { results := [.lit (.bool false)], args := [d1, d2] }
  | _ => none }
def JitterOrderWrongFalsely : Prop := jitterOrderRow.holds Try.pinned (OpenSpec.ofChange jitterOrderWrong)

/-- 'tidewaitkeep.JitterTwice': WHATEVER THE INPUT: true; the input reads as it did. -/
def jitterTwiceSpec : ChangeSpec := { name := "jitterTwice", fn := fun _ => fun
  | [d1, d2, d3] => { results := [.lit (.bool true)], args := [d1, d2, d3] }
  | _ => none }
def jitterTwiceRow : OpenClaim := { program := "ytolijbhokaieeaa", sum := "bad1eb3e37103f6c2e912623cf16a7e8ed4be1a6b6c9a7e5d6a960cc9faf0d60", func := "tidewait/tidewaitkeep.JitterTwice", spec := "jitterTwice", unfollowed := true, recurses := true, apart := false }
def JitterTwiceSaid : Prop := jitterTwiceRow.holds Try.pinned (OpenSpec.ofChange jitterTwiceSpec)

/-- ITS FALSE NEIGHBOUR: 'it returns false'. Refute it at one input. -/
def jitterTwiceWrong : ChangeSpec := { name := "jitterTwice", fn := fun _ => fun
  | [d1, d2, d3] => { results := [.lit (.bool false)], args := [d1, d2, d3] }
  | _ => none }
def JitterTwiceWrongFalsely : Prop := jitterTwiceRow.holds Try.pinned (OpenSpec.ofChange jitterTwiceWrong)

/-- 'tidewaitkeep.JitterLater': WHATEVER THE INPUT: true; the input reads as it did. -/
def jitterLaterSpec : ChangeSpec := { name := "jitterLater", fn := fun _ => fun
  | [d1, d2, d3] => { results := [.lit (.bool true)], args := [d1, d2, d3] }
  | _ => none }
def jitterLaterRow : OpenClaim := { program := "ytolijbhokaieeaa", sum := "bad1eb3e37103f6c2e912623cf16a7e8ed4be1a6b6c9a7e5d6a960cc9faf0d60", func := "tidewait/tidewaitkeep.JitterLater", spec := "jitterLater", unfollowed := true, recurses := true, apart := false }
def JitterLaterSaid : Prop := jitterLaterRow.holds Try.pinned (OpenSpec.ofChange jitterLaterSpec)

/-- ITS FALSE NEIGHBOUR: 'it returns false'. Refute it at one input. -/
def jitterLaterWrong : ChangeSpec := { name := "jitterLater", fn := fun _ => fun
  | [d1, d2, d3] => { results := [.lit (.bool false)], args := [d1, d2, d3] }
  | _ => none }
def JitterLaterWrongFalsely : Prop := jitterLaterRow.holds Try.pinned (OpenSpec.ofChange jitterLaterWrong)

/- THE SECOND FORM. 'bulk': how many values and letters a reading holds, each counted each time it is reached (what is shared counts as often as it is met; a slice's spare places count too). A statement '..UptoSaid' is the law's where the arguments, and the package variables that the reading takes, are together of bulk at most 1048576: NARROWER than '..Said'. Prove '..Said' where nothing that the law and all that it calls make is longer than what came in: it says more and counts as full. Else prove '..UptoSaid'. A law counts once. -/
mutual
def uptoBulk {H : Type} : DataW H → Nat
  | .lit (.string bytes) => bytes.length + 1
  | .lit _ => 1
  | .nil => 1
  | .ptr d => uptoBulk d + 1
  | .slice elems spare => uptoBulkAll elems + uptoBulkAll spare + 1
  | .agg parts => uptoBulkAll parts + 1
  | .iface _ d => uptoBulk d + 1
  | .map entries => uptoBulkEntries entries + 1
  | .held _ => 1
def uptoBulkAll {H : Type} : List (DataW H) → Nat
  | [] => 0
  | d :: r => uptoBulk d + uptoBulkAll r
def uptoBulkEntries {H : Type} : List (Lit × DataW H) → Nat
  | [] => 0
  | x :: r => uptoBulkEntry x + uptoBulkEntries r
def uptoBulkEntry {H : Type} : Lit × DataW H → Nat
  | (.string bytes, d) => bytes.length + uptoBulk d + 1
  | (_, d) => uptoBulk d + 1
 end
def uptoSmall : (H : Type) → List (DataW H) → Bool := fun _ ds => decide (uptoBulkAll ds ≤ 1048576)
def OpenSpec.upto (s : _root_.Go.ChangeSpec) : _root_.Go.OpenSpec := { _root_.Go.OpenSpec.ofChange s with cond := some uptoSmall }

/-- 'tidewaitlaw.JitterTells', WHERE WHAT IT READS IS OF BULK AT MOST 1048576: true; the input reads as it did. -/
def jitterTellsUptoRow : OpenClaim := { program := "ytolijbhokaieeaa", sum := "bad1eb3e37103f6c2e912623cf16a7e8ed4be1a6b6c9a7e5d6a960cc9faf0d60", func := "tidewait/tidewaitlaw.JitterTells", spec := "jitterTells", unfollowed := true, recurses := true, apart := false, narrowed := true }
def JitterTellsUptoSaid : Prop := jitterTellsUptoRow.holds Try.pinned (OpenSpec.upto jitterTellsSpec)

/-- 'tidewaitkeep.JitterOrder', WHERE WHAT IT READS IS OF BULK AT MOST 1048576: true; the input reads as it did. -/
def jitterOrderUptoRow : OpenClaim := { program := "ytolijbhokaieeaa", sum := "bad1eb3e37103f6c2e912623cf16a7e8ed4be1a6b6c9a7e5d6a960cc9faf0d60", func := "tidewait/tidewaitkeep.JitterOrder", spec := "jitterOrder", unfollowed := true, recurses := true, apart := false, narrowed := true }
def JitterOrderUptoSaid : Prop := jitterOrderUptoRow.holds Try.pinned (OpenSpec.upto jitterOrderSpec)

/-- 'tidewaitkeep.JitterTwice', WHERE WHAT IT READS IS OF BULK AT MOST 1048576: true; the input reads as it did. -/
def jitterTwiceUptoRow : OpenClaim := { program := "ytolijbhokaieeaa", sum := "bad1eb3e37103f6c2e912623cf16a7e8ed4be1a6b6c9a7e5d6a960cc9faf0d60", func := "tidewait/tidewaitkeep.JitterTwice", spec := "jitterTwice", unfollowed := true, recurses := true, apart := false, narrowed := true }
def JitterTwiceUptoSaid : Prop := jitterTwiceUptoRow.holds Try.pinned (OpenSpec.upto jitterTwiceSpec)

/-- 'tidewaitkeep.JitterLater', WHERE WHAT IT READS IS OF BULK AT MOST 1048576: true; the input reads as it did. -/
def jitterLaterUptoRow : OpenClaim := { program := "ytolijbhokaieeaa", sum := "bad1eb3e37103f6c2e912623cf16a7e8ed4be1a6b6c9a7e5d6a960cc9faf0d60", func := "tidewait/tidewaitkeep.JitterLater", spec := "jitterLater", unfollowed := true, recurses := true, apart := false, narrowed := true }
def JitterLaterUptoSaid : Prop := jitterLaterUptoRow.holds Try.pinned (OpenSpec.upto jitterLaterSpec)

end Rows
end Go.Proofs.Ytolijbhokaieeaa
