/-
  No cell of these rows narrows 'for every input' (looked for: loops, veiled, ifaces, maps, wideKeys, modest, calm, conditions, laid).
  DERIVED. THE GIVEN ROWS OF THIS SEAT. 5 by the template 'for every input the law returns true; each argument reads behind the call as it read before'; 0 by the template 'total and deterministic' (their statements: YtdnhanaeamnddaaTotals.lean).
  GIVEN WITH THE SEED: the statements are not yours to turn. If you find one false, say at which input.
  Laid BY PROGRAM, IN A SANDBOX (cutbox-rows.mjs): the forced cells as the released guide's own fill.sh prints them over the translation 5edc4dc24177c435… (all of the seat's roots in one cut). By AI agents, Wed Nov 11 2026. No macro, syntax, notation, axiom, sorry.
-/
import Derived.Test.YtdnhanaeamnddaaChecked
import GoSem.Claim
import GoSem.ClaimJoined
import GoSem.ClaimMapViews
import Derived.JoinedTies
import Derived.KernelRfl
namespace Go.Proofs.Ytdnhanaeamnddaa
/- THE CELL 'sum', in the pinned program and in every row, IS THE sha256 OF THE DUMP (.gsa) THAT YtdnhanaeamnddaaProg.lean LOADS. Nothing in Lean hashes anything: it is a label: what it is worth is what the hold of that sum in a sandbox is worth. -/
noncomputable def Try.pinned : Pinned := { name := "ytdnhanaeamnddaa", sum := "5edc4dc24177c4359275e475b67a69b5647cf59ae8c9b3a0cf4394c3ca56f901", checked := Try.checked }
namespace Rows
def none {H : Type} : Left H := { results := [], args := [] }

/-- 'tidewaitlaw.WindowTells': WHATEVER THE INPUT: true; the input reads as it did. -/
def windowTellsSpec : ChangeSpec := { name := "windowTells", fn := fun _ => fun
  | [d1, d2, d3, d4] => { results := [.lit (.bool true)], args := [d1, d2, d3, d4] }
  | _ => none }
def windowTellsRow : OpenClaim := { program := "ytdnhanaeamnddaa", sum := "5edc4dc24177c4359275e475b67a69b5647cf59ae8c9b3a0cf4394c3ca56f901", func := "tidewait/tidewaitlaw.WindowTells", spec := "windowTells", unfollowed := true, recurses := true, apart := false }
def WindowTellsSaid : Prop := windowTellsRow.holds Try.pinned (OpenSpec.ofChange windowTellsSpec)

/-- ITS FALSE NEIGHBOUR: 'it returns false'. Refute it at one input. -/
def windowTellsWrong : ChangeSpec := { name := "windowTells", fn := fun _ => fun
  | [d1, d2, d3, d4] => { results := [.lit (.bool false)], args := [d1, d2, d3, d4] }
  | _ => none }
def WindowTellsWrongFalsely : Prop := windowTellsRow.holds Try.pinned (OpenSpec.ofChange windowTellsWrong)

/-- 'tidewaitkeep.WindowTwice': WHATEVER THE INPUT: true; the input reads as it did. -/
def windowTwiceSpec : ChangeSpec := { name := "windowTwice", fn := fun _ => fun
  | [d1, d2, d3] => { results := [.lit (.bool true)], args := [d1, d2, d3] }
  | _ => none }
def windowTwiceRow : OpenClaim := { program := "ytdnhanaeamnddaa", sum := "5edc4dc24177c4359275e475b67a69b5647cf59ae8c9b3a0cf4394c3ca56f901", func := "tidewait/tidewaitkeep.WindowTwice", spec := "windowTwice", unfollowed := true, recurses := true, apart := false }
def WindowTwiceSaid : Prop := windowTwiceRow.holds Try.pinned (OpenSpec.ofChange windowTwiceSpec)

/-- ITS FALSE NEIGHBOUR: 'it returns false'. Refute it at one input. -/
def windowTwiceWrong : ChangeSpec := { name := "windowTwice", fn := fun _ => fun
  | [d1, d2, d3] => { results := [.lit (.bool false)], args := [d1, d2, d3] }
  | _ => none }
def WindowTwiceWrongFalsely : Prop := windowTwiceRow.holds Try.pinned (OpenSpec.ofChange windowTwiceWrong)

/-- 'tidewaitkeep.WindowTurned': WHATEVER THE INPUT: true; the input reads as it did. -/
def windowTurnedSpec : ChangeSpec := { name := "windowTurned", fn := fun _ => fun
  | [d1, d2] => { results := [.lit (.bool true)], args := [d1, d2] }
  | _ => none }
def windowTurnedRow : OpenClaim := { program := "ytdnhanaeamnddaa", sum := "5edc4dc24177c4359275e475b67a69b5647cf59ae8c9b3a0cf4394c3ca56f901", func := "tidewait/tidewaitkeep.WindowTurned", spec := "windowTurned", unfollowed := true, recurses := true, apart := false }
def WindowTurnedSaid : Prop := windowTurnedRow.holds Try.pinned (OpenSpec.ofChange windowTurnedSpec)

/-- ITS FALSE NEIGHBOUR: 'it returns false'. Refute it at one input. -/
def windowTurnedWrong : ChangeSpec := { name := "windowTurned", fn := fun _ => fun
  | [d1, d2] => { results := [.lit (.bool false)], args := [d1, d2] }
  | _ => none }
def WindowTurnedWrongFalsely : Prop := windowTurnedRow.holds Try.pinned (OpenSpec.ofChange windowTurnedWrong)

/-- 'tidewaitkeep.WindowBase': WHATEVER THE INPUT: true; the input reads as it did. -/
def windowBaseSpec : ChangeSpec := { name := "windowBase", fn := fun _ => fun
  | [d1, d2, d3] => { results := [.lit (.bool true)], args := [d1, d2, d3] }
  | _ => none }
def windowBaseRow : OpenClaim := { program := "ytdnhanaeamnddaa", sum := "5edc4dc24177c4359275e475b67a69b5647cf59ae8c9b3a0cf4394c3ca56f901", func := "tidewait/tidewaitkeep.WindowBase", spec := "windowBase", unfollowed := true, recurses := true, apart := false }
def WindowBaseSaid : Prop := windowBaseRow.holds Try.pinned (OpenSpec.ofChange windowBaseSpec)

/-- ITS FALSE NEIGHBOUR: 'it returns false'. Refute it at one input. -/
def windowBaseWrong : ChangeSpec := { name := "windowBase", fn := fun _ => fun
  | [d1, d2, d3] => { results := [.lit (.bool false)], args := [d1, d2, d3] }
  | _ => none }
def WindowBaseWrongFalsely : Prop := windowBaseRow.holds Try.pinned (OpenSpec.ofChange windowBaseWrong)

/-- 'tidewaitkeep.WindowMore': WHATEVER THE INPUT: true; the input reads as it did. -/
def windowMoreSpec : ChangeSpec := { name := "windowMore", fn := fun _ => fun
  | [d1, d2, d3] => { results := [.lit (.bool true)], args := [d1, d2, d3] }
  | _ => none }
def windowMoreRow : OpenClaim := { program := "ytdnhanaeamnddaa", sum := "5edc4dc24177c4359275e475b67a69b5647cf59ae8c9b3a0cf4394c3ca56f901", func := "tidewait/tidewaitkeep.WindowMore", spec := "windowMore", unfollowed := true, recurses := true, apart := false }
def WindowMoreSaid : Prop := windowMoreRow.holds Try.pinned (OpenSpec.ofChange windowMoreSpec)

/-- ITS FALSE NEIGHBOUR: 'it returns false'. Refute it at one input. -/
def windowMoreWrong : ChangeSpec := { name := "windowMore", fn := fun _ => fun
  | [d1, d2, d3] => { results := [.lit (.bool false)], args := [d1, d2, d3] }
  | _ => none }
def WindowMoreWrongFalsely : Prop := windowMoreRow.holds Try.pinned (OpenSpec.ofChange windowMoreWrong)

/- THE SECOND FORM. 'bulk': how many values and letters a reading holds, each counted each time it is reached (what is shared counts as often as it is met; a slice's spare places count too). A statement '..UptoSaid' is the law's where the arguments, and the package variables that the reading takes, are together of bulk at most 1048576: NARROWER than '..Said'. Prove '..Said' where nothing that the law and all that it calls make is longer than what came in: it says more and counts as full. Else prove '..UptoSaid'. A law counts once. -/
mutual
def uptoBulk {H : Type} : DataW H → Nat
  | .lit (.string bytes) => bytes.length + 1
  | .lit _ => 1
  | .nil => 1
  | .ptr d => uptoBulk d + 1
  | .slice elems spare => uptoBulkAll elems + uptoBulkAll spare + 1
  | .agg parts => uptoBulkAll parts + 1
  | .iface _ d => uptoBulk d + 1
  | .map entries => uptoBulkEntries entries + 1
  | .held _ => 1
def uptoBulkAll {H : Type} : List (DataW H) → Nat
  | [] => 0
  | d :: r => uptoBulk d + uptoBulkAll r
def uptoBulkEntries {H : Type} : List (Lit × DataW H) → Nat
  | [] => 0
  | x :: r => uptoBulkEntry x + uptoBulkEntries r
def uptoBulkEntry {H : Type} : Lit × DataW H → Nat
  | (.string bytes, d) => bytes.length + uptoBulk d + 1
  | (_, d) => uptoBulk d + 1
 end
def uptoSmall : (H : Type) → List (DataW H) → Bool := fun _ ds => decide (uptoBulkAll ds ≤ 1048576)
def OpenSpec.upto (s : _root_.Go.ChangeSpec) : _root_.Go.OpenSpec := { _root_.Go.OpenSpec.ofChange s with cond := some uptoSmall }

/-- 'tidewaitlaw.WindowTells', WHERE WHAT IT READS IS OF BULK AT MOST 1048576: true; the input reads as it did. -/
def windowTellsUptoRow : OpenClaim := { program := "ytdnhanaeamnddaa", sum := "5edc4dc24177c4359275e475b67a69b5647cf59ae8c9b3a0cf4394c3ca56f901", func := "tidewait/tidewaitlaw.WindowTells", spec := "windowTells", unfollowed := true, recurses := true, apart := false, narrowed := true }
def WindowTellsUptoSaid : Prop := windowTellsUptoRow.holds Try.pinned (OpenSpec.upto windowTellsSpec)

/-- 'tidewaitkeep.WindowTwice', WHERE WHAT IT READS IS OF BULK AT MOST 1048576: true; the input reads as it did. -/
def windowTwiceUptoRow : OpenClaim := { program := "ytdnhanaeamnddaa", sum := "5edc4dc24177c4359275e475b67a69b5647cf59ae8c9b3a0cf4394c3ca56f901", func := "tidewait/tidewaitkeep.WindowTwice", spec := "windowTwice", unfollowed := true, recurses := true, apart := false, narrowed := true }
def WindowTwiceUptoSaid : Prop := windowTwiceUptoRow.holds Try.pinned (OpenSpec.upto windowTwiceSpec)

/-- 'tidewaitkeep.WindowTurned', WHERE WHAT IT READS IS OF BULK AT MOST 1048576: true; the input reads as it did. -/
def windowTurnedUptoRow : OpenClaim := { program := "ytdnhanaeamnddaa", sum := "5edc4dc24177c4359275e475b67a69b5647cf59ae8c9b3a0cf4394c3ca56f901", func := "tidewait/tidewaitkeep.WindowTurned", spec := "windowTurned", unfollowed := true, recurses := true, apart := false, narrowed := true }
def WindowTurnedUptoSaid : Prop := windowTurnedUptoRow.holds Try.pinned (OpenSpec.upto windowTurnedSpec)

/-- 'tidewaitkeep.WindowBase', WHERE WHAT IT READS IS OF BULK AT MOST 1048576: true; the input reads as it did. -/
def windowBaseUptoRow : OpenClaim := { program := "ytdnhanaeamnddaa", sum := "5edc4dc24177c4359275e475b67a69b5647cf59ae8c9b3a0cf4394c3ca56f901", func := "tidewait/tidewaitkeep.WindowBase", spec := "windowBase", unfollowed := true, recurses := true, apart := false, narrowed := true }
def WindowBaseUptoSaid : Prop := windowBaseUptoRow.holds Try.pinned (OpenSpec.upto windowBaseSpec)

/-- 'tidewaitkeep.WindowMore', WHERE WHAT IT READS IS OF BULK AT MOST 1048576: true; the input reads as it did. -/
def windowMoreUptoRow : OpenClaim := { program := "ytdnhanaeamnddaa", sum := "5edc4dc24177c4359275e475b67a69b5647cf59ae8c9b3a0cf4394c3ca56f901", func := "tidewait/tidewaitkeep.WindowMore", spec := "windowMore", unfollowed := true, recurses := true, apart := false, narrowed := true }
def WindowMoreUptoSaid : Prop := windowMoreUptoRow.holds Try.pinned (OpenSpec.upto windowMoreSpec)

end Rows
end Go.Proofs.Ytdnhanaeamnddaa
