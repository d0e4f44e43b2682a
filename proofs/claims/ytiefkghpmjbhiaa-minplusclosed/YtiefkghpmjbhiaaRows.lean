/-
  No cell of these rows narrows 'for every input' (looked for: loops, veiled, ifaces, maps, wideKeys, modest, calm, conditions, laid).
  DERIVED. THE GIVEN ROWS OF THIS SEAT. 6 by the template 'for every input the law returns true; each argument reads behind the call as it read before'; 0 by the template 'total and deterministic' (their statements: YtiefkghpmjbhiaaTotals.lean).
  GIVEN WITH THE SEED: the statements are not yours to turn. If you find one false, say at which input.
  Laid BY PROGRAM, IN A SANDBOX (cutbox-rows.mjs): the forced cells as the released guide's own fill.sh prints them over the translation 644a3a75968578b3… (all of the seat's roots in one cut). By AI agents, Wed Nov 11 2026. No macro, syntax, notation, axiom, sorry.
-/
import Derived.Test.YtiefkghpmjbhiaaChecked
import GoSem.Claim
import GoSem.ClaimJoined
import GoSem.ClaimMapViews
import Derived.JoinedTies
import Derived.KernelRfl
namespace Go.Proofs.Ytiefkghpmjbhiaa
/- THE CELL 'sum', in the pinned program and in every row, IS THE sha256 OF THE DUMP (.gsa) THAT YtiefkghpmjbhiaaProg.lean LOADS. Nothing in Lean hashes anything: it is a label: what it is worth is what the hold of that sum in a sandbox is worth. -/
noncomputable def Try.pinned : Pinned := { name := "ytiefkghpmjbhiaa", sum := "644a3a75968578b3331f985b4054345fa97b6dcc0890737bde9d04b9aa8eb3b0", checked := Try.checked }
namespace Rows
def none {H : Type} : Left H := { results := [], args := [] }

/-- 'tidewaitlaw.MinplusTells': WHATEVER THE INPUT: true; the input reads as it did. -/
def minplusTellsSpec : ChangeSpec := { name := "minplusTells", fn := fun _ => fun
  | [d1, d2, d3] => { results := [.lit (.bool true)], args := [d1, d2, d3] }
  | _ => none }
def minplusTellsRow : OpenClaim := { program := "ytiefkghpmjbhiaa", sum := "644a3a75968578b3331f985b4054345fa97b6dcc0890737bde9d04b9aa8eb3b0", func := "tidewait/tidewaitlaw.MinplusTells", spec := "minplusTells", apart := false }
def MinplusTellsSaid : Prop := minplusTellsRow.holds Try.pinned (OpenSpec.ofChange minplusTellsSpec)

/-- ITS FALSE NEIGHBOUR: 'it returns false'. Refute it at one input. -/
def minplusTellsWrong : ChangeSpec := { name := "minplusTells", fn := fun _ => fun
  | [d1, d2, d3] => { results := [.lit (.bool false)], args := [d1, d2, d3] }
  | _ => none }
def MinplusTellsWrongFalsely : Prop := minplusTellsRow.holds Try.pinned (OpenSpec.ofChange minplusTellsWrong)

/-- 'tidewaitlaw.MinplusClose': WHATEVER THE INPUT: true; the input reads as it did. -/
def minplusCloseSpec : ChangeSpec := { name := "minplusClose", fn := fun _ => fun
  | [d] => { results := [.lit (.bool true)], args := [d] }
  | _ => none }
def minplusCloseRow : OpenClaim := { program := "ytiefkghpmjbhiaa", sum := "644a3a75968578b3331f985b4054345fa97b6dcc0890737bde9d04b9aa8eb3b0", func := "tidewait/tidewaitlaw.MinplusClose", spec := "minplusClose", unfollowed := true, recurses := true, apart := false }
def MinplusCloseSaid : Prop := minplusCloseRow.holds Try.pinned (OpenSpec.ofChange minplusCloseSpec)

/-- ITS FALSE NEIGHBOUR: 'it returns false'. Refute it at one input. -/
def minplusCloseWrong : ChangeSpec := { name := "minplusClose", fn := fun _ => fun
  | [d] => { results := [.lit (.bool false)], args := [d] }
  | _ => none }
def MinplusCloseWrongFalsely : Prop := minplusCloseRow.holds Try.pinned (OpenSpec.ofChange minplusCloseWrong)

/-- 'tidewaitkeep.MinplusRing': WHATEVER THE INPUT: true; the input reads as it did. -/
def minplusRingSpec : ChangeSpec := { name := "minplusRing", fn := fun _ => fun
  | [d1, d2, d3] => { results := [.lit (.bool true)], args := [d1, d2, d3] }
  | _ => none }
def minplusRingRow : OpenClaim := { program := "ytiefkghpmjbhiaa", sum := "644a3a75968578b3331f985b4054345fa97b6dcc0890737bde9d04b9aa8eb3b0", func := "tidewait/tidewaitkeep.MinplusRing", spec := "minplusRing", unfollowed := true, recurses := true, apart := false }
def MinplusRingSaid : Prop := minplusRingRow.holds Try.pinned (OpenSpec.ofChange minplusRingSpec)

/-- ITS FALSE NEIGHBOUR: 'it returns false'. Refute it at one input. -/
def minplusRingWrong : ChangeSpec := { name := "minplusRing", fn := fun _ => fun
  | [d1, d2, d3] => { results := [.lit (.bool false)], args := [d1, d2, d3] }
  | _ => none }
def MinplusRingWrongFalsely : Prop := minplusRingRow.holds Try.pinned (OpenSpec.ofChange minplusRingWrong)

/-- 'tidewaitkeep.MinplusOver': WHATEVER THE INPUT: true; the input reads as it did. -/
def minplusOverSpec : ChangeSpec := { name := "minplusOver", fn := fun _ => fun
  | [d1, d2, d3] => { results := [.lit (.bool true)], args := [d1, d2, d3] }
  | _ => none }
def minplusOverRow : OpenClaim := { program := "ytiefkghpmjbhiaa", sum := "644a3a75968578b3331f985b4054345fa97b6dcc0890737bde9d04b9aa8eb3b0", func := "tidewait/tidewaitkeep.MinplusOver", spec := "minplusOver", unfollowed := true, recurses := true, apart := false }
def MinplusOverSaid : Prop := minplusOverRow.holds Try.pinned (OpenSpec.ofChange minplusOverSpec)

/-- ITS FALSE NEIGHBOUR: 'it returns false'. Refute it at one input. -/
def minplusOverWrong : ChangeSpec := { name := "minplusOver", fn := fun _ => fun
  | [d1, d2, d3] => { results := [.lit (.bool false)], args := [d1, d2, d3] }
  | _ => none }
def MinplusOverWrongFalsely : Prop := minplusOverRow.holds Try.pinned (OpenSpec.ofChange minplusOverWrong)

/-- 'tidewaitkeep.MinplusClosed': WHATEVER THE INPUT: true; the input reads as it did. -/
def minplusClosedSpec : ChangeSpec := { name := "minplusClosed", fn := fun _ => fun
  | [d1, d2] => { results := [.lit (.bool true)], args := [d1, d2] }
  | _ => none }
def minplusClosedRow : OpenClaim := { program := "ytiefkghpmjbhiaa", sum := "644a3a75968578b3331f985b4054345fa97b6dcc0890737bde9d04b9aa8eb3b0", func := "tidewait/tidewaitkeep.MinplusClosed", spec := "minplusClosed", unfollowed := true, recurses := true, apart := false }
def MinplusClosedSaid : Prop := minplusClosedRow.holds Try.pinned (OpenSpec.ofChange minplusClosedSpec)

/-- ITS FALSE NEIGHBOUR: 'it returns false'. Refute it at one input. -/
def minplusClosedWrong : ChangeSpec := { name := "minplusClosed", fn := fun _ => fun
  | [d1, d2] => { results := [.lit (.bool false)], args := [d1, d2] }
  | _ => none }
def MinplusClosedWrongFalsely : Prop := minplusClosedRow.holds Try.pinned (OpenSpec.ofChange minplusClosedWrong)

/-- 'tidewaitkeep.MinplusRises': WHATEVER THE INPUT: true; the input reads as it did. -/
def minplusRisesSpec : ChangeSpec := { name := "minplusRises", fn := fun _ => fun
  | [d1, d2, d3] => { results := [.lit (.bool true)], args := [d1, d2, d3] }
  | _ => none }
def minplusRisesRow : OpenClaim := { program := "ytiefkghpmjbhiaa", sum := "644a3a75968578b3331f985b4054345fa97b6dcc0890737bde9d04b9aa8eb3b0", func := "tidewait/tidewaitkeep.MinplusRises", spec := "minplusRises", unfollowed := true, recurses := true, apart := false }
def MinplusRisesSaid : Prop := minplusRisesRow.holds Try.pinned (OpenSpec.ofChange minplusRisesSpec)

/-- ITS FALSE NEIGHBOUR: 'it returns false'. Refute it at one input. -/
def minplusRisesWrong : ChangeSpec := { name := "minplusRises", fn := fun _ => fun
  | [d1, d2, d3] => { results := [.lit (.bool false)], args := [d1, d2, d3] }
  | _ => none }
def MinplusRisesWrongFalsely : Prop := minplusRisesRow.holds Try.pinned (OpenSpec.ofChange minplusRisesWrong)

/- THE SECOND FORM. 'bulk': how many values and letters a reading holds, each counted each time it is reached (what is shared counts as often as it is met; a slice's spare places count too). A statement '..UptoSaid' is the law's where the arguments, and the package variables that the reading takes, are together of bulk at most 1048576: NARROWER than '..Said'. Prove '..Said' where nothing that the law and all that it calls make is longer than what came in: it says more and counts as full. Else prove '..UptoSaid'. A law counts once. -/
mutual
def uptoBulk {H : Type} : DataW H → Nat
  | .lit (.string bytes) => bytes.length + 1
  | .lit _ => 1
  | .nil => 1
  | .ptr d => uptoBulk d + 1
  | .slice elems spare => uptoBulkAll elems + uptoBulkAll spare + 1
  | .agg parts => uptoBulkAll parts + 1
  | .iface _ d => uptoBulk d + 1
  | .map entries => uptoBulkEntries entries + 1
  | .held _ => 1
def uptoBulkAll {H : Type} : List (DataW H) → Nat
  | [] => 0
  | d :: r => uptoBulk d + uptoBulkAll r
def uptoBulkEntries {H : Type} : List (Lit × DataW H) → Nat
  | [] => 0
  | x :: r => uptoBulkEntry x + uptoBulkEntries r
def uptoBulkEntry {H : Type} : Lit × DataW H → Nat
  | (.string bytes, d) => bytes.length + uptoBulk d + 1
  | (_, d) => uptoBulk d + 1
 end
def uptoSmall : (H : Type) → List (DataW H) → Bool := fun _ ds => decide (uptoBulkAll ds ≤ 1048576)
def OpenSpec.upto (s : _root_.Go.ChangeSpec) : _root_.Go.OpenSpec := { _root_.Go.OpenSpec.ofChange s with cond := some uptoSmall }

/-- 'tidewaitlaw.MinplusTells', WHERE WHAT IT READS IS OF BULK AT MOST 1048576: true; the input reads as it did. -/
def minplusTellsUptoRow : OpenClaim := { program := "ytiefkghpmjbhiaa", sum := "644a3a75968578b3331f985b4054345fa97b6dcc0890737bde9d04b9aa8eb3b0", func := "tidewait/tidewaitlaw.MinplusTells", spec := "minplusTells", apart := false, narrowed := true }
def MinplusTellsUptoSaid : Prop := minplusTellsUptoRow.holds Try.pinned (OpenSpec.upto minplusTellsSpec)

/-- 'tidewaitlaw.MinplusClose', WHERE WHAT IT READS IS OF BULK AT MOST 1048576: true; the input reads as it did. -/
def minplusCloseUptoRow : OpenClaim := { program := "ytiefkghpmjbhiaa", sum := "644a3a75968578b3331f985b4054345fa97b6dcc0890737bde9d04b9aa8eb3b0", func := "tidewait/tidewaitlaw.MinplusClose", spec := "minplusClose", unfollowed := true, recurses := true, apart := false, narrowed := true }
def MinplusCloseUptoSaid : Prop := minplusCloseUptoRow.holds Try.pinned (OpenSpec.upto minplusCloseSpec)

/-- 'tidewaitkeep.MinplusRing', WHERE WHAT IT READS IS OF BULK AT MOST 1048576: true; the input reads as it did. -/
def minplusRingUptoRow : OpenClaim := { program := "ytiefkghpmjbhiaa", sum := "644a3a75968578b3331f985b4054345fa97b6dcc0890737bde9d04b9aa8eb3b0", func := "tidewait/tidewaitkeep.MinplusRing", spec := "minplusRing", unfollowed := true, recurses := true, apart := false, narrowed := true }
def MinplusRingUptoSaid : Prop := minplusRingUptoRow.holds Try.pinned (OpenSpec.upto minplusRingSpec)

/-- 'tidewaitkeep.MinplusOver', WHERE WHAT IT READS IS OF BULK AT MOST 1048576: true; the input reads as it did. -/
def minplusOverUptoRow : OpenClaim := { program := "ytiefkghpmjbhiaa", sum := "644a3a75968578b3331f985b4054345fa97b6dcc0890737bde9d04b9aa8eb3b0", func := "tidewait/tidewaitkeep.MinplusOver", spec := "minplusOver", unfollowed := true, recurses := true, apart := false, narrowed := true }
def MinplusOverUptoSaid : Prop := minplusOverUptoRow.holds Try.pinned (OpenSpec.upto minplusOverSpec)

/-- 'tidewaitkeep.MinplusClosed', WHERE WHAT IT READS IS OF BULK AT MOST 1048576: true; the input reads as it did. -/
def minplusClosedUptoRow : OpenClaim := { program := "ytiefkghpmjbhiaa", sum := "644a3a75968578b3331f985b4054345fa97b6dcc0890737bde9d04b9aa8eb3b0", func := "tidewait/tidewaitkeep.MinplusClosed", spec := "minplusClosed", unfollowed := true, recurses := true, apart := false, narrowed := true }
def MinplusClosedUptoSaid : Prop := minplusClosedUptoRow.holds Try.pinned (OpenSpec.upto minplusClosedSpec)

/-- 'tidewaitkeep.MinplusRises', WHERE WHAT IT READS IS OF BULK AT MOST 1048576: true; the input reads as it did. -/
def minplusRisesUptoRow : OpenClaim := { program := "ytiefkghpmjbhiaa", sum := "644a3a75968578b3331f985b4054345fa97b6dcc0890737bde9d04b9aa8eb3b0", func := "tidewait/tidewaitkeep.MinplusRises", spec := "minplusRises", unfollowed := true, recurses := true, apart := false, narrowed := true }
def MinplusRisesUptoSaid : Prop := minplusRisesUptoRow.holds Try.pinned (OpenSpec.upto minplusRisesSpec)

end Rows
end Go.Proofs.Ytiefkghpmjbhiaa
