/-
  No cell of these rows narrows 'for every input' (looked for: loops, veiled, ifaces, maps, wideKeys, modest, calm, conditions, laid).
  DERIVED. THE GIVEN ROWS OF THIS SEAT. 4 by the template 'for every input the law returns true; each argument reads behind the call as it read before'; 0 by the template 'total and deterministic' (their statements: YtgfmaolifnnkgaaTotals.lean).
  GIVEN WITH THE SEED: the statements are not yours to turn. If you find one false, say at which input.
  Laid BY PROGRAM, IN A SANDBOX (cutbox-rows.mjs): the forced cells as the released guide's own fill.sh prints them over the translation 5bebd4a2b45ae299… (all of the seat's roots in one cut). By AI agents, Wed Nov 11 2026. No macro, syntax, notation, axiom, sorry.
-/
import Derived.Test.YtgfmaolifnnkgaaChecked
import GoSem.Claim
import GoSem.ClaimJoined
import GoSem.ClaimMapViews
import Derived.JoinedTies
import Derived.KernelRfl
namespace Go.Proofs.Ytgfmaolifnnkgaa
/- THE CELL 'sum', in the pinned program and in every row, IS THE sha256 OF THE DUMP (.gsa) THAT YtgfmaolifnnkgaaProg.lean LOADS. Nothing in Lean hashes anything: it is a label: what it is worth is what the hold of that sum in a sandbox is worth. -/
noncomputable def Try.pinned : Pinned := { name := "ytgfmaolifnnkgaa", sum := "5bebd4a2b45ae29900a628ee215807598bbc3d8291ac3893abc666b7fe73121e", checked := Try.checked }
namespace Rows
def none {H : Type} : Left H := { results := [], args := [] }

/-- 'tidewaitlaw.FilterTells': WHATEVER THE INPUT: true; the input reads as it did. -/
def filterTellsSpec : ChangeSpec := { name := "filterTells", fn := fun _ => fun
  | [d1, d2] => { results := [.lit (.bool true)], args := [d1, d2] }
  | _ => none }
def filterTellsRow : OpenClaim := { program := "ytgfmaolifnnkgaa", sum := "5bebd4a2b45ae29900a628ee215807598bbc3d8291ac3893abc666b7fe73121e", func := "tidewait/tidewaitlaw.FilterTells", spec := "filterTells", apart := false }
def FilterTellsSaid : Prop := filterTellsRow.holds Try.pinned (OpenSpec.ofChange filterTellsSpec)

/-- ITS FALSE NEIGHBOUR: 'it returns false'. Refute it at one input. -/
def filterTellsWrong : ChangeSpec := { name := "filterTells", fn := fun _ => fun
  | [d1, d2] => { results := [.lit (.bool false)], args := [d1, d2] }
  | _ => none }
def FilterTellsWrongFalsely : Prop := filterTellsRow.holds Try.pinned (OpenSpec.ofChange filterTellsWrong)

/-- 'tidewaitkeep.FilterBetween': WHATEVER THE INPUT: true; the input reads as it did. -/
def filterBetweenSpec : ChangeSpec := { name := "filterBetween", fn := fun _ => fun
  | [d1, d2] => { results := [.lit (.bool true)], args := [d1, d2] }
  | _ => none }
def filterBetweenRow : OpenClaim := { program := "ytgfmaolifnnkgaa", sum := "5bebd4a2b45ae29900a628ee215807598bbc3d8291ac3893abc666b7fe73121e", func := "tidewait/tidewaitkeep.FilterBetween", spec := "filterBetween", apart := false }
def FilterBetweenSaid : Prop := filterBetweenRow.holds Try.pinned (OpenSpec.ofChange filterBetweenSpec)

/-- ITS FALSE NEIGHBOUR: 'it returns false'. Refute it at one input. -/
def filterBetweenWrong : ChangeSpec := { name := "filterBetween", fn := fun _ => fun
  | [d1, d2] => { results := [.lit (.bool false)], args := [d1, d2] }
  | _ => none }
def FilterBetweenWrongFalsely : Prop := filterBetweenRow.holds Try.pinned (OpenSpec.ofChange filterBetweenWrong)

/-- 'tidewaitkeep.FilterRises': WHATEVER THE INPUT: true; the input reads as it did. -/
def filterRisesSpec : ChangeSpec := { name := "filterRises", fn := fun _ => fun
  | [d1, d2, d3] => { results := [.lit (.bool true)], args := [d1, d2, d3] }
  | _ => none }
def filterRisesRow : OpenClaim := { program := "ytgfmaolifnnkgaa", sum := "5bebd4a2b45ae29900a628ee215807598bbc3d8291ac3893abc666b7fe73121e", func := "tidewait/tidewaitkeep.FilterRises", spec := "filterRises", apart := false }
def FilterRisesSaid : Prop := filterRisesRow.holds Try.pinned (OpenSpec.ofChange filterRisesSpec)

/-- ITS FALSE NEIGHBOUR: 'it returns false'. Refute it at one input. -/
def filterRisesWrong : ChangeSpec := { name := "filterRises", fn := fun _ => fun
  | [d1, d2, d3] => { results := [.lit (.bool false)], args := [d1, d2, d3] }
  | _ => none }
def FilterRisesWrongFalsely : Prop := filterRisesRow.holds Try.pinned (OpenSpec.ofChange filterRisesWrong)

/-- 'tidewaitkeep.FilterStill': WHATEVER THE INPUT: true; the input reads as it did. -/
def filterStillSpec : ChangeSpec := { name := "filterStill", fn := fun _ => fun
  | [d1, d2, d3] => { results := [.lit (.bool true)], args := [d1, d2, d3] }
  | _ => none }
def filterStillRow : OpenClaim := { program := "ytgfmaolifnnkgaa", sum := "5bebd4a2b45ae29900a628ee215807598bbc3d8291ac3893abc666b7fe73121e", func := "tidewait/tidewaitkeep.FilterStill", spec := "filterStill", apart := false }
def FilterStillSaid : Prop := filterStillRow.holds Try.pinned (OpenSpec.ofChange filterStillSpec)

/-- ITS FALSE NEIGHBOUR: 'it returns false'. Refute it at one input. -/
def filterStillWrong : ChangeSpec := { name := "filterStill", fn := fun _ => fun
  | [d1, d2, d3] => { results := [.lit (.bool false)], args := [d1, d2, d3] }
  | _ => none }
def FilterStillWrongFalsely : Prop := filterStillRow.holds Try.pinned (OpenSpec.ofChange filterStillWrong)

/- THE SECOND FORM. 'bulk': how many values and letters a reading holds, each counted each time it is reached (what is shared counts as often as it is met; a slice's spare places count too). A statement '..UptoSaid' is the law's where the arguments, and the package variables that the reading takes, are together of bulk at most 1048576: NARROWER than '..Said'. Prove '..Said' where nothing that the law and all that it calls make is longer than what came in: it says more and counts as full. Else prove '..UptoSaid'. A law counts once. -/
mutual
def uptoBulk {H : Type} : DataW H → Nat
  | .lit (.string bytes) => bytes.length + 1
  | .lit _ => 1
  | .nil => 1
  | .ptr d => uptoBulk d + 1
  | .slice elems spare => uptoBulkAll elems + uptoBulkAll spare + 1
  | .agg parts => uptoBulkAll parts + 1
  | .iface _ d => uptoBulk d + 1
  | .map entries => uptoBulkEntries entries + 1
  | .held _ => 1
def uptoBulkAll {H : Type} : List (DataW H) → Nat
  | [] => 0
  | d :: r => uptoBulk d + uptoBulkAll r
def uptoBulkEntries {H : Type} : List (Lit × DataW H) → Nat
  | [] => 0
  | x :: r => uptoBulkEntry x + uptoBulkEntries r
def uptoBulkEntry {H : Type} : Lit × DataW H → Nat
  | (.string bytes, d) => bytes.length + uptoBulk d + 1
  | (_, d) => uptoBulk d + 1
 end
def uptoSmall : (H : Type) → List (DataW H) → Bool := fun _ ds => decide (uptoBulkAll ds ≤ 1048576)
def OpenSpec.upto (s : _root_.Go.ChangeSpec) : _root_.Go.OpenSpec := { _root_.Go.OpenSpec.ofChange s with cond := some uptoSmall }

/-- 'tidewaitlaw.FilterTells', WHERE WHAT IT READS IS OF BULK AT MOST 1048576: true; the input reads as it did. -/
def filterTellsUptoRow : OpenClaim := { program := "ytgfmaolifnnkgaa", sum := "5bebd4a2b45ae29900a628ee215807598bbc3d8291ac3893abc666b7fe73121e", func := "tidewait/tidewaitlaw.FilterTells", spec := "filterTells", apart := false, narrowed := true }
def FilterTellsUptoSaid : Prop := filterTellsUptoRow.holds Try.pinned (OpenSpec.upto filterTellsSpec)

/-- 'tidewaitkeep.FilterBetween', WHERE WHAT IT READS IS OF BULK AT MOST 1048576: true; the input reads as it did. -/
def filterBetweenUptoRow : OpenClaim := { program := "ytgfmaolifnnkgaa", sum := "5bebd4a2b45ae29900a628ee215807598bbc3d8291ac3893abc666b7fe73121e", func := "tidewait/tidewaitkeep.FilterBetween", spec := "filterBetween", apart := false, narrowed := true }
def FilterBetweenUptoSaid : Prop := filterBetweenUptoRow.holds Try.pinned (OpenSpec.upto filterBetweenSpec)

/-- 'tidewaitkeep.FilterRises', WHERE WHAT IT READS IS OF BULK AT MOST 1048576: true; the input reads as it did. -/
def filterRisesUptoRow : OpenClaim := { program := "ytgfmaolifnnkgaa", sum := "5bebd4a2b45ae29900a628ee215807598bbc3d8291ac3893abc666b7fe73121e", func := "tidewait/tidewaitkeep.FilterRises", spec := "filterRises", apart := false, narrowed := true }
def FilterRisesUptoSaid : Prop := filterRisesUptoRow.holds Try.pinned (OpenSpec.upto filterRisesSpec)

/-- 'tidewaitkeep.FilterStill', WHERE WHAT IT READS IS OF BULK AT MOST 1048576: true; the input reads as it did. -/
def filterStillUptoRow : OpenClaim := { program := "ytgfmaolifnnkgaa", sum := "5bebd4a2b45ae29900a628ee215807598bbc3d8291ac3893abc666b7fe73121e", func := "tidewait/tidewaitkeep.FilterStill", spec := "filterStill", apart := false, narrowed := true }
def FilterStillUptoSaid : Prop := filterStillUptoRow.holds Try.pinned (OpenSpec.upto filterStillSpec)

end Rows
end Go.Proofs.Ytgfmaolifnnkgaa
