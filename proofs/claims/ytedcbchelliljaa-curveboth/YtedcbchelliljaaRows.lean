/-
  No cell of these rows narrows 'for every input' (looked for: loops, veiled, ifaces, maps, wideKeys, modest, calm, conditions, laid).
  DERIVED. THE GIVEN ROWS OF THIS SEAT. 5 by the template 'for every input the law returns true; each argument reads behind the call as it read before'; 0 by the template 'total and deterministic' (their statements: YtedcbchelliljaaTotals.lean).
  GIVEN WITH THE SEED: the statements are not yours to turn. If you find one false, say at which input.
  Laid BY PROGRAM, IN A SANDBOX (cutbox-rows.mjs): the forced cells as the released guide's own fill.sh prints them over the translation 503bd4c35af65d74… (all of the seat's roots in one cut). By AI agents, Wed Nov 11 2026. No macro, syntax, notation, axiom, sorry.
-/
import Derived.Test.YtedcbchelliljaaChecked
import GoSem.Claim
import GoSem.ClaimJoined
import GoSem.ClaimMapViews
import Derived.JoinedTies
import Derived.KernelRfl
namespace Go.Proofs.Ytedcbchelliljaa
/- THE CELL 'sum', in the pinned program and in every row, IS THE sha256 OF THE DUMP (.gsa) THAT YtedcbchelliljaaProg.lean LOADS. Nothing in Lean hashes anything: it is a label: what it is worth is what the hold of that sum in a sandbox is worth. -/
noncomputable def Try.pinned : Pinned := { name := "ytedcbchelliljaa", sum := "503bd4c35af65d7490016d835e9c3ada120e01c41371f18568efd09718b91416", checked := Try.checked }
namespace Rows
def none {H : Type} : Left H := { results := [], args := [] }

/-- 'tidewaitlaw.CurveTells': WHATEVER THE INPUT: true; the input reads as it did. -/
def curveTellsSpec : ChangeSpec := { name := "curveTells", fn := fun _ => fun
  | [d1, d2] => { results := [.lit (.bool true)], args := [d1, d2] }
  | _ => none }
def curveTellsRow : OpenClaim := { program := "ytedcbchelliljaa", sum := "503bd4c35af65d7490016d835e9c3ada120e01c41371f18568efd09718b91416", func := "tidewait/tidewaitlaw.CurveTells", spec := "curveTells", unfollowed := true, recurses := true, apart := false }
def CurveTellsSaid : Prop := curveTellsRow.holds Try.pinned (OpenSpec.ofChange curveTellsSpec)

/-- ITS FALSE NEIGHBOUR: 'it returns false'. Refute it at one input. -/
def curveTellsWrong : ChangeSpec := { name := "curveTells", fn := fun _ => fun
  | [d1, d2] => { results := [.lit (.bool false)], args := [d1, d2] }
  | _ => none }
def CurveTellsWrongFalsely : Prop := curveTellsRow.holds Try.pinned (OpenSpec.ofChange curveTellsWrong)

/-- 'tidewaitlaw.CurveBoth': WHATEVER THE INPUT: true; the input reads as it did. -/
def curveBothSpec : ChangeSpec := { name := "curveBoth", fn := fun _ => fun
  | [d1, d2] => { results := [.lit (.bool true)], args := [d1, d2] }
  | _ => none }
def curveBothRow : OpenClaim := { program := "ytedcbchelliljaa", sum := "503bd4c35af65d7490016d835e9c3ada120e01c41371f18568efd09718b91416", func := "tidewait/tidewaitlaw.CurveBoth", spec := "curveBoth", unfollowed := true, recurses := true, apart := false }
def CurveBothSaid : Prop := curveBothRow.holds Try.pinned (OpenSpec.ofChange curveBothSpec)

/-- ITS FALSE NEIGHBOUR: 'it returns false'. Refute it at one input. -/
def curveBothWrong : ChangeSpec := { name := "curveBoth", fn := fun _ => fun
  | [d1, d2] => { results := [.lit (.bool false)], args := [d1, d2] }
  | _ => none }
def CurveBothWrongFalsely : Prop := curveBothRow.holds Try.pinned (OpenSpec.ofChange curveBothWrong)

/-- 'tidewaitkeep.CurveBack': WHATEVER THE INPUT: true; the input reads as it did. -/
def curveBackSpec : ChangeSpec := { name := "curveBack", fn := fun _ => fun
  | [d1, d2] => { results := [.lit (.bool true)], args := [d1, d2] }
  | _ => none }
def curveBackRow : OpenClaim := { program := "ytedcbchelliljaa", sum := "503bd4c35af65d7490016d835e9c3ada120e01c41371f18568efd09718b91416", func := "tidewait/tidewaitkeep.CurveBack", spec := "curveBack", unfollowed := true, recurses := true, apart := false }
def CurveBackSaid : Prop := curveBackRow.holds Try.pinned (OpenSpec.ofChange curveBackSpec)

/-- ITS FALSE NEIGHBOUR: 'it returns false'. Refute it at one input. -/
def curveBackWrong : ChangeSpec := { name := "curveBack", fn := fun _ => fun
  | [d1, d2] => { results := [.lit (.bool false)], args := [d1, d2] }
  | _ => none }
def CurveBackWrongFalsely : Prop := curveBackRow.holds Try.pinned (OpenSpec.ofChange curveBackWrong)

/-- 'tidewaitkeep.CurveLower': WHATEVER THE INPUT: true; the input reads as it did. -/
def curveLowerSpec : ChangeSpec := { name := "curveLower", fn := fun _ => fun
  | [d1, d2, d3] => { results := [.lit (.bool true)], args := [d1, d2, d3] }
  | _ => none }
def curveLowerRow : OpenClaim := { program := "ytedcbchelliljaa", sum := "503bd4c35af65d7490016d835e9c3ada120e01c41371f18568efd09718b91416", func := "tidewait/tidewaitkeep.CurveLower", spec := "curveLower", unfollowed := true, recurses := true, apart := false }
def CurveLowerSaid : Prop := curveLowerRow.holds Try.pinned (OpenSpec.ofChange curveLowerSpec)

/-- ITS FALSE NEIGHBOUR: 'it returns false'. Refute it at one input. -/
def curveLowerWrong : ChangeSpec := { name := "curveLower", fn := fun _ => fun
  | [d1, d2, d3] => { results := [.lit (.bool false)], args := [d1, d2, d3] }
  | _ => none }
def CurveLowerWrongFalsely : Prop := curveLowerRow.holds Try.pinned (OpenSpec.ofChange curveLowerWrong)

/-- 'tidewaitkeep.CurveSums': WHATEVER THE INPUT: true; the input reads as it did. -/
def curveSumsSpec : ChangeSpec := { name := "curveSums", fn := fun _ => fun
  | [d1, d2] => { results := [.lit (.bool true)], args := [d1, d2] }
  | _ => none }
def curveSumsRow : OpenClaim := { program := "ytedcbchelliljaa", sum := "503bd4c35af65d7490016d835e9c3ada120e01c41371f18568efd09718b91416", func := "tidewait/tidewaitkeep.CurveSums", spec := "curveSums", unfollowed := true, recurses := true, apart := false }
def CurveSumsSaid : Prop := curveSumsRow.holds Try.pinned (OpenSpec.ofChange curveSumsSpec)

/-- ITS FALSE NEIGHBOUR: 'it returns false'. Refute it at one input. -/
def curveSumsWrong : ChangeSpec := { name := "curveSums", fn := fun _ => fun
  | [d1, d2] => { results := [.lit (.bool false)], args := [d1, d2] }
  | _ => none }
def CurveSumsWrongFalsely : Prop := curveSumsRow.holds Try.pinned (OpenSpec.ofChange curveSumsWrong)

/- THE SECOND FORM. 'bulk': how many values and letters a reading holds, each counted each time it is reached (what is shared counts as often as it is met; a slice's spare places count too). A statement '..UptoSaid' is the law's where the arguments, and the package variables that the reading takes, are together of bulk at most 1048576: NARROWER than '..Said'. Prove '..Said' where nothing that the law and all that it calls make is longer than what came in: it says more and counts as full. Else prove '..UptoSaid'. A law counts once. -/
mutual
def uptoBulk {H : Type} : DataW H → Nat
  | .lit (.string bytes) => bytes.length + 1
  | .lit _ => 1
  | .nil => 1
  | .ptr d => uptoBulk d + 1
  | .slice elems spare => uptoBulkAll elems + uptoBulkAll spare + 1
  | .agg parts => uptoBulkAll parts + 1
  | .iface _ d => uptoBulk d + 1
  | .map entries => uptoBulkEntries entries + 1
  | .held _ => 1
def uptoBulkAll {H : Type} : List (DataW H) → Nat
  | [] => 0
  | d :: r => uptoBulk d + uptoBulkAll r
def uptoBulkEntries {H : Type} : List (Lit × DataW H) → Nat
  | [] => 0
  | x :: r => uptoBulkEntry x + uptoBulkEntries r
def uptoBulkEntry {H : Type} : Lit × DataW H → Nat
  | (.string bytes, d) => bytes.length + uptoBulk d + 1
  | (_, d) => uptoBulk d + 1
 end
def uptoSmall : (H : Type) → List (DataW H) → Bool := fun _ ds => decide (uptoBulkAll ds ≤ 1048576)
def OpenSpec.upto (s : _root_.Go.ChangeSpec) : _root_.Go.OpenSpec := { _root_.Go.OpenSpec.ofChange s with cond := some uptoSmall }

/-- 'tidewaitlaw.CurveTells', WHERE WHAT IT READS IS OF BULK AT MOST 1048576: true; the input reads as it did. -/
def curveTellsUptoRow : OpenClaim := { program := "ytedcbchelliljaa", sum := "503bd4c35af65d7490016d835e9c3ada120e01c41371f18568efd09718b91416", func := "tidewait/tidewaitlaw.CurveTells", spec := "curveTells", unfollowed := true, recurses := true, apart := false, narrowed := true }
def CurveTellsUptoSaid : Prop := curveTellsUptoRow.holds Try.pinned (OpenSpec.upto curveTellsSpec)

/-- 'tidewaitlaw.CurveBoth', WHERE WHAT IT READS IS OF BULK AT MOST 1048576: true; the input reads as it did. -/
def curveBothUptoRow : OpenClaim := { program := "ytedcbchelliljaa", sum := "503bd4c35af65d7490016d835e9c3ada120e01c41371f18568efd09718b91416", func := "tidewait/tidewaitlaw.CurveBoth", spec := "curveBoth", unfollowed := true, recurses := true, apart := false, narrowed := true }
def CurveBothUptoSaid : Prop := curveBothUptoRow.holds Try.pinned (OpenSpec.upto curveBothSpec)

/-- 'tidewaitkeep.CurveBack', WHERE WHAT IT READS IS OF BULK AT MOST 1048576: true; the input reads as it did. -/
def curveBackUptoRow : OpenClaim := { program := "ytedcbchelliljaa", sum := "503bd4c35af65d7490016d835e9c3ada120e01c41371f18568efd09718b91416", func := "tidewait/tidewaitkeep.CurveBack", spec := "curveBack", unfollowed := true, recurses := true, apart := false, narrowed := true }
def CurveBackUptoSaid : Prop := curveBackUptoRow.holds Try.pinned (OpenSpec.upto curveBackSpec)

/-- 'tidewaitkeep.CurveLower', WHERE WHAT IT READS IS OF BULK AT MOST 1048576: true; the input reads as it did. -/
def curveLowerUptoRow : OpenClaim := { program := "ytedcbchelliljaa", sum := "503bd4c35af65d7490016d835e9c3ada120e01c41371f18568efd09718b91416", func := "tidewait/tidewaitkeep.CurveLower", spec := "curveLower", unfollowed := true, recurses := true, apart := false, narrowed := true }
def CurveLowerUptoSaid : Prop := curveLowerUptoRow.holds Try.pinned (OpenSpec.upto curveLowerSpec)

/-- 'tidewaitkeep.CurveSums', WHERE WHAT IT READS IS OF BULK AT MOST 1048576: true; the input reads as it did. -/
def curveSumsUptoRow : OpenClaim := { program := "ytedcbchelliljaa", sum := "503bd4c35af65d7490016d835e9c3ada120e01c41371f18568efd09718b91416", func := "tidewait/tidewaitkeep.CurveSums", spec := "curveSums", unfollowed := true, recurses := true, apart := false, narrowed := true }
def CurveSumsUptoSaid : Prop := curveSumsUptoRow.holds Try.pinned (OpenSpec.upto curveSumsSpec)

end Rows
end Go.Proofs.Ytedcbchelliljaa
