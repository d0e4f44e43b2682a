/-
  DERIVED. GIVEN WITH THE SEED: THE CARDS: each row of YtjageagnclmnjaaGreatDoorRows.lean that lists a variable, with what it lists TIED to the program's text (the seventh form; the later family's looks); each row that meets fmt, with fmt's text TOLD by the authors' own Lean function (tested against real Go, not proved from fmt's source: count such statements apart). THE CARD IS WHAT COUNTS. Prove the row's statement (the work); the ties are given (YtjageagnclmnjaaGreatDoorTie.lean); close each card by the builder's one call (the guide's Derived/Test/ToyasCard.lean, 'card_holds'). Laid BY PROGRAM, IN A SANDBOX (cutbox-door.mjs). By AI agents, Wed Nov 11 2026. No macro, syntax, notation, axiom, sorry.
-/
import Derived.Test.YtjageagnclmnjaaGreatDoorRows
import GoSem.ClaimSeven
namespace Go.Proofs.YtjageagnclmnjaaGreatDoor
namespace Rows

/-- THE TIED CARD OF 'tidewaitlaw.BenchTells'. -/
def benchTellsCard : Claim7 := { stood := { row := benchTellsRow, standIns := [], harness := (true, "7dd4233ee10077ae212749d72e486da09f1de1a1a45e0bf4c0afc6f75e27c879"), looks := true }, kinds := [], alts := [], laidByText := true, laidKinds := [.data, .data, .data, .data, .sentinel, .sentinel, .data, .pinned], laidTests := true, laidLooks := .later }
def BenchTellsCardSaid : Prop := Claim7.holds Tryz.pinned (.plain (OpenSpec.ofChange benchTellsSpec)) benchTellsCard

/-- THE TIED CARD OF 'tidewaitkeep.BenchLines'. -/
def benchLinesCard : Claim7 := { stood := { row := benchLinesRow, standIns := [], harness := (true, "7dd4233ee10077ae212749d72e486da09f1de1a1a45e0bf4c0afc6f75e27c879"), looks := true }, kinds := [], alts := [], laidByText := true, laidKinds := [.data, .data, .data, .data, .sentinel, .sentinel, .data, .pinned], laidTests := true, laidLooks := .later }
def BenchLinesCardSaid : Prop := Claim7.holds Tryz.pinned (.plain (OpenSpec.ofChange benchLinesSpec)) benchLinesCard

/-- THE TIED CARD OF 'tidewaittop.TopText'. -/
def topTextCard : Claim7 := { stood := { row := topTextRow, standIns := [], harness := (true, "7dd4233ee10077ae212749d72e486da09f1de1a1a45e0bf4c0afc6f75e27c879"), looks := true }, kinds := [], alts := [], laidByText := true, laidKinds := [.data, .data, .data, .data, .sentinel, .sentinel, .data, .pinned], laidTests := true, laidLooks := .later }
def TopTextCardSaid : Prop := Claim7.holds Tryz.pinned (.plain (OpenSpec.ofChange topTextSpec)) topTextCard

/-- THE TIED CARD OF 'tidewaittop.TopMean'. -/
def topMeanCard : Claim7 := { stood := { row := topMeanRow, standIns := [], harness := (true, "7dd4233ee10077ae212749d72e486da09f1de1a1a45e0bf4c0afc6f75e27c879"), looks := true }, kinds := [], alts := [], laidByText := true, laidKinds := [.data, .data, .data, .data, .sentinel, .sentinel, .data, .pinned], laidTests := true, laidLooks := .later }
def TopMeanCardSaid : Prop := Claim7.holds Tryz.pinned (.plain (OpenSpec.ofChange topMeanSpec)) topMeanCard

/-- THE SECOND FORM's CARD OF 'tidewaitlaw.BenchTells'. -/
def benchTellsUptoCard : Claim7 := { stood := { row := benchTellsUptoRow, standIns := [], harness := (true, "7dd4233ee10077ae212749d72e486da09f1de1a1a45e0bf4c0afc6f75e27c879"), looks := true }, kinds := [], alts := [], laidByText := true, laidKinds := [.data, .data, .data, .data, .sentinel, .sentinel, .data, .pinned], laidTests := true, laidLooks := .later }
def BenchTellsUptoCardSaid : Prop := Claim7.holds Tryz.pinned (.plain (OpenSpec.upto benchTellsSpec)) benchTellsUptoCard

/-- THE SECOND FORM's CARD OF 'tidewaitkeep.BenchLines'. -/
def benchLinesUptoCard : Claim7 := { stood := { row := benchLinesUptoRow, standIns := [], harness := (true, "7dd4233ee10077ae212749d72e486da09f1de1a1a45e0bf4c0afc6f75e27c879"), looks := true }, kinds := [], alts := [], laidByText := true, laidKinds := [.data, .data, .data, .data, .sentinel, .sentinel, .data, .pinned], laidTests := true, laidLooks := .later }
def BenchLinesUptoCardSaid : Prop := Claim7.holds Tryz.pinned (.plain (OpenSpec.upto benchLinesSpec)) benchLinesUptoCard

/-- THE SECOND FORM's CARD OF 'tidewaittop.TopText'. -/
def topTextUptoCard : Claim7 := { stood := { row := topTextUptoRow, standIns := [], harness := (true, "7dd4233ee10077ae212749d72e486da09f1de1a1a45e0bf4c0afc6f75e27c879"), looks := true }, kinds := [], alts := [], laidByText := true, laidKinds := [.data, .data, .data, .data, .sentinel, .sentinel, .data, .pinned], laidTests := true, laidLooks := .later }
def TopTextUptoCardSaid : Prop := Claim7.holds Tryz.pinned (.plain (OpenSpec.upto topTextSpec)) topTextUptoCard

/-- THE SECOND FORM's CARD OF 'tidewaittop.TopMean'. -/
def topMeanUptoCard : Claim7 := { stood := { row := topMeanUptoRow, standIns := [], harness := (true, "7dd4233ee10077ae212749d72e486da09f1de1a1a45e0bf4c0afc6f75e27c879"), looks := true }, kinds := [], alts := [], laidByText := true, laidKinds := [.data, .data, .data, .data, .sentinel, .sentinel, .data, .pinned], laidTests := true, laidLooks := .later }
def TopMeanUptoCardSaid : Prop := Claim7.holds Tryz.pinned (.plain (OpenSpec.upto topMeanSpec)) topMeanUptoCard
end Rows
end Go.Proofs.YtjageagnclmnjaaGreatDoor
