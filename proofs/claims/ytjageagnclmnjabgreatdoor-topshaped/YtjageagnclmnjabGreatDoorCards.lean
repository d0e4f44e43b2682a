/-
  DERIVED. GIVEN WITH THE SEED: THE CARDS: each row of YtjageagnclmnjabGreatDoorRows.lean that lists a variable, with what it lists TIED to the program's text (the seventh form; the later family's looks); each row that meets fmt, with fmt's text TOLD by the authors' own Lean function (tested against real Go, not proved from fmt's source: count such statements apart). THE CARD IS WHAT COUNTS. Prove the row's statement (the work); the ties are given (YtjageagnclmnjabGreatDoorTie.lean); close each card by the builder's one call (the guide's Derived/Test/ToyasCard.lean, 'card_holds'). Laid BY PROGRAM, IN A SANDBOX (cutbox-door.mjs). By AI agents, Wed Nov 11 2026. No macro, syntax, notation, axiom, sorry.
-/
import Derived.Test.YtjageagnclmnjabGreatDoorRows
import GoSem.ClaimSeven
namespace Go.Proofs.YtjageagnclmnjabGreatDoor
namespace Rows

/-- THE TIED CARD OF 'tidewaittop.TopShaped'. -/
def topShapedCard : Claim7 := { stood := { row := topShapedRow, standIns := [], harness := (true, "006522738e9889df30ad88a17c5afea12b70c354e9099897b19dbf36cdadb179"), looks := true }, kinds := [], alts := [], laidByText := true, laidKinds := [.data, .data, .data, .data, .sentinel, .sentinel, .data, .pinned], laidTests := true, laidLooks := .later }
def TopShapedCardSaid : Prop := Claim7.holds Tryz.pinned (.plain (OpenSpec.ofChange topShapedSpec)) topShapedCard

/-- THE TIED CARD OF 'tidewaittop.TopTwo'. -/
def topTwoCard : Claim7 := { stood := { row := topTwoRow, standIns := [], harness := (true, "006522738e9889df30ad88a17c5afea12b70c354e9099897b19dbf36cdadb179"), looks := true }, kinds := [], alts := [], laidByText := true, laidKinds := [.data, .data, .data, .data, .sentinel, .sentinel, .data, .pinned], laidTests := true, laidLooks := .later }
def TopTwoCardSaid : Prop := Claim7.holds Tryz.pinned (.plain (OpenSpec.ofChange topTwoSpec)) topTwoCard

/-- THE TIED CARD OF 'tidewaittop.TopClock'. -/
def topClockCard : Claim7 := { stood := { row := topClockRow, standIns := [], harness := (true, "006522738e9889df30ad88a17c5afea12b70c354e9099897b19dbf36cdadb179"), looks := true }, kinds := [], alts := [], laidByText := true, laidKinds := [.data, .data, .data, .data, .sentinel, .sentinel, .data, .pinned], laidTests := true, laidLooks := .later }
def TopClockCardSaid : Prop := Claim7.holds Tryz.pinned (.plain (OpenSpec.ofChange topClockSpec)) topClockCard

/-- THE TIED CARD OF 'tidewaittop.TopGives'. -/
def topGivesCard : Claim7 := { stood := { row := topGivesRow, standIns := [], harness := (true, "006522738e9889df30ad88a17c5afea12b70c354e9099897b19dbf36cdadb179"), looks := true }, kinds := [], alts := [], laidByText := true, laidKinds := [.data, .data, .data, .data, .sentinel, .sentinel, .data, .pinned], laidTests := true, laidLooks := .later }
def TopGivesCardSaid : Prop := Claim7.holds Tryz.pinned (.plain (OpenSpec.ofChange topGivesSpec)) topGivesCard

/-- THE SECOND FORM's CARD OF 'tidewaittop.TopShaped'. -/
def topShapedUptoCard : Claim7 := { stood := { row := topShapedUptoRow, standIns := [], harness := (true, "006522738e9889df30ad88a17c5afea12b70c354e9099897b19dbf36cdadb179"), looks := true }, kinds := [], alts := [], laidByText := true, laidKinds := [.data, .data, .data, .data, .sentinel, .sentinel, .data, .pinned], laidTests := true, laidLooks := .later }
def TopShapedUptoCardSaid : Prop := Claim7.holds Tryz.pinned (.plain (OpenSpec.upto topShapedSpec)) topShapedUptoCard

/-- THE SECOND FORM's CARD OF 'tidewaittop.TopTwo'. -/
def topTwoUptoCard : Claim7 := { stood := { row := topTwoUptoRow, standIns := [], harness := (true, "006522738e9889df30ad88a17c5afea12b70c354e9099897b19dbf36cdadb179"), looks := true }, kinds := [], alts := [], laidByText := true, laidKinds := [.data, .data, .data, .data, .sentinel, .sentinel, .data, .pinned], laidTests := true, laidLooks := .later }
def TopTwoUptoCardSaid : Prop := Claim7.holds Tryz.pinned (.plain (OpenSpec.upto topTwoSpec)) topTwoUptoCard

/-- THE SECOND FORM's CARD OF 'tidewaittop.TopClock'. -/
def topClockUptoCard : Claim7 := { stood := { row := topClockUptoRow, standIns := [], harness := (true, "006522738e9889df30ad88a17c5afea12b70c354e9099897b19dbf36cdadb179"), looks := true }, kinds := [], alts := [], laidByText := true, laidKinds := [.data, .data, .data, .data, .sentinel, .sentinel, .data, .pinned], laidTests := true, laidLooks := .later }
def TopClockUptoCardSaid : Prop := Claim7.holds Tryz.pinned (.plain (OpenSpec.upto topClockSpec)) topClockUptoCard

/-- THE SECOND FORM's CARD OF 'tidewaittop.TopGives'. -/
def topGivesUptoCard : Claim7 := { stood := { row := topGivesUptoRow, standIns := [], harness := (true, "006522738e9889df30ad88a17c5afea12b70c354e9099897b19dbf36cdadb179"), looks := true }, kinds := [], alts := [], laidByText := true, laidKinds := [.data, .data, .data, .data, .sentinel, .sentinel, .data, .pinned], laidTests := true, laidLooks := .later }
def TopGivesUptoCardSaid : Prop := Claim7.holds Tryz.pinned (.plain (OpenSpec.upto topGivesSpec)) topGivesUptoCard
end Rows
end Go.Proofs.YtjageagnclmnjabGreatDoor
