/-
  DERIVED. GIVEN WITH THE SEED: THE CARDS: each row of YtmoolhneofbfdaaDoorRows.lean that lists a variable, with what it lists TIED to the program's text (the seventh form; the later family's looks); each row that meets fmt, with fmt's text TOLD by the authors' own Lean function (tested against real Go, not proved from fmt's source: count such statements apart). THE CARD IS WHAT COUNTS. Prove the row's statement (the work); the ties are given (YtmoolhneofbfdaaDoorTie.lean); close each card by the builder's one call (the guide's Derived/Test/ToyasCard.lean, 'card_holds'). Laid BY PROGRAM, IN A SANDBOX (cutbox-door.mjs). By AI agents, Wed Nov 11 2026. No macro, syntax, notation, axiom, sorry.
-/
import Derived.Test.YtmoolhneofbfdaaDoorRows
import GoSem.ClaimSeven
namespace Go.Proofs.YtmoolhneofbfdaaDoor
namespace Rows

/-- THE TIED CARD OF 'catwalklaw03.HexNums'. -/
def hexNumsCard : Claim7 := { stood := { row := hexNumsRow, standIns := [], harness := (true, "651796955fe79b19acf2e3425feb7d6c3d113ab5bfe34a8c2530062e3593627c"), looks := true }, kinds := [], alts := [], laidByText := true, laidKinds := [.data, .data, .data, .sentinel, .sentinel], laidTests := true, laidLooks := .later }
def HexNumsCardSaid : Prop := Claim7.holds Tryd.pinned (.plain (OpenSpec.ofChange hexNumsSpec)) hexNumsCard

/-- THE TIED CARD OF 'catwalklaw08.IdsPlays'. -/
def idsPlaysCard : Claim7 := { stood := { row := idsPlaysRow, standIns := [], harness := (true, "651796955fe79b19acf2e3425feb7d6c3d113ab5bfe34a8c2530062e3593627c"), looks := true }, kinds := [], alts := [], laidByText := true, laidKinds := [.data], laidTests := true, laidLooks := .later }
def IdsPlaysCardSaid : Prop := Claim7.holds Tryd.pinned (.plain (OpenSpec.ofChange idsPlaysSpec)) idsPlaysCard

/-- THE TIED CARD OF 'catwalklaw08.IdsFull'. -/
def idsFullCard : Claim7 := { stood := { row := idsFullRow, standIns := [], harness := (true, "651796955fe79b19acf2e3425feb7d6c3d113ab5bfe34a8c2530062e3593627c"), looks := true }, kinds := [], alts := [], laidByText := true, laidKinds := [.data], laidTests := true, laidLooks := .later }
def IdsFullCardSaid : Prop := Claim7.holds Tryd.pinned (.plain (OpenSpec.ofChange idsFullSpec)) idsFullCard

/-- THE SECOND FORM's CARD OF 'catwalklaw03.HexNums'. -/
def hexNumsUptoCard : Claim7 := { stood := { row := hexNumsUptoRow, standIns := [], harness := (true, "651796955fe79b19acf2e3425feb7d6c3d113ab5bfe34a8c2530062e3593627c"), looks := true }, kinds := [], alts := [], laidByText := true, laidKinds := [.data, .data, .data, .sentinel, .sentinel], laidTests := true, laidLooks := .later }
def HexNumsUptoCardSaid : Prop := Claim7.holds Tryd.pinned (.plain (OpenSpec.upto hexNumsSpec)) hexNumsUptoCard

/-- THE SECOND FORM's CARD OF 'catwalklaw08.IdsPlays'. -/
def idsPlaysUptoCard : Claim7 := { stood := { row := idsPlaysUptoRow, standIns := [], harness := (true, "651796955fe79b19acf2e3425feb7d6c3d113ab5bfe34a8c2530062e3593627c"), looks := true }, kinds := [], alts := [], laidByText := true, laidKinds := [.data], laidTests := true, laidLooks := .later }
def IdsPlaysUptoCardSaid : Prop := Claim7.holds Tryd.pinned (.plain (OpenSpec.upto idsPlaysSpec)) idsPlaysUptoCard

/-- THE SECOND FORM's CARD OF 'catwalklaw08.IdsFull'. -/
def idsFullUptoCard : Claim7 := { stood := { row := idsFullUptoRow, standIns := [], harness := (true, "651796955fe79b19acf2e3425feb7d6c3d113ab5bfe34a8c2530062e3593627c"), looks := true }, kinds := [], alts := [], laidByText := true, laidKinds := [.data], laidTests := true, laidLooks := .later }
def IdsFullUptoCardSaid : Prop := Claim7.holds Tryd.pinned (.plain (OpenSpec.upto idsFullSpec)) idsFullUptoCard
end Rows
end Go.Proofs.YtmoolhneofbfdaaDoor
