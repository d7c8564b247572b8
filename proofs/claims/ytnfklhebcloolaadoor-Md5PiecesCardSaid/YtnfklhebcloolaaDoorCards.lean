/-
  DERIVED. GIVEN WITH THE SEED: THE CARDS: each row of YtnfklhebcloolaaDoorRows.lean that lists a variable, with what it lists TIED to the program's text (the seventh form; the later family's looks); each row that meets fmt, with fmt's text TOLD by the authors' own Lean function (tested against real Go, not proved from fmt's source: count such statements apart). THE CARD IS WHAT COUNTS. Prove the row's statement (the work); the ties are given (YtnfklhebcloolaaDoorTie.lean); close each card by the builder's one call (the guide's Derived/Test/ToyasCard.lean, 'card_holds'). Laid BY PROGRAM, IN A SANDBOX (cutbox-door.mjs). By AI agents, Wed Nov 11 2026. No macro, syntax, notation, axiom, sorry.
-/
import Derived.Test.YtnfklhebcloolaaDoorRows
import GoSem.ClaimSeven
namespace Go.Proofs.YtnfklhebcloolaaDoor
namespace Rows

/-- THE TIED CARD OF 'catwalklaw04.Md5Of'. -/
def md5OfCard : Claim7 := { stood := { row := md5OfRow, standIns := [], harness := (true, "19782ae484a4ae97c67a642e65a14608304aec11185172171083b1c757746526"), looks := false }, kinds := [], alts := [], laidByText := true, laidKinds := [.data, .data, .data], laidTests := true, laidLooks := .later }
def Md5OfCardSaid : Prop := Claim7.holds Tryd.pinned (.plain (OpenSpec.ofChange md5OfSpec)) md5OfCard

/-- THE TIED CARD OF 'catwalklaw04.Md5Pieces'. -/
def md5PiecesCard : Claim7 := { stood := { row := md5PiecesRow, standIns := [], harness := (true, "19782ae484a4ae97c67a642e65a14608304aec11185172171083b1c757746526"), looks := false }, kinds := [], alts := [], laidByText := true, laidKinds := [.data, .data, .data], laidTests := true, laidLooks := .later }
def Md5PiecesCardSaid : Prop := Claim7.holds Tryd.pinned (.plain (OpenSpec.ofChange md5PiecesSpec)) md5PiecesCard

/-- THE TIED CARD OF 'catwalklaw04.Md5Same'. -/
def md5SameCard : Claim7 := { stood := { row := md5SameRow, standIns := [], harness := (true, "19782ae484a4ae97c67a642e65a14608304aec11185172171083b1c757746526"), looks := false }, kinds := [], alts := [], laidByText := true, laidKinds := [.data, .data, .data], laidTests := true, laidLooks := .later }
def Md5SameCardSaid : Prop := Claim7.holds Tryd.pinned (.plain (OpenSpec.ofChange md5SameSpec)) md5SameCard

/-- THE TIED CARD OF 'catwalklaw08.IdsPlays'. -/
def idsPlaysCard : Claim7 := { stood := { row := idsPlaysRow, standIns := [], harness := (true, "19782ae484a4ae97c67a642e65a14608304aec11185172171083b1c757746526"), looks := false }, kinds := [], alts := [], laidByText := true, laidKinds := [.data], laidTests := true, laidLooks := .later }
def IdsPlaysCardSaid : Prop := Claim7.holds Tryd.pinned (.plain (OpenSpec.ofChange idsPlaysSpec)) idsPlaysCard

/-- THE SECOND FORM's CARD OF 'catwalklaw04.Md5Of'. -/
def md5OfUptoCard : Claim7 := { stood := { row := md5OfUptoRow, standIns := [], harness := (true, "19782ae484a4ae97c67a642e65a14608304aec11185172171083b1c757746526"), looks := false }, kinds := [], alts := [], laidByText := true, laidKinds := [.data, .data, .data], laidTests := true, laidLooks := .later }
def Md5OfUptoCardSaid : Prop := Claim7.holds Tryd.pinned (.plain (OpenSpec.upto md5OfSpec)) md5OfUptoCard

/-- THE SECOND FORM's CARD OF 'catwalklaw04.Md5Pieces'. -/
def md5PiecesUptoCard : Claim7 := { stood := { row := md5PiecesUptoRow, standIns := [], harness := (true, "19782ae484a4ae97c67a642e65a14608304aec11185172171083b1c757746526"), looks := false }, kinds := [], alts := [], laidByText := true, laidKinds := [.data, .data, .data], laidTests := true, laidLooks := .later }
def Md5PiecesUptoCardSaid : Prop := Claim7.holds Tryd.pinned (.plain (OpenSpec.upto md5PiecesSpec)) md5PiecesUptoCard

/-- THE SECOND FORM's CARD OF 'catwalklaw04.Md5Same'. -/
def md5SameUptoCard : Claim7 := { stood := { row := md5SameUptoRow, standIns := [], harness := (true, "19782ae484a4ae97c67a642e65a14608304aec11185172171083b1c757746526"), looks := false }, kinds := [], alts := [], laidByText := true, laidKinds := [.data, .data, .data], laidTests := true, laidLooks := .later }
def Md5SameUptoCardSaid : Prop := Claim7.holds Tryd.pinned (.plain (OpenSpec.upto md5SameSpec)) md5SameUptoCard

/-- THE SECOND FORM's CARD OF 'catwalklaw08.IdsPlays'. -/
def idsPlaysUptoCard : Claim7 := { stood := { row := idsPlaysUptoRow, standIns := [], harness := (true, "19782ae484a4ae97c67a642e65a14608304aec11185172171083b1c757746526"), looks := false }, kinds := [], alts := [], laidByText := true, laidKinds := [.data], laidTests := true, laidLooks := .later }
def IdsPlaysUptoCardSaid : Prop := Claim7.holds Tryd.pinned (.plain (OpenSpec.upto idsPlaysSpec)) idsPlaysUptoCard
end Rows
end Go.Proofs.YtnfklhebcloolaaDoor
