/-
  DERIVED. GIVEN WITH THE SEED: THE CARDS: each row of YtgegejdkehbeeaaDoorRows.lean that lists a variable, with what it lists TIED to the program's text (the seventh form; the later family's looks); each row that meets fmt, with fmt's text TOLD by the authors' own Lean function (tested against real Go, not proved from fmt's source: count such statements apart). THE CARD IS WHAT COUNTS. Prove the row's statement (the work); the ties are given (YtgegejdkehbeeaaDoorTie.lean); close each card by the builder's one call (the guide's Derived/Test/ToyasCard.lean, 'card_holds'). Laid BY PROGRAM, IN A SANDBOX (cutbox-door.mjs). By AI agents, Wed Nov 11 2026. No macro, syntax, notation, axiom, sorry.
-/
import Derived.Test.YtgegejdkehbeeaaDoorRows
import GoSem.ClaimSeven
namespace Go.Proofs.YtgegejdkehbeeaaDoor
namespace Rows

/-- THE TIED CARD OF 'catwalklaw04.Md5Of'. -/
def md5OfCard : Claim7 := { stood := { row := md5OfRow, standIns := [], harness := (true, "b2f13917736b1c5475b2a20532cbda4694c9de82cf87aa8a1671b206e0867a07"), looks := true }, kinds := [], alts := [], laidByText := true, laidKinds := [.data, .data, .data], laidTests := true, laidLooks := .later }
def Md5OfCardSaid : Prop := Claim7.holds Tryd.pinned (.plain (OpenSpec.ofChange md5OfSpec)) md5OfCard

/-- THE TIED CARD OF 'catwalklaw04.Md5Pieces'. -/
def md5PiecesCard : Claim7 := { stood := { row := md5PiecesRow, standIns := [], harness := (true, "b2f13917736b1c5475b2a20532cbda4694c9de82cf87aa8a1671b206e0867a07"), looks := true }, kinds := [], alts := [], laidByText := true, laidKinds := [.data, .data, .data], laidTests := true, laidLooks := .later }
def Md5PiecesCardSaid : Prop := Claim7.holds Tryd.pinned (.plain (OpenSpec.ofChange md5PiecesSpec)) md5PiecesCard

/-- THE TIED CARD OF 'catwalklaw04.Md5Same'. -/
def md5SameCard : Claim7 := { stood := { row := md5SameRow, standIns := [], harness := (true, "b2f13917736b1c5475b2a20532cbda4694c9de82cf87aa8a1671b206e0867a07"), looks := true }, kinds := [], alts := [], laidByText := true, laidKinds := [.data, .data, .data], laidTests := true, laidLooks := .later }
def Md5SameCardSaid : Prop := Claim7.holds Tryd.pinned (.plain (OpenSpec.ofChange md5SameSpec)) md5SameCard

/-- THE TIED CARD OF 'catwalklaw06.AddrTexts'. -/
def addrTextsCard : Claim7 := { stood := { row := addrTextsRow, standIns := [], harness := (true, "b2f13917736b1c5475b2a20532cbda4694c9de82cf87aa8a1671b206e0867a07"), looks := true }, kinds := [], alts := [], laidByText := true, laidKinds := [.data, .data, .data, .data, .sentinel, .sentinel, .pinned], laidTests := true, laidLooks := .later }
def AddrTextsCardSaid : Prop := Claim7.holds Tryd.pinned (.plain (OpenSpec.ofChange addrTextsSpec)) addrTextsCard

/-- THE TIED CARD OF 'catwalklaw06.AddrNext'. -/
def addrNextCard : Claim7 := { stood := { row := addrNextRow, standIns := [], harness := (true, "b2f13917736b1c5475b2a20532cbda4694c9de82cf87aa8a1671b206e0867a07"), looks := true }, kinds := [], alts := [], laidByText := true, laidKinds := [.data, .data, .data], laidTests := true, laidLooks := .later }
def AddrNextCardSaid : Prop := Claim7.holds Tryd.pinned (.plain (OpenSpec.ofChange addrNextSpec)) addrNextCard

/-- THE TIED CARD OF 'catwalklaw08.IdsPlays'. -/
def idsPlaysCard : Claim7 := { stood := { row := idsPlaysRow, standIns := [], harness := (true, "b2f13917736b1c5475b2a20532cbda4694c9de82cf87aa8a1671b206e0867a07"), looks := true }, kinds := [], alts := [], laidByText := true, laidKinds := [.data], laidTests := true, laidLooks := .later }
def IdsPlaysCardSaid : Prop := Claim7.holds Tryd.pinned (.plain (OpenSpec.ofChange idsPlaysSpec)) idsPlaysCard

/-- THE TIED CARD OF 'catwalklaw08.IdsFull'. -/
def idsFullCard : Claim7 := { stood := { row := idsFullRow, standIns := [], harness := (true, "b2f13917736b1c5475b2a20532cbda4694c9de82cf87aa8a1671b206e0867a07"), looks := true }, kinds := [], alts := [], laidByText := true, laidKinds := [.data], laidTests := true, laidLooks := .later }
def IdsFullCardSaid : Prop := Claim7.holds Tryd.pinned (.plain (OpenSpec.ofChange idsFullSpec)) idsFullCard

/-- THE SECOND FORM's CARD OF 'catwalklaw04.Md5Of'. -/
def md5OfUptoCard : Claim7 := { stood := { row := md5OfUptoRow, standIns := [], harness := (true, "b2f13917736b1c5475b2a20532cbda4694c9de82cf87aa8a1671b206e0867a07"), looks := true }, kinds := [], alts := [], laidByText := true, laidKinds := [.data, .data, .data], laidTests := true, laidLooks := .later }
def Md5OfUptoCardSaid : Prop := Claim7.holds Tryd.pinned (.plain (OpenSpec.upto md5OfSpec)) md5OfUptoCard

/-- THE SECOND FORM's CARD OF 'catwalklaw04.Md5Pieces'. -/
def md5PiecesUptoCard : Claim7 := { stood := { row := md5PiecesUptoRow, standIns := [], harness := (true, "b2f13917736b1c5475b2a20532cbda4694c9de82cf87aa8a1671b206e0867a07"), looks := true }, kinds := [], alts := [], laidByText := true, laidKinds := [.data, .data, .data], laidTests := true, laidLooks := .later }
def Md5PiecesUptoCardSaid : Prop := Claim7.holds Tryd.pinned (.plain (OpenSpec.upto md5PiecesSpec)) md5PiecesUptoCard

/-- THE SECOND FORM's CARD OF 'catwalklaw04.Md5Same'. -/
def md5SameUptoCard : Claim7 := { stood := { row := md5SameUptoRow, standIns := [], harness := (true, "b2f13917736b1c5475b2a20532cbda4694c9de82cf87aa8a1671b206e0867a07"), looks := true }, kinds := [], alts := [], laidByText := true, laidKinds := [.data, .data, .data], laidTests := true, laidLooks := .later }
def Md5SameUptoCardSaid : Prop := Claim7.holds Tryd.pinned (.plain (OpenSpec.upto md5SameSpec)) md5SameUptoCard

/-- THE SECOND FORM's CARD OF 'catwalklaw06.AddrTexts'. -/
def addrTextsUptoCard : Claim7 := { stood := { row := addrTextsUptoRow, standIns := [], harness := (true, "b2f13917736b1c5475b2a20532cbda4694c9de82cf87aa8a1671b206e0867a07"), looks := true }, kinds := [], alts := [], laidByText := true, laidKinds := [.data, .data, .data, .data, .sentinel, .sentinel, .pinned], laidTests := true, laidLooks := .later }
def AddrTextsUptoCardSaid : Prop := Claim7.holds Tryd.pinned (.plain (OpenSpec.upto addrTextsSpec)) addrTextsUptoCard

/-- THE SECOND FORM's CARD OF 'catwalklaw06.AddrNext'. -/
def addrNextUptoCard : Claim7 := { stood := { row := addrNextUptoRow, standIns := [], harness := (true, "b2f13917736b1c5475b2a20532cbda4694c9de82cf87aa8a1671b206e0867a07"), looks := true }, kinds := [], alts := [], laidByText := true, laidKinds := [.data, .data, .data], laidTests := true, laidLooks := .later }
def AddrNextUptoCardSaid : Prop := Claim7.holds Tryd.pinned (.plain (OpenSpec.upto addrNextSpec)) addrNextUptoCard

/-- THE SECOND FORM's CARD OF 'catwalklaw08.IdsPlays'. -/
def idsPlaysUptoCard : Claim7 := { stood := { row := idsPlaysUptoRow, standIns := [], harness := (true, "b2f13917736b1c5475b2a20532cbda4694c9de82cf87aa8a1671b206e0867a07"), looks := true }, kinds := [], alts := [], laidByText := true, laidKinds := [.data], laidTests := true, laidLooks := .later }
def IdsPlaysUptoCardSaid : Prop := Claim7.holds Tryd.pinned (.plain (OpenSpec.upto idsPlaysSpec)) idsPlaysUptoCard

/-- THE SECOND FORM's CARD OF 'catwalklaw08.IdsFull'. -/
def idsFullUptoCard : Claim7 := { stood := { row := idsFullUptoRow, standIns := [], harness := (true, "b2f13917736b1c5475b2a20532cbda4694c9de82cf87aa8a1671b206e0867a07"), looks := true }, kinds := [], alts := [], laidByText := true, laidKinds := [.data], laidTests := true, laidLooks := .later }
def IdsFullUptoCardSaid : Prop := Claim7.holds Tryd.pinned (.plain (OpenSpec.upto idsFullSpec)) idsFullUptoCard
end Rows
end Go.Proofs.YtgegejdkehbeeaaDoor
