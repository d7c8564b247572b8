/-
  DERIVED. GIVEN WITH THE SEED: THE CARDS: each row of YtjcmceomhocmpaaDoorRows.lean that lists a variable, with what it lists TIED to the program's text (the seventh form; the later family's looks); each row that meets fmt, with fmt's text TOLD by the authors' own Lean function (tested against real Go, not proved from fmt's source: count such statements apart). THE CARD IS WHAT COUNTS. Prove the row's statement (the work); the ties are given (YtjcmceomhocmpaaDoorTie.lean); close each card by the builder's one call (the guide's Derived/Test/ToyasCard.lean, 'card_holds'). Laid BY PROGRAM, IN A SANDBOX (cutbox-door.mjs). By AI agents, Wed Nov 11 2026. No macro, syntax, notation, axiom, sorry.
-/
import Derived.Test.YtjcmceomhocmpaaDoorRows
import GoSem.ClaimSeven
namespace Go.Proofs.YtjcmceomhocmpaaDoor
namespace Rows

/-- THE TIED CARD OF 'catwalklaw06.AddrTexts'. -/
def addrTextsCard : Claim7 := { stood := { row := addrTextsRow, standIns := [], harness := (true, "6fe1c6155cbb6149b01d4f4e25e4a8a23bc45326a7bed15d49a19d04146d314b"), looks := true }, kinds := [], alts := [], laidByText := true, laidKinds := [.data, .data, .data, .data, .sentinel, .sentinel, .pinned], laidTests := true, laidLooks := .later }
def AddrTextsCardSaid : Prop := Claim7.holds Tryd.pinned (.plain (OpenSpec.ofChange addrTextsSpec)) addrTextsCard

/-- THE TIED CARD OF 'catwalklaw03.HexNums'. -/
def hexNumsCard : Claim7 := { stood := { row := hexNumsRow, standIns := [], harness := (true, "6fe1c6155cbb6149b01d4f4e25e4a8a23bc45326a7bed15d49a19d04146d314b"), looks := true }, kinds := [], alts := [], laidByText := true, laidKinds := [.data, .data, .data, .sentinel, .sentinel], laidTests := true, laidLooks := .later }
def HexNumsCardSaid : Prop := Claim7.holds Tryd.pinned (.plain (OpenSpec.ofChange hexNumsSpec)) hexNumsCard

/-- THE SECOND FORM's CARD OF 'catwalklaw06.AddrTexts'. -/
def addrTextsUptoCard : Claim7 := { stood := { row := addrTextsUptoRow, standIns := [], harness := (true, "6fe1c6155cbb6149b01d4f4e25e4a8a23bc45326a7bed15d49a19d04146d314b"), looks := true }, kinds := [], alts := [], laidByText := true, laidKinds := [.data, .data, .data, .data, .sentinel, .sentinel, .pinned], laidTests := true, laidLooks := .later }
def AddrTextsUptoCardSaid : Prop := Claim7.holds Tryd.pinned (.plain (OpenSpec.upto addrTextsSpec)) addrTextsUptoCard

/-- THE SECOND FORM's CARD OF 'catwalklaw03.HexNums'. -/
def hexNumsUptoCard : Claim7 := { stood := { row := hexNumsUptoRow, standIns := [], harness := (true, "6fe1c6155cbb6149b01d4f4e25e4a8a23bc45326a7bed15d49a19d04146d314b"), looks := true }, kinds := [], alts := [], laidByText := true, laidKinds := [.data, .data, .data, .sentinel, .sentinel], laidTests := true, laidLooks := .later }
def HexNumsUptoCardSaid : Prop := Claim7.holds Tryd.pinned (.plain (OpenSpec.upto hexNumsSpec)) hexNumsUptoCard
end Rows
end Go.Proofs.YtjcmceomhocmpaaDoor
