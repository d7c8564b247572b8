/-
  DERIVED. GIVEN WITH THE SEED: THE CARDS: each row of YtnfklhebcloolabDoorRows.lean that lists a variable, with what it lists TIED to the program's text (the seventh form; the later family's looks); each row that meets fmt, with fmt's text TOLD by the authors' own Lean function (tested against real Go, not proved from fmt's source: count such statements apart). THE CARD IS WHAT COUNTS. Prove the row's statement (the work); the ties are given (YtnfklhebcloolabDoorTie.lean); close each card by the builder's one call (the guide's Derived/Test/ToyasCard.lean, 'card_holds'). Laid BY PROGRAM, IN A SANDBOX (cutbox-door.mjs). By AI agents, Wed Nov 11 2026. No macro, syntax, notation, axiom, sorry.
-/
import Derived.Test.YtnfklhebcloolabDoorRows
import GoSem.ClaimSeven
namespace Go.Proofs.YtnfklhebcloolabDoor
namespace Rows

/-- THE TIED CARD OF 'catwalklaw26.CidrTells'. -/
def cidrTellsCard : Claim7 := { stood := { row := cidrTellsRow, standIns := [], harness := (true, "6d30361f737eb43abe25c6c8673d81e6ee3ec0102be10d81385826ec67d476ec"), looks := true }, kinds := [], alts := [], laidByText := true, laidKinds := [.data], laidTests := true, laidLooks := .later }
def CidrTellsCardSaid : Prop := Claim7.holds Tryd.pinned (.plain (OpenSpec.ofChange cidrTellsSpec)) cidrTellsCard

/-- THE TIED CARD OF 'catwalklaw26.CidrCovers'. -/
def cidrCoversCard : Claim7 := { stood := { row := cidrCoversRow, standIns := [], harness := (true, "6d30361f737eb43abe25c6c8673d81e6ee3ec0102be10d81385826ec67d476ec"), looks := true }, kinds := [], alts := [], laidByText := true, laidKinds := [.data], laidTests := true, laidLooks := .later }
def CidrCoversCardSaid : Prop := Claim7.holds Tryd.pinned (.plain (OpenSpec.ofChange cidrCoversSpec)) cidrCoversCard

/-- THE TIED CARD OF 'catwalklaw26.CidrMerges'. -/
def cidrMergesCard : Claim7 := { stood := { row := cidrMergesRow, standIns := [], harness := (true, "6d30361f737eb43abe25c6c8673d81e6ee3ec0102be10d81385826ec67d476ec"), looks := true }, kinds := [], alts := [], laidByText := true, laidKinds := [.data], laidTests := true, laidLooks := .later }
def CidrMergesCardSaid : Prop := Claim7.holds Tryd.pinned (.plain (OpenSpec.ofChange cidrMergesSpec)) cidrMergesCard

/-- THE TIED CARD OF 'catwalklaw26.CidrTexts'. -/
def cidrTextsCard : Claim7 := { stood := { row := cidrTextsRow, standIns := [], harness := (true, "6d30361f737eb43abe25c6c8673d81e6ee3ec0102be10d81385826ec67d476ec"), looks := true }, kinds := [], alts := [], laidByText := true, laidKinds := [.data, .data, .data, .data, .sentinel, .sentinel, .pinned], laidTests := true, laidLooks := .later }
def CidrTextsCardSaid : Prop := Claim7.holds Tryd.pinned (.plain (OpenSpec.ofChange cidrTextsSpec)) cidrTextsCard

/-- THE SECOND FORM's CARD OF 'catwalklaw26.CidrTells'. -/
def cidrTellsUptoCard : Claim7 := { stood := { row := cidrTellsUptoRow, standIns := [], harness := (true, "6d30361f737eb43abe25c6c8673d81e6ee3ec0102be10d81385826ec67d476ec"), looks := true }, kinds := [], alts := [], laidByText := true, laidKinds := [.data], laidTests := true, laidLooks := .later }
def CidrTellsUptoCardSaid : Prop := Claim7.holds Tryd.pinned (.plain (OpenSpec.upto cidrTellsSpec)) cidrTellsUptoCard

/-- THE SECOND FORM's CARD OF 'catwalklaw26.CidrCovers'. -/
def cidrCoversUptoCard : Claim7 := { stood := { row := cidrCoversUptoRow, standIns := [], harness := (true, "6d30361f737eb43abe25c6c8673d81e6ee3ec0102be10d81385826ec67d476ec"), looks := true }, kinds := [], alts := [], laidByText := true, laidKinds := [.data], laidTests := true, laidLooks := .later }
def CidrCoversUptoCardSaid : Prop := Claim7.holds Tryd.pinned (.plain (OpenSpec.upto cidrCoversSpec)) cidrCoversUptoCard

/-- THE SECOND FORM's CARD OF 'catwalklaw26.CidrMerges'. -/
def cidrMergesUptoCard : Claim7 := { stood := { row := cidrMergesUptoRow, standIns := [], harness := (true, "6d30361f737eb43abe25c6c8673d81e6ee3ec0102be10d81385826ec67d476ec"), looks := true }, kinds := [], alts := [], laidByText := true, laidKinds := [.data], laidTests := true, laidLooks := .later }
def CidrMergesUptoCardSaid : Prop := Claim7.holds Tryd.pinned (.plain (OpenSpec.upto cidrMergesSpec)) cidrMergesUptoCard

/-- THE SECOND FORM's CARD OF 'catwalklaw26.CidrTexts'. -/
def cidrTextsUptoCard : Claim7 := { stood := { row := cidrTextsUptoRow, standIns := [], harness := (true, "6d30361f737eb43abe25c6c8673d81e6ee3ec0102be10d81385826ec67d476ec"), looks := true }, kinds := [], alts := [], laidByText := true, laidKinds := [.data, .data, .data, .data, .sentinel, .sentinel, .pinned], laidTests := true, laidLooks := .later }
def CidrTextsUptoCardSaid : Prop := Claim7.holds Tryd.pinned (.plain (OpenSpec.upto cidrTextsSpec)) cidrTextsUptoCard
end Rows
end Go.Proofs.YtnfklhebcloolabDoor
