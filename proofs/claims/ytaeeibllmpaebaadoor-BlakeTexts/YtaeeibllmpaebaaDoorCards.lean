/-
  DERIVED. GIVEN WITH THE SEED: THE CARDS: each row of YtaeeibllmpaebaaDoorRows.lean that lists a variable, with what it lists TIED to the program's text (the seventh form; the later family's looks); each row that meets fmt, with fmt's text TOLD by the authors' own Lean function (tested against real Go, not proved from fmt's source: count such statements apart). THE CARD IS WHAT COUNTS. Prove the row's statement (the work); the ties are given (YtaeeibllmpaebaaDoorTie.lean); close each card by the builder's one call (the guide's Derived/Test/ToyasCard.lean, 'card_holds'). Laid BY PROGRAM, IN A SANDBOX (cutbox-door.mjs). By AI agents, Wed Nov 11 2026. No macro, syntax, notation, axiom, sorry.
-/
import Derived.Test.YtaeeibllmpaebaaDoorRows
import GoSem.ClaimSeven
namespace Go.Proofs.YtaeeibllmpaebaaDoor
namespace Rows

/-- THE TIED CARD OF 'aquiferlaw02.BlakeOf'. -/
def blakeOfCard : Claim7 := { stood := { row := blakeOfRow, standIns := [], harness := (true, "14a73662daa3d89efbd8a4f4e434be0553af813459baabce12d8ac5970d56d9e"), looks := false }, kinds := [], alts := [], laidByText := true, laidKinds := [.data, .data], laidTests := true, laidLooks := .later }
def BlakeOfCardSaid : Prop := Claim7.holds Tryd.pinned (.plain (OpenSpec.ofChange blakeOfSpec)) blakeOfCard

/-- THE TIED CARD OF 'aquiferlaw02.BlakeEdges'. -/
def blakeEdgesCard : Claim7 := { stood := { row := blakeEdgesRow, standIns := [], harness := (true, "14a73662daa3d89efbd8a4f4e434be0553af813459baabce12d8ac5970d56d9e"), looks := false }, kinds := [], alts := [], laidByText := true, laidKinds := [.data, .data], laidTests := true, laidLooks := .later }
def BlakeEdgesCardSaid : Prop := Claim7.holds Tryd.pinned (.plain (OpenSpec.ofChange blakeEdgesSpec)) blakeEdgesCard

/-- THE TIED CARD OF 'aquiferlaw02.BlakePlays'. -/
def blakePlaysCard : Claim7 := { stood := { row := blakePlaysRow, standIns := [], harness := (true, "14a73662daa3d89efbd8a4f4e434be0553af813459baabce12d8ac5970d56d9e"), looks := false }, kinds := [], alts := [], laidByText := true, laidKinds := [.data, .data], laidTests := true, laidLooks := .later }
def BlakePlaysCardSaid : Prop := Claim7.holds Tryd.pinned (.plain (OpenSpec.ofChange blakePlaysSpec)) blakePlaysCard

/-- THE TIED CARD OF 'aquiferlaw02.BlakeTexts'. -/
def blakeTextsCard : Claim7 := { stood := { row := blakeTextsRow, standIns := [], harness := (true, "14a73662daa3d89efbd8a4f4e434be0553af813459baabce12d8ac5970d56d9e"), looks := false }, kinds := [], alts := [], laidByText := true, laidKinds := [.data, .data], laidTests := true, laidLooks := .later }
def BlakeTextsCardSaid : Prop := Claim7.holds Tryd.pinned (.plain (OpenSpec.ofChange blakeTextsSpec)) blakeTextsCard

/-- THE TIED CARD OF 'aquiferlaw02.BlakePieces'. -/
def blakePiecesCard : Claim7 := { stood := { row := blakePiecesRow, standIns := [], harness := (true, "14a73662daa3d89efbd8a4f4e434be0553af813459baabce12d8ac5970d56d9e"), looks := false }, kinds := [], alts := [], laidByText := true, laidKinds := [.data, .data], laidTests := true, laidLooks := .later }
def BlakePiecesCardSaid : Prop := Claim7.holds Tryd.pinned (.plain (OpenSpec.ofChange blakePiecesSpec)) blakePiecesCard

/-- THE TIED CARD OF 'aquiferlaw02.BlakeNobody'. -/
def blakeNobodyCard : Claim7 := { stood := { row := blakeNobodyRow, standIns := [], harness := (true, "14a73662daa3d89efbd8a4f4e434be0553af813459baabce12d8ac5970d56d9e"), looks := false }, kinds := [], alts := [], laidByText := true, laidKinds := [.data, .data], laidTests := true, laidLooks := .later }
def BlakeNobodyCardSaid : Prop := Claim7.holds Tryd.pinned (.plain (OpenSpec.ofChange blakeNobodySpec)) blakeNobodyCard

/-- THE SECOND FORM's CARD OF 'aquiferlaw02.BlakeOf'. -/
def blakeOfUptoCard : Claim7 := { stood := { row := blakeOfUptoRow, standIns := [], harness := (true, "14a73662daa3d89efbd8a4f4e434be0553af813459baabce12d8ac5970d56d9e"), looks := false }, kinds := [], alts := [], laidByText := true, laidKinds := [.data, .data], laidTests := true, laidLooks := .later }
def BlakeOfUptoCardSaid : Prop := Claim7.holds Tryd.pinned (.plain (OpenSpec.upto blakeOfSpec)) blakeOfUptoCard

/-- THE SECOND FORM's CARD OF 'aquiferlaw02.BlakeEdges'. -/
def blakeEdgesUptoCard : Claim7 := { stood := { row := blakeEdgesUptoRow, standIns := [], harness := (true, "14a73662daa3d89efbd8a4f4e434be0553af813459baabce12d8ac5970d56d9e"), looks := false }, kinds := [], alts := [], laidByText := true, laidKinds := [.data, .data], laidTests := true, laidLooks := .later }
def BlakeEdgesUptoCardSaid : Prop := Claim7.holds Tryd.pinned (.plain (OpenSpec.upto blakeEdgesSpec)) blakeEdgesUptoCard

/-- THE SECOND FORM's CARD OF 'aquiferlaw02.BlakePlays'. -/
def blakePlaysUptoCard : Claim7 := { stood := { row := blakePlaysUptoRow, standIns := [], harness := (true, "14a73662daa3d89efbd8a4f4e434be0553af813459baabce12d8ac5970d56d9e"), looks := false }, kinds := [], alts := [], laidByText := true, laidKinds := [.data, .data], laidTests := true, laidLooks := .later }
def BlakePlaysUptoCardSaid : Prop := Claim7.holds Tryd.pinned (.plain (OpenSpec.upto blakePlaysSpec)) blakePlaysUptoCard

/-- THE SECOND FORM's CARD OF 'aquiferlaw02.BlakeTexts'. -/
def blakeTextsUptoCard : Claim7 := { stood := { row := blakeTextsUptoRow, standIns := [], harness := (true, "14a73662daa3d89efbd8a4f4e434be0553af813459baabce12d8ac5970d56d9e"), looks := false }, kinds := [], alts := [], laidByText := true, laidKinds := [.data, .data], laidTests := true, laidLooks := .later }
def BlakeTextsUptoCardSaid : Prop := Claim7.holds Tryd.pinned (.plain (OpenSpec.upto blakeTextsSpec)) blakeTextsUptoCard

/-- THE SECOND FORM's CARD OF 'aquiferlaw02.BlakePieces'. -/
def blakePiecesUptoCard : Claim7 := { stood := { row := blakePiecesUptoRow, standIns := [], harness := (true, "14a73662daa3d89efbd8a4f4e434be0553af813459baabce12d8ac5970d56d9e"), looks := false }, kinds := [], alts := [], laidByText := true, laidKinds := [.data, .data], laidTests := true, laidLooks := .later }
def BlakePiecesUptoCardSaid : Prop := Claim7.holds Tryd.pinned (.plain (OpenSpec.upto blakePiecesSpec)) blakePiecesUptoCard

/-- THE SECOND FORM's CARD OF 'aquiferlaw02.BlakeNobody'. -/
def blakeNobodyUptoCard : Claim7 := { stood := { row := blakeNobodyUptoRow, standIns := [], harness := (true, "14a73662daa3d89efbd8a4f4e434be0553af813459baabce12d8ac5970d56d9e"), looks := false }, kinds := [], alts := [], laidByText := true, laidKinds := [.data, .data], laidTests := true, laidLooks := .later }
def BlakeNobodyUptoCardSaid : Prop := Claim7.holds Tryd.pinned (.plain (OpenSpec.upto blakeNobodySpec)) blakeNobodyUptoCard
end Rows
end Go.Proofs.YtaeeibllmpaebaaDoor
