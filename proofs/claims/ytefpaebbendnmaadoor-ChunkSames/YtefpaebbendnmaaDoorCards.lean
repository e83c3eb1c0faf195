/-
  DERIVED. GIVEN WITH THE SEED: THE CARDS: each row of YtefpaebbendnmaaDoorRows.lean that lists a variable, with what it lists TIED to the program's text (the seventh form; the later family's looks); each row that meets fmt, with fmt's text TOLD by the authors' own Lean function (tested against real Go, not proved from fmt's source: count such statements apart). THE CARD IS WHAT COUNTS. Prove the row's statement (the work); the ties are given (YtefpaebbendnmaaDoorTie.lean); close each card by the builder's one call (the guide's Derived/Test/ToyasCard.lean, 'card_holds'). Laid BY PROGRAM, IN A SANDBOX (cutbox-door.mjs). By AI agents, Wed Nov 11 2026. No macro, syntax, notation, axiom, sorry.
-/
import Derived.Test.YtefpaebbendnmaaDoorRows
import GoSem.ClaimSeven
namespace Go.Proofs.YtefpaebbendnmaaDoor
namespace Rows

/-- THE TIED CARD OF 'aquiferlaw15.ChunkSames'. -/
def chunkSamesCard : Claim7 := { stood := { row := chunkSamesRow, standIns := [], harness := (true, "b4971b0c5e10c0acac9e05ea26ad053c0fce73af764dccfd5e19b148fe4a760c"), looks := false }, kinds := [], alts := [], laidByText := true, laidKinds := [.data, .data], laidTests := true, laidLooks := .later }
def ChunkSamesCardSaid : Prop := Claim7.holds Tryd.pinned (.plain (OpenSpec.ofChange chunkSamesSpec)) chunkSamesCard

/-- THE TIED CARD OF 'aquiferlaw15.ChunkCutting'. -/
def chunkCuttingCard : Claim7 := { stood := { row := chunkCuttingRow, standIns := [], harness := (true, "b4971b0c5e10c0acac9e05ea26ad053c0fce73af764dccfd5e19b148fe4a760c"), looks := false }, kinds := [], alts := [], laidByText := true, laidKinds := [.data, .pinned], laidTests := true, laidLooks := .later }
def ChunkCuttingCardSaid : Prop := Claim7.holds Tryd.pinned (.plain (OpenSpec.ofChange chunkCuttingSpec)) chunkCuttingCard

/-- THE SECOND FORM's CARD OF 'aquiferlaw15.ChunkSames'. -/
def chunkSamesUptoCard : Claim7 := { stood := { row := chunkSamesUptoRow, standIns := [], harness := (true, "b4971b0c5e10c0acac9e05ea26ad053c0fce73af764dccfd5e19b148fe4a760c"), looks := false }, kinds := [], alts := [], laidByText := true, laidKinds := [.data, .data], laidTests := true, laidLooks := .later }
def ChunkSamesUptoCardSaid : Prop := Claim7.holds Tryd.pinned (.plain (OpenSpec.upto chunkSamesSpec)) chunkSamesUptoCard

/-- THE SECOND FORM's CARD OF 'aquiferlaw15.ChunkCutting'. -/
def chunkCuttingUptoCard : Claim7 := { stood := { row := chunkCuttingUptoRow, standIns := [], harness := (true, "b4971b0c5e10c0acac9e05ea26ad053c0fce73af764dccfd5e19b148fe4a760c"), looks := false }, kinds := [], alts := [], laidByText := true, laidKinds := [.data, .pinned], laidTests := true, laidLooks := .later }
def ChunkCuttingUptoCardSaid : Prop := Claim7.holds Tryd.pinned (.plain (OpenSpec.upto chunkCuttingSpec)) chunkCuttingUptoCard
end Rows
end Go.Proofs.YtefpaebbendnmaaDoor
