/-
  DERIVED. GIVEN WITH THE SEED: THE CARDS: each row of YtlgalcpnodadiaaDoorRows.lean that lists a variable, with what it lists TIED to the program's text (the seventh form; the later family's looks); each row that meets fmt, with fmt's text TOLD by the authors' own Lean function (tested against real Go, not proved from fmt's source: count such statements apart). THE CARD IS WHAT COUNTS. Prove the row's statement (the work); the ties are given (YtlgalcpnodadiaaDoorTie.lean); close each card by the builder's one call (the guide's Derived/Test/ToyasCard.lean, 'card_holds'). Laid BY PROGRAM, IN A SANDBOX (cutbox-door.mjs). By AI agents, Wed Nov 11 2026. No macro, syntax, notation, axiom, sorry.
-/
import Derived.Test.YtlgalcpnodadiaaDoorRows
import GoSem.ClaimSeven
namespace Go.Proofs.YtlgalcpnodadiaaDoor
namespace Rows

/-- THE TIED CARD OF 'aquiferlaw05.PathKinds'. -/
def pathKindsCard : Claim7 := { stood := { row := pathKindsRow, standIns := [], harness := (true, "f5b11b8764bd1e862fa9eeb2668778c71d349aea9a918cf9c52be8fddb9c3d18"), looks := false }, kinds := [], alts := [], laidByText := true, laidKinds := [.data, .data, .data, .data, .data, .pinned], laidTests := true, laidLooks := .later }
def PathKindsCardSaid : Prop := Claim7.holds Tryd.pinned (.plain (OpenSpec.ofChange pathKindsSpec)) pathKindsCard

/-- THE TIED CARD OF 'aquiferlaw05.PathPairs'. -/
def pathPairsCard : Claim7 := { stood := { row := pathPairsRow, standIns := [], harness := (true, "f5b11b8764bd1e862fa9eeb2668778c71d349aea9a918cf9c52be8fddb9c3d18"), looks := false }, kinds := [], alts := [], laidByText := true, laidKinds := [.data, .data, .data, .data, .data, .pinned], laidTests := true, laidLooks := .later }
def PathPairsCardSaid : Prop := Claim7.holds Tryd.pinned (.plain (OpenSpec.ofChange pathPairsSpec)) pathPairsCard

/-- THE TIED CARD OF 'aquiferlaw05.PathOrder'. -/
def pathOrderCard : Claim7 := { stood := { row := pathOrderRow, standIns := [], harness := (true, "f5b11b8764bd1e862fa9eeb2668778c71d349aea9a918cf9c52be8fddb9c3d18"), looks := false }, kinds := [], alts := [], laidByText := true, laidKinds := [.data, .data, .data, .data, .data, .pinned], laidTests := true, laidLooks := .later }
def PathOrderCardSaid : Prop := Claim7.holds Tryd.pinned (.plain (OpenSpec.ofChange pathOrderSpec)) pathOrderCard

/-- THE TIED CARD OF 'aquiferlaw05.PathParts'. -/
def pathPartsCard : Claim7 := { stood := { row := pathPartsRow, standIns := [], harness := (true, "f5b11b8764bd1e862fa9eeb2668778c71d349aea9a918cf9c52be8fddb9c3d18"), looks := false }, kinds := [], alts := [], laidByText := true, laidKinds := [.data, .data, .data, .data, .data, .pinned], laidTests := true, laidLooks := .later }
def PathPartsCardSaid : Prop := Claim7.holds Tryd.pinned (.plain (OpenSpec.ofChange pathPartsSpec)) pathPartsCard

/-- THE TIED CARD OF 'aquiferlaw05.PathCopies'. -/
def pathCopiesCard : Claim7 := { stood := { row := pathCopiesRow, standIns := [], harness := (true, "f5b11b8764bd1e862fa9eeb2668778c71d349aea9a918cf9c52be8fddb9c3d18"), looks := false }, kinds := [], alts := [], laidByText := true, laidKinds := [.data, .data, .data, .data, .data, .pinned], laidTests := true, laidLooks := .later }
def PathCopiesCardSaid : Prop := Claim7.holds Tryd.pinned (.plain (OpenSpec.ofChange pathCopiesSpec)) pathCopiesCard

/-- THE TIED CARD OF 'aquiferlaw05.PathThere'. -/
def pathThereCard : Claim7 := { stood := { row := pathThereRow, standIns := [], harness := (true, "f5b11b8764bd1e862fa9eeb2668778c71d349aea9a918cf9c52be8fddb9c3d18"), looks := false }, kinds := [], alts := [], laidByText := true, laidKinds := [.data, .data, .data, .data, .data, .pinned], laidTests := true, laidLooks := .later }
def PathThereCardSaid : Prop := Claim7.holds Tryd.pinned (.plain (OpenSpec.ofChange pathThereSpec)) pathThereCard

/-- THE SECOND FORM's CARD OF 'aquiferlaw05.PathKinds'. -/
def pathKindsUptoCard : Claim7 := { stood := { row := pathKindsUptoRow, standIns := [], harness := (true, "f5b11b8764bd1e862fa9eeb2668778c71d349aea9a918cf9c52be8fddb9c3d18"), looks := false }, kinds := [], alts := [], laidByText := true, laidKinds := [.data, .data, .data, .data, .data, .pinned], laidTests := true, laidLooks := .later }
def PathKindsUptoCardSaid : Prop := Claim7.holds Tryd.pinned (.plain (OpenSpec.upto pathKindsSpec)) pathKindsUptoCard

/-- THE SECOND FORM's CARD OF 'aquiferlaw05.PathPairs'. -/
def pathPairsUptoCard : Claim7 := { stood := { row := pathPairsUptoRow, standIns := [], harness := (true, "f5b11b8764bd1e862fa9eeb2668778c71d349aea9a918cf9c52be8fddb9c3d18"), looks := false }, kinds := [], alts := [], laidByText := true, laidKinds := [.data, .data, .data, .data, .data, .pinned], laidTests := true, laidLooks := .later }
def PathPairsUptoCardSaid : Prop := Claim7.holds Tryd.pinned (.plain (OpenSpec.upto pathPairsSpec)) pathPairsUptoCard

/-- THE SECOND FORM's CARD OF 'aquiferlaw05.PathOrder'. -/
def pathOrderUptoCard : Claim7 := { stood := { row := pathOrderUptoRow, standIns := [], harness := (true, "f5b11b8764bd1e862fa9eeb2668778c71d349aea9a918cf9c52be8fddb9c3d18"), looks := false }, kinds := [], alts := [], laidByText := true, laidKinds := [.data, .data, .data, .data, .data, .pinned], laidTests := true, laidLooks := .later }
def PathOrderUptoCardSaid : Prop := Claim7.holds Tryd.pinned (.plain (OpenSpec.upto pathOrderSpec)) pathOrderUptoCard

/-- THE SECOND FORM's CARD OF 'aquiferlaw05.PathParts'. -/
def pathPartsUptoCard : Claim7 := { stood := { row := pathPartsUptoRow, standIns := [], harness := (true, "f5b11b8764bd1e862fa9eeb2668778c71d349aea9a918cf9c52be8fddb9c3d18"), looks := false }, kinds := [], alts := [], laidByText := true, laidKinds := [.data, .data, .data, .data, .data, .pinned], laidTests := true, laidLooks := .later }
def PathPartsUptoCardSaid : Prop := Claim7.holds Tryd.pinned (.plain (OpenSpec.upto pathPartsSpec)) pathPartsUptoCard

/-- THE SECOND FORM's CARD OF 'aquiferlaw05.PathCopies'. -/
def pathCopiesUptoCard : Claim7 := { stood := { row := pathCopiesUptoRow, standIns := [], harness := (true, "f5b11b8764bd1e862fa9eeb2668778c71d349aea9a918cf9c52be8fddb9c3d18"), looks := false }, kinds := [], alts := [], laidByText := true, laidKinds := [.data, .data, .data, .data, .data, .pinned], laidTests := true, laidLooks := .later }
def PathCopiesUptoCardSaid : Prop := Claim7.holds Tryd.pinned (.plain (OpenSpec.upto pathCopiesSpec)) pathCopiesUptoCard

/-- THE SECOND FORM's CARD OF 'aquiferlaw05.PathThere'. -/
def pathThereUptoCard : Claim7 := { stood := { row := pathThereUptoRow, standIns := [], harness := (true, "f5b11b8764bd1e862fa9eeb2668778c71d349aea9a918cf9c52be8fddb9c3d18"), looks := false }, kinds := [], alts := [], laidByText := true, laidKinds := [.data, .data, .data, .data, .data, .pinned], laidTests := true, laidLooks := .later }
def PathThereUptoCardSaid : Prop := Claim7.holds Tryd.pinned (.plain (OpenSpec.upto pathThereSpec)) pathThereUptoCard
end Rows
end Go.Proofs.YtlgalcpnodadiaaDoor
