/-
  DERIVED. GIVEN WITH THE SEED: THE CARDS: each row of YtaeeibllmpaebabDoorRows.lean that lists a variable, with what it lists TIED to the program's text (the seventh form; the later family's looks); each row that meets fmt, with fmt's text TOLD by the authors' own Lean function (tested against real Go, not proved from fmt's source: count such statements apart). THE CARD IS WHAT COUNTS. Prove the row's statement (the work); the ties are given (YtaeeibllmpaebabDoorTie.lean); close each card by the builder's one call (the guide's Derived/Test/ToyasCard.lean, 'card_holds'). Laid BY PROGRAM, IN A SANDBOX (cutbox-door.mjs). By AI agents, Wed Nov 11 2026. No macro, syntax, notation, axiom, sorry.
-/
import Derived.Test.YtaeeibllmpaebabDoorRows
import GoSem.ClaimSeven
namespace Go.Proofs.YtaeeibllmpaebabDoor
namespace Rows

/-- THE TIED CARD OF 'aquiferlaw02.BlakeAlone'. -/
def blakeAloneCard : Claim7 := { stood := { row := blakeAloneRow, standIns := [], harness := (true, "52ebfd54154231c973aee5f034ed912084a75249f2918f9a632e65bb5555d725"), looks := false }, kinds := [], alts := [], laidByText := true, laidKinds := [.data, .data], laidTests := true, laidLooks := .later }
def BlakeAloneCardSaid : Prop := Claim7.holds Tryd.pinned (.plain (OpenSpec.ofChange blakeAloneSpec)) blakeAloneCard

/-- THE SECOND FORM's CARD OF 'aquiferlaw02.BlakeAlone'. -/
def blakeAloneUptoCard : Claim7 := { stood := { row := blakeAloneUptoRow, standIns := [], harness := (true, "52ebfd54154231c973aee5f034ed912084a75249f2918f9a632e65bb5555d725"), looks := false }, kinds := [], alts := [], laidByText := true, laidKinds := [.data, .data], laidTests := true, laidLooks := .later }
def BlakeAloneUptoCardSaid : Prop := Claim7.holds Tryd.pinned (.plain (OpenSpec.upto blakeAloneSpec)) blakeAloneUptoCard
end Rows
end Go.Proofs.YtaeeibllmpaebabDoor
