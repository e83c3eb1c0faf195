/-
  DERIVED. GIVEN WITH THE SEED: THE CARDS: each row of YtbcmgcallidneaaGreatDoorRows.lean that lists a variable, with what it lists TIED to the program's text (the seventh form; the later family's looks); each row that meets fmt, with fmt's text TOLD by the authors' own Lean function (tested against real Go, not proved from fmt's source: count such statements apart). THE CARD IS WHAT COUNTS. Prove the row's statement (the work); the ties are given (YtbcmgcallidneaaGreatDoorTie.lean); close each card by the builder's one call (the guide's Derived/Test/ToyasCard.lean, 'card_holds'). Laid BY PROGRAM, IN A SANDBOX (cutbox-door.mjs). By AI agents, Wed Nov 11 2026. No macro, syntax, notation, axiom, sorry.
-/
import Derived.Test.YtbcmgcallidneaaGreatDoorRows
import GoSem.ClaimSeven
namespace Go.Proofs.YtbcmgcallidneaaGreatDoor
namespace Rows

/-- THE TIED CARD OF 'aquiferlaw06.ScopeMakes'. -/
def scopeMakesCard : Claim7 := { stood := { row := scopeMakesRow, standIns := [], harness := (true, "604f67fdccdff3e8e281f3719bcfc76cb7ad756c30c7ef3ed6c4d30b000d2ee1"), looks := false }, kinds := [], alts := [], laidByText := true, laidKinds := [.data, .data, .pinned], laidTests := true, laidLooks := .later }
def ScopeMakesCardSaid : Prop := Claim7.holds Tryz.pinned (.plain (OpenSpec.ofChange scopeMakesSpec)) scopeMakesCard

/-- THE TIED CARD OF 'aquiferlaw06.ScopePairs'. -/
def scopePairsCard : Claim7 := { stood := { row := scopePairsRow, standIns := [], harness := (true, "604f67fdccdff3e8e281f3719bcfc76cb7ad756c30c7ef3ed6c4d30b000d2ee1"), looks := false }, kinds := [], alts := [], laidByText := true, laidKinds := [.data, .data, .pinned], laidTests := true, laidLooks := .later }
def ScopePairsCardSaid : Prop := Claim7.holds Tryz.pinned (.plain (OpenSpec.ofChange scopePairsSpec)) scopePairsCard

/-- THE TIED CARD OF 'aquiferlaw06.ScopeTexts'. -/
def scopeTextsCard : Claim7 := { stood := { row := scopeTextsRow, standIns := [], harness := (true, "604f67fdccdff3e8e281f3719bcfc76cb7ad756c30c7ef3ed6c4d30b000d2ee1"), looks := false }, kinds := [], alts := [], laidByText := true, laidKinds := [.data, .data, .pinned], laidTests := true, laidLooks := .later }
def ScopeTextsCardSaid : Prop := Claim7.holds Tryz.pinned (.plain (OpenSpec.ofChange scopeTextsSpec)) scopeTextsCard

/-- THE SECOND FORM's CARD OF 'aquiferlaw06.ScopeMakes'. -/
def scopeMakesUptoCard : Claim7 := { stood := { row := scopeMakesUptoRow, standIns := [], harness := (true, "604f67fdccdff3e8e281f3719bcfc76cb7ad756c30c7ef3ed6c4d30b000d2ee1"), looks := false }, kinds := [], alts := [], laidByText := true, laidKinds := [.data, .data, .pinned], laidTests := true, laidLooks := .later }
def ScopeMakesUptoCardSaid : Prop := Claim7.holds Tryz.pinned (.plain (OpenSpec.upto scopeMakesSpec)) scopeMakesUptoCard

/-- THE SECOND FORM's CARD OF 'aquiferlaw06.ScopePairs'. -/
def scopePairsUptoCard : Claim7 := { stood := { row := scopePairsUptoRow, standIns := [], harness := (true, "604f67fdccdff3e8e281f3719bcfc76cb7ad756c30c7ef3ed6c4d30b000d2ee1"), looks := false }, kinds := [], alts := [], laidByText := true, laidKinds := [.data, .data, .pinned], laidTests := true, laidLooks := .later }
def ScopePairsUptoCardSaid : Prop := Claim7.holds Tryz.pinned (.plain (OpenSpec.upto scopePairsSpec)) scopePairsUptoCard

/-- THE SECOND FORM's CARD OF 'aquiferlaw06.ScopeTexts'. -/
def scopeTextsUptoCard : Claim7 := { stood := { row := scopeTextsUptoRow, standIns := [], harness := (true, "604f67fdccdff3e8e281f3719bcfc76cb7ad756c30c7ef3ed6c4d30b000d2ee1"), looks := false }, kinds := [], alts := [], laidByText := true, laidKinds := [.data, .data, .pinned], laidTests := true, laidLooks := .later }
def ScopeTextsUptoCardSaid : Prop := Claim7.holds Tryz.pinned (.plain (OpenSpec.upto scopeTextsSpec)) scopeTextsUptoCard
end Rows
end Go.Proofs.YtbcmgcallidneaaGreatDoor
