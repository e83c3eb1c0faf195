/-
  DERIVED. GIVEN WITH THE SEED: THE CARDS: each row of YtbcmgcallidneaaDoorRows.lean that lists a variable, with what it lists TIED to the program's text (the seventh form; the later family's looks); each row that meets fmt, with fmt's text TOLD by the authors' own Lean function (tested against real Go, not proved from fmt's source: count such statements apart). THE CARD IS WHAT COUNTS. Prove the row's statement (the work); the ties are given (YtbcmgcallidneaaDoorTie.lean); close each card by the builder's one call (the guide's Derived/Test/ToyasCard.lean, 'card_holds'). Laid BY PROGRAM, IN A SANDBOX (cutbox-door.mjs). By AI agents, Wed Nov 11 2026. No macro, syntax, notation, axiom, sorry.
-/
import Derived.Test.YtbcmgcallidneaaDoorRows
import GoSem.ClaimSeven
namespace Go.Proofs.YtbcmgcallidneaaDoor
namespace Rows

/-- THE TIED CARD OF 'aquiferlaw06.ScopeTells'. -/
def scopeTellsCard : Claim7 := { stood := { row := scopeTellsRow, standIns := [], harness := (true, "4ee5cd8dac24025c7a3bfbdb4c519def09c113c2bd6c4a7efee1863210b12648"), looks := false }, kinds := [], alts := [], laidByText := true, laidKinds := [.data, .data, .pinned], laidTests := true, laidLooks := .later }
def ScopeTellsCardSaid : Prop := Claim7.holds Tryd.pinned (.plain (OpenSpec.ofChange scopeTellsSpec)) scopeTellsCard

/-- THE TIED CARD OF 'aquiferlaw06.ScopeAgain'. -/
def scopeAgainCard : Claim7 := { stood := { row := scopeAgainRow, standIns := [], harness := (true, "4ee5cd8dac24025c7a3bfbdb4c519def09c113c2bd6c4a7efee1863210b12648"), looks := false }, kinds := [], alts := [], laidByText := true, laidKinds := [.data, .data, .pinned], laidTests := true, laidLooks := .later }
def ScopeAgainCardSaid : Prop := Claim7.holds Tryd.pinned (.plain (OpenSpec.ofChange scopeAgainSpec)) scopeAgainCard

/-- THE TIED CARD OF 'aquiferlaw06.ScopeAlgebra'. -/
def scopeAlgebraCard : Claim7 := { stood := { row := scopeAlgebraRow, standIns := [], harness := (true, "4ee5cd8dac24025c7a3bfbdb4c519def09c113c2bd6c4a7efee1863210b12648"), looks := false }, kinds := [], alts := [], laidByText := true, laidKinds := [.data, .data, .pinned], laidTests := true, laidLooks := .later }
def ScopeAlgebraCardSaid : Prop := Claim7.holds Tryd.pinned (.plain (OpenSpec.ofChange scopeAlgebraSpec)) scopeAlgebraCard

/-- THE SECOND FORM's CARD OF 'aquiferlaw06.ScopeTells'. -/
def scopeTellsUptoCard : Claim7 := { stood := { row := scopeTellsUptoRow, standIns := [], harness := (true, "4ee5cd8dac24025c7a3bfbdb4c519def09c113c2bd6c4a7efee1863210b12648"), looks := false }, kinds := [], alts := [], laidByText := true, laidKinds := [.data, .data, .pinned], laidTests := true, laidLooks := .later }
def ScopeTellsUptoCardSaid : Prop := Claim7.holds Tryd.pinned (.plain (OpenSpec.upto scopeTellsSpec)) scopeTellsUptoCard

/-- THE SECOND FORM's CARD OF 'aquiferlaw06.ScopeAgain'. -/
def scopeAgainUptoCard : Claim7 := { stood := { row := scopeAgainUptoRow, standIns := [], harness := (true, "4ee5cd8dac24025c7a3bfbdb4c519def09c113c2bd6c4a7efee1863210b12648"), looks := false }, kinds := [], alts := [], laidByText := true, laidKinds := [.data, .data, .pinned], laidTests := true, laidLooks := .later }
def ScopeAgainUptoCardSaid : Prop := Claim7.holds Tryd.pinned (.plain (OpenSpec.upto scopeAgainSpec)) scopeAgainUptoCard

/-- THE SECOND FORM's CARD OF 'aquiferlaw06.ScopeAlgebra'. -/
def scopeAlgebraUptoCard : Claim7 := { stood := { row := scopeAlgebraUptoRow, standIns := [], harness := (true, "4ee5cd8dac24025c7a3bfbdb4c519def09c113c2bd6c4a7efee1863210b12648"), looks := false }, kinds := [], alts := [], laidByText := true, laidKinds := [.data, .data, .pinned], laidTests := true, laidLooks := .later }
def ScopeAlgebraUptoCardSaid : Prop := Claim7.holds Tryd.pinned (.plain (OpenSpec.upto scopeAlgebraSpec)) scopeAlgebraUptoCard
end Rows
end Go.Proofs.YtbcmgcallidneaaDoor
