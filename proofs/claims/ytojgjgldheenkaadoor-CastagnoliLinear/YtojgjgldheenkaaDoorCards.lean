/-
  DERIVED. GIVEN WITH THE SEED: THE CARDS: each row of YtojgjgldheenkaaDoorRows.lean that lists a variable, with what it lists TIED to the program's text (the seventh form; the later family's looks); each row that meets fmt, with fmt's text TOLD by the authors' own Lean function (tested against real Go, not proved from fmt's source: count such statements apart). THE CARD IS WHAT COUNTS. Prove the row's statement (the work); the ties are given (YtojgjgldheenkaaDoorTie.lean); close each card by the builder's one call (the guide's Derived/Test/ToyasCard.lean, 'card_holds'). Laid BY PROGRAM, IN A SANDBOX (cutbox-door.mjs). By AI agents, Wed Nov 11 2026. No macro, syntax, notation, axiom, sorry.
-/
import Derived.Test.YtojgjgldheenkaaDoorRows
import GoSem.ClaimSeven
namespace Go.Proofs.YtojgjgldheenkaaDoor
namespace Rows

/-- THE TIED CARD OF 'aquiferlaw01.CastagnoliSums'. -/
def castagnoliSumsCard : Claim7 := { stood := { row := castagnoliSumsRow, standIns := [], harness := (true, "0d0c8cc07294db4119652b1ecee82932da9a7176fb7ff795e8b271e0d1c1b2e3"), looks := false }, kinds := [], alts := [], laidByText := true, laidKinds := [.data], laidTests := true, laidLooks := .later }
def CastagnoliSumsCardSaid : Prop := Claim7.holds Tryd.pinned (.plain (OpenSpec.ofChange castagnoliSumsSpec)) castagnoliSumsCard

/-- THE TIED CARD OF 'aquiferlaw01.CastagnoliCombines'. -/
def castagnoliCombinesCard : Claim7 := { stood := { row := castagnoliCombinesRow, standIns := [], harness := (true, "0d0c8cc07294db4119652b1ecee82932da9a7176fb7ff795e8b271e0d1c1b2e3"), looks := false }, kinds := [], alts := [], laidByText := true, laidKinds := [.data], laidTests := true, laidLooks := .later }
def CastagnoliCombinesCardSaid : Prop := Claim7.holds Tryd.pinned (.plain (OpenSpec.ofChange castagnoliCombinesSpec)) castagnoliCombinesCard

/-- THE TIED CARD OF 'aquiferlaw01.CastagnoliParts'. -/
def castagnoliPartsCard : Claim7 := { stood := { row := castagnoliPartsRow, standIns := [], harness := (true, "0d0c8cc07294db4119652b1ecee82932da9a7176fb7ff795e8b271e0d1c1b2e3"), looks := false }, kinds := [], alts := [], laidByText := true, laidKinds := [.data], laidTests := true, laidLooks := .later }
def CastagnoliPartsCardSaid : Prop := Claim7.holds Tryd.pinned (.plain (OpenSpec.ofChange castagnoliPartsSpec)) castagnoliPartsCard

/-- THE TIED CARD OF 'aquiferlaw01.CastagnoliBurst'. -/
def castagnoliBurstCard : Claim7 := { stood := { row := castagnoliBurstRow, standIns := [], harness := (true, "0d0c8cc07294db4119652b1ecee82932da9a7176fb7ff795e8b271e0d1c1b2e3"), looks := false }, kinds := [], alts := [], laidByText := true, laidKinds := [.data], laidTests := true, laidLooks := .later }
def CastagnoliBurstCardSaid : Prop := Claim7.holds Tryd.pinned (.plain (OpenSpec.ofChange castagnoliBurstSpec)) castagnoliBurstCard

/-- THE TIED CARD OF 'aquiferlaw01.CastagnoliLinear'. -/
def castagnoliLinearCard : Claim7 := { stood := { row := castagnoliLinearRow, standIns := [], harness := (true, "0d0c8cc07294db4119652b1ecee82932da9a7176fb7ff795e8b271e0d1c1b2e3"), looks := false }, kinds := [], alts := [], laidByText := true, laidKinds := [.data], laidTests := true, laidLooks := .later }
def CastagnoliLinearCardSaid : Prop := Claim7.holds Tryd.pinned (.plain (OpenSpec.ofChange castagnoliLinearSpec)) castagnoliLinearCard

/-- THE TIED CARD OF 'aquiferlaw01.CastagnoliZeros'. -/
def castagnoliZerosCard : Claim7 := { stood := { row := castagnoliZerosRow, standIns := [], harness := (true, "0d0c8cc07294db4119652b1ecee82932da9a7176fb7ff795e8b271e0d1c1b2e3"), looks := false }, kinds := [], alts := [], laidByText := true, laidKinds := [.data], laidTests := true, laidLooks := .later }
def CastagnoliZerosCardSaid : Prop := Claim7.holds Tryd.pinned (.plain (OpenSpec.ofChange castagnoliZerosSpec)) castagnoliZerosCard

/-- THE SECOND FORM's CARD OF 'aquiferlaw01.CastagnoliSums'. -/
def castagnoliSumsUptoCard : Claim7 := { stood := { row := castagnoliSumsUptoRow, standIns := [], harness := (true, "0d0c8cc07294db4119652b1ecee82932da9a7176fb7ff795e8b271e0d1c1b2e3"), looks := false }, kinds := [], alts := [], laidByText := true, laidKinds := [.data], laidTests := true, laidLooks := .later }
def CastagnoliSumsUptoCardSaid : Prop := Claim7.holds Tryd.pinned (.plain (OpenSpec.upto castagnoliSumsSpec)) castagnoliSumsUptoCard

/-- THE SECOND FORM's CARD OF 'aquiferlaw01.CastagnoliCombines'. -/
def castagnoliCombinesUptoCard : Claim7 := { stood := { row := castagnoliCombinesUptoRow, standIns := [], harness := (true, "0d0c8cc07294db4119652b1ecee82932da9a7176fb7ff795e8b271e0d1c1b2e3"), looks := false }, kinds := [], alts := [], laidByText := true, laidKinds := [.data], laidTests := true, laidLooks := .later }
def CastagnoliCombinesUptoCardSaid : Prop := Claim7.holds Tryd.pinned (.plain (OpenSpec.upto castagnoliCombinesSpec)) castagnoliCombinesUptoCard

/-- THE SECOND FORM's CARD OF 'aquiferlaw01.CastagnoliParts'. -/
def castagnoliPartsUptoCard : Claim7 := { stood := { row := castagnoliPartsUptoRow, standIns := [], harness := (true, "0d0c8cc07294db4119652b1ecee82932da9a7176fb7ff795e8b271e0d1c1b2e3"), looks := false }, kinds := [], alts := [], laidByText := true, laidKinds := [.data], laidTests := true, laidLooks := .later }
def CastagnoliPartsUptoCardSaid : Prop := Claim7.holds Tryd.pinned (.plain (OpenSpec.upto castagnoliPartsSpec)) castagnoliPartsUptoCard

/-- THE SECOND FORM's CARD OF 'aquiferlaw01.CastagnoliBurst'. -/
def castagnoliBurstUptoCard : Claim7 := { stood := { row := castagnoliBurstUptoRow, standIns := [], harness := (true, "0d0c8cc07294db4119652b1ecee82932da9a7176fb7ff795e8b271e0d1c1b2e3"), looks := false }, kinds := [], alts := [], laidByText := true, laidKinds := [.data], laidTests := true, laidLooks := .later }
def CastagnoliBurstUptoCardSaid : Prop := Claim7.holds Tryd.pinned (.plain (OpenSpec.upto castagnoliBurstSpec)) castagnoliBurstUptoCard

/-- THE SECOND FORM's CARD OF 'aquiferlaw01.CastagnoliLinear'. -/
def castagnoliLinearUptoCard : Claim7 := { stood := { row := castagnoliLinearUptoRow, standIns := [], harness := (true, "0d0c8cc07294db4119652b1ecee82932da9a7176fb7ff795e8b271e0d1c1b2e3"), looks := false }, kinds := [], alts := [], laidByText := true, laidKinds := [.data], laidTests := true, laidLooks := .later }
def CastagnoliLinearUptoCardSaid : Prop := Claim7.holds Tryd.pinned (.plain (OpenSpec.upto castagnoliLinearSpec)) castagnoliLinearUptoCard

/-- THE SECOND FORM's CARD OF 'aquiferlaw01.CastagnoliZeros'. -/
def castagnoliZerosUptoCard : Claim7 := { stood := { row := castagnoliZerosUptoRow, standIns := [], harness := (true, "0d0c8cc07294db4119652b1ecee82932da9a7176fb7ff795e8b271e0d1c1b2e3"), looks := false }, kinds := [], alts := [], laidByText := true, laidKinds := [.data], laidTests := true, laidLooks := .later }
def CastagnoliZerosUptoCardSaid : Prop := Claim7.holds Tryd.pinned (.plain (OpenSpec.upto castagnoliZerosSpec)) castagnoliZerosUptoCard
end Rows
end Go.Proofs.YtojgjgldheenkaaDoor
