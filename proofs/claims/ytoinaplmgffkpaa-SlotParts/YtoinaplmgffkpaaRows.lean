/-
  No cell of these rows narrows 'for every input' (looked for: loops, veiled, ifaces, maps, wideKeys, modest, calm, conditions, laid).
  DERIVED. THE GIVEN ROWS OF THIS SEAT. 6 by the template 'for every input the law returns true; each argument reads behind the call as it read before'; 0 by the template 'total and deterministic' (their statements: YtoinaplmgffkpaaTotals.lean).
  GIVEN WITH THE SEED: the statements are not yours to turn. If you find one false, say at which input.
  Laid BY PROGRAM, IN A SANDBOX (cutbox-rows.mjs): the forced cells as the released guide's own fill.sh prints them over the translation 46f0b12f243719dc… (all of the seat's roots in one cut). By AI agents, Wed Nov 11 2026. No macro, syntax, notation, axiom, sorry.
-/
import Derived.Test.YtoinaplmgffkpaaChecked
import GoSem.Claim
import GoSem.ClaimJoined
import GoSem.ClaimMapViews
import Derived.JoinedTies
import Derived.KernelRfl
namespace Go.Proofs.Ytoinaplmgffkpaa
/- THE CELL 'sum', in the pinned program and in every row, IS THE sha256 OF THE DUMP (.gsa) THAT YtoinaplmgffkpaaProg.lean LOADS. Nothing in Lean hashes anything: it is a label: what it is worth is what the hold of that sum in a sandbox is worth. -/
noncomputable def Try.pinned : Pinned := { name := "ytoinaplmgffkpaa", sum := "46f0b12f243719dcff87472a7c7c3649aaef222494da78df13ba140d967b018b", checked := Try.checked }
namespace Rows
def none {H : Type} : Left H := { results := [], args := [] }

/-- 'aquiferlaw11.SlotFinds': WHATEVER THE INPUT: true; the input reads as it did. -/
def slotFindsSpec : ChangeSpec := { name := "slotFinds", fn := fun _ => fun
  | [d1, d2, d3] => { results := [.lit (.bool true)], args := [d1, d2, d3] }
  | _ => none }
def slotFindsRow : OpenClaim := { program := "ytoinaplmgffkpaa", sum := "46f0b12f243719dcff87472a7c7c3649aaef222494da78df13ba140d967b018b", func := "aquifer/aquiferlaw11.SlotFinds", spec := "slotFinds", unfollowed := true, recurses := true, apart := false }
def SlotFindsSaid : Prop := slotFindsRow.holds Try.pinned (OpenSpec.ofChange slotFindsSpec)

/-- ITS FALSE NEIGHBOUR: 'it returns false'. Refute it at one input. -/
def slotFindsWrong : ChangeSpec := { name := "slotFinds", fn := fun _ => fun
  | [d1, d2, d3] => { results := [.lit (.bool false)], args := [d1, d2, d3] }
  | _ => none }
def SlotFindsWrongFalsely : Prop := slotFindsRow.holds Try.pinned (OpenSpec.ofChange slotFindsWrong)

/-- 'aquiferlaw11.SlotParts': WHATEVER THE INPUT: true; the input reads as it did. -/
def slotPartsSpec : ChangeSpec := { name := "slotParts", fn := fun _ => fun
  | [d1, d2, d3] => { results := [.lit (.bool true)], args := [d1, d2, d3] }
  | _ => none }
def slotPartsRow : OpenClaim := { program := "ytoinaplmgffkpaa", sum := "46f0b12f243719dcff87472a7c7c3649aaef222494da78df13ba140d967b018b", func := "aquifer/aquiferlaw11.SlotParts", spec := "slotParts", unfollowed := true, recurses := true, apart := false }
def SlotPartsSaid : Prop := slotPartsRow.holds Try.pinned (OpenSpec.ofChange slotPartsSpec)

/-- ITS FALSE NEIGHBOUR: 'it returns false'. Refute it at one input. -/
def slotPartsWrong : ChangeSpec := { name := "slotParts", fn := fun _ => fun
  | [d1, d2, d3] => { results := [.lit (.bool false)], args := [d1, d2, d3] }
  | _ => none }
def SlotPartsWrongFalsely : Prop := slotPartsRow.holds Try.pinned (OpenSpec.ofChange slotPartsWrong)

/-- 'aquiferlaw11.SlotBack': WHATEVER THE INPUT: true; the input reads as it did. -/
def slotBackSpec : ChangeSpec := { name := "slotBack", fn := fun _ => fun
  | [d1, d2] => { results := [.lit (.bool true)], args := [d1, d2] }
  | _ => none }
def slotBackRow : OpenClaim := { program := "ytoinaplmgffkpaa", sum := "46f0b12f243719dcff87472a7c7c3649aaef222494da78df13ba140d967b018b", func := "aquifer/aquiferlaw11.SlotBack", spec := "slotBack", unfollowed := true, recurses := true, apart := false }
def SlotBackSaid : Prop := slotBackRow.holds Try.pinned (OpenSpec.ofChange slotBackSpec)

/-- ITS FALSE NEIGHBOUR: 'it returns false'. Refute it at one input. -/
def slotBackWrong : ChangeSpec := { name := "slotBack", fn := fun _ => fun
  | [d1, d2] => { results := [.lit (.bool false)], args := [d1, d2] }
  | _ => none }
def SlotBackWrongFalsely : Prop := slotBackRow.holds Try.pinned (OpenSpec.ofChange slotBackWrong)

/-- 'aquiferlaw11.SlotWhole': WHATEVER THE INPUT: true; the input reads as it did. -/
def slotWholeSpec : ChangeSpec := { name := "slotWhole", fn := fun _ => fun
  | [d] => { results := [.lit (.bool true)], args := [d] }
  | _ => none }
def slotWholeRow : OpenClaim := { program := "ytoinaplmgffkpaa", sum := "46f0b12f243719dcff87472a7c7c3649aaef222494da78df13ba140d967b018b", func := "aquifer/aquiferlaw11.SlotWhole", spec := "slotWhole", unfollowed := true, recurses := true, apart := false }
def SlotWholeSaid : Prop := slotWholeRow.holds Try.pinned (OpenSpec.ofChange slotWholeSpec)

/-- ITS FALSE NEIGHBOUR: 'it returns false'. Refute it at one input. -/
def slotWholeWrong : ChangeSpec := { name := "slotWhole", fn := fun _ => fun
  | [d] => { results := [.lit (.bool false)], args := [d] }
  | _ => none }
def SlotWholeWrongFalsely : Prop := slotWholeRow.holds Try.pinned (OpenSpec.ofChange slotWholeWrong)

/-- 'aquiferlaw11.SlotHalves': WHATEVER THE INPUT: true; the input reads as it did. -/
def slotHalvesSpec : ChangeSpec := { name := "slotHalves", fn := fun _ => fun
  | [d1, d2] => { results := [.lit (.bool true)], args := [d1, d2] }
  | _ => none }
def slotHalvesRow : OpenClaim := { program := "ytoinaplmgffkpaa", sum := "46f0b12f243719dcff87472a7c7c3649aaef222494da78df13ba140d967b018b", func := "aquifer/aquiferlaw11.SlotHalves", spec := "slotHalves", unfollowed := true, recurses := true, apart := false }
def SlotHalvesSaid : Prop := slotHalvesRow.holds Try.pinned (OpenSpec.ofChange slotHalvesSpec)

/-- ITS FALSE NEIGHBOUR: 'it returns false'. Refute it at one input. -/
def slotHalvesWrong : ChangeSpec := { name := "slotHalves", fn := fun _ => fun
  | [d1, d2] => { results := [.lit (.bool false)], args := [d1, d2] }
  | _ => none }
def SlotHalvesWrongFalsely : Prop := slotHalvesRow.holds Try.pinned (OpenSpec.ofChange slotHalvesWrong)

/-- 'aquiferlaw11.SlotPuts': WHATEVER THE INPUT: true; the input reads as it did. -/
def slotPutsSpec : ChangeSpec := { name := "slotPuts", fn := fun _ => fun
  | [d1, d2] => { results := [.lit (.bool true)], args := [d1, d2] }
  | _ => none }
def slotPutsRow : OpenClaim := { program := "ytoinaplmgffkpaa", sum := "46f0b12f243719dcff87472a7c7c3649aaef222494da78df13ba140d967b018b", func := "aquifer/aquiferlaw11.SlotPuts", spec := "slotPuts", unfollowed := true, recurses := true, apart := false }
def SlotPutsSaid : Prop := slotPutsRow.holds Try.pinned (OpenSpec.ofChange slotPutsSpec)

/-- ITS FALSE NEIGHBOUR: 'it returns false'. Refute it at one input. -/
def slotPutsWrong : ChangeSpec := { name := "slotPuts", fn := fun _ => fun
  | [d1, d2] => { results := [.lit (.bool false)], args := [d1, d2] }
  | _ => none }
def SlotPutsWrongFalsely : Prop := slotPutsRow.holds Try.pinned (OpenSpec.ofChange slotPutsWrong)

/- THE SECOND FORM. 'bulk': how many values and letters a reading holds, each counted each time it is reached (what is shared counts as often as it is met; a slice's spare places count too). A statement '..UptoSaid' is the law's where the arguments, and the package variables that the reading takes, are together of bulk at most 1048576: NARROWER than '..Said'. Prove '..Said' where nothing that the law and all that it calls make is longer than what came in: it says more and counts as full. Else prove '..UptoSaid'. A law counts once. -/
mutual
def uptoBulk {H : Type} : DataW H → Nat
  | .lit (.string bytes) => bytes.length + 1
  | .lit _ => 1
  | .nil => 1
  | .ptr d => uptoBulk d + 1
  | .slice elems spare => uptoBulkAll elems + uptoBulkAll spare + 1
  | .agg parts => uptoBulkAll parts + 1
  | .iface _ d => uptoBulk d + 1
  | .map entries => uptoBulkEntries entries + 1
  | .held _ => 1
def uptoBulkAll {H : Type} : List (DataW H) → Nat
  | [] => 0
  | d :: r => uptoBulk d + uptoBulkAll r
def uptoBulkEntries {H : Type} : List (Lit × DataW H) → Nat
  | [] => 0
  | x :: r => uptoBulkEntry x + uptoBulkEntries r
def uptoBulkEntry {H : Type} : Lit × DataW H → Nat
  | (.string bytes, d) => bytes.length + uptoBulk d + 1
  | (_, d) => uptoBulk d + 1
 end
def uptoSmall : (H : Type) → List (DataW H) → Bool := fun _ ds => decide (uptoBulkAll ds ≤ 1048576)
def OpenSpec.upto (s : _root_.Go.ChangeSpec) : _root_.Go.OpenSpec := { _root_.Go.OpenSpec.ofChange s with cond := some uptoSmall }

/-- 'aquiferlaw11.SlotFinds', WHERE WHAT IT READS IS OF BULK AT MOST 1048576: true; the input reads as it did. -/
def slotFindsUptoRow : OpenClaim := { program := "ytoinaplmgffkpaa", sum := "46f0b12f243719dcff87472a7c7c3649aaef222494da78df13ba140d967b018b", func := "aquifer/aquiferlaw11.SlotFinds", spec := "slotFinds", unfollowed := true, recurses := true, apart := false, narrowed := true }
def SlotFindsUptoSaid : Prop := slotFindsUptoRow.holds Try.pinned (OpenSpec.upto slotFindsSpec)

/-- 'aquiferlaw11.SlotParts', WHERE WHAT IT READS IS OF BULK AT MOST 1048576: true; the input reads as it did. -/
def slotPartsUptoRow : OpenClaim := { program := "ytoinaplmgffkpaa", sum := "46f0b12f243719dcff87472a7c7c3649aaef222494da78df13ba140d967b018b", func := "aquifer/aquiferlaw11.SlotParts", spec := "slotParts", unfollowed := true, recurses := true, apart := false, narrowed := true }
def SlotPartsUptoSaid : Prop := slotPartsUptoRow.holds Try.pinned (OpenSpec.upto slotPartsSpec)

/-- 'aquiferlaw11.SlotBack', WHERE WHAT IT READS IS OF BULK AT MOST 1048576: true; the input reads as it did. -/
def slotBackUptoRow : OpenClaim := { program := "ytoinaplmgffkpaa", sum := "46f0b12f243719dcff87472a7c7c3649aaef222494da78df13ba140d967b018b", func := "aquifer/aquiferlaw11.SlotBack", spec := "slotBack", unfollowed := true, recurses := true, apart := false, narrowed := true }
def SlotBackUptoSaid : Prop := slotBackUptoRow.holds Try.pinned (OpenSpec.upto slotBackSpec)

/-- 'aquiferlaw11.SlotWhole', WHERE WHAT IT READS IS OF BULK AT MOST 1048576: true; the input reads as it did. -/
def slotWholeUptoRow : OpenClaim := { program := "ytoinaplmgffkpaa", sum := "46f0b12f243719dcff87472a7c7c3649aaef222494da78df13ba140d967b018b", func := "aquifer/aquiferlaw11.SlotWhole", spec := "slotWhole", unfollowed := true, recurses := true, apart := false, narrowed := true }
def SlotWholeUptoSaid : Prop := slotWholeUptoRow.holds Try.pinned (OpenSpec.upto slotWholeSpec)

/-- 'aquiferlaw11.SlotHalves', WHERE WHAT IT READS IS OF BULK AT MOST 1048576: true; the input reads as it did. -/
def slotHalvesUptoRow : OpenClaim := { program := "ytoinaplmgffkpaa", sum := "46f0b12f243719dcff87472a7c7c3649aaef222494da78df13ba140d967b018b", func := "aquifer/aquiferlaw11.SlotHalves", spec := "slotHalves", unfollowed := true, recurses := true, apart := false, narrowed := true }
def SlotHalvesUptoSaid : Prop := slotHalvesUptoRow.holds Try.pinned (OpenSpec.upto slotHalvesSpec)

/-- 'aquiferlaw11.SlotPuts', WHERE WHAT IT READS IS OF BULK AT MOST 1048576: true; the input reads as it did. -/
def slotPutsUptoRow : OpenClaim := { program := "ytoinaplmgffkpaa", sum := "46f0b12f243719dcff87472a7c7c3649aaef222494da78df13ba140d967b018b", func := "aquifer/aquiferlaw11.SlotPuts", spec := "slotPuts", unfollowed := true, recurses := true, apart := false, narrowed := true }
def SlotPutsUptoSaid : Prop := slotPutsUptoRow.holds Try.pinned (OpenSpec.upto slotPutsSpec)

end Rows
end Go.Proofs.Ytoinaplmgffkpaa
