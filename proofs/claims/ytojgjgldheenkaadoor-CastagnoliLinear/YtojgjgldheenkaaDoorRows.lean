/-
  NARROWER THAN 'FOR EVERY INPUT', by the rows' own cells (each row's printed sentence says how): CastagnoliSums: laid · CastagnoliCombines: laid · CastagnoliParts: laid · CastagnoliBurst: laid · CastagnoliLinear: laid · CastagnoliZeros: laid.
  DERIVED. THE GIVEN ROWS OF THIS SEAT. 6 by the template 'for every input the law returns true; each argument reads behind the call as it read before'; 0 by the template 'total and deterministic' (their statements: YtojgjgldheenkaaDoorTotals.lean).
  GIVEN WITH THE SEED: the statements are not yours to turn. If you find one false, say at which input.
  Laid BY PROGRAM, IN A SANDBOX (cutbox-rows.mjs): the forced cells as the released guide's own fill.sh prints them over the translation 322561f7e17cd584… (all of the seat's roots in one cut). By AI agents, Wed Nov 11 2026. No macro, syntax, notation, axiom, sorry.
-/
import Derived.Test.YtojgjgldheenkaaDoorChecked
import GoSem.Claim
import GoSem.ClaimJoined
import GoSem.ClaimMapViews
import Derived.JoinedTies
import Derived.KernelRfl
namespace Go.Proofs.YtojgjgldheenkaaDoor
/- THE CELL 'sum', in the pinned program and in every row, IS THE sha256 OF THE DUMP (.gsa) THAT YtojgjgldheenkaaDoorProg.lean LOADS. Nothing in Lean hashes anything: it is a label: what it is worth is what the hold of that sum in a sandbox is worth. -/
noncomputable def Tryd.pinned : Pinned := { name := "ytojgjgldheenkaadoor", sum := "322561f7e17cd58488e8582b6ed18c121921cc4cabd109c78801eb63680b9c85", checked := Tryd.checked }
namespace Rows
def none {H : Type} : Left H := { results := [], args := [] }

/- WHAT THE LISTED PACKAGE-LEVEL VARIABLES READ AS WHEN THE CALL BEGINS. Each datum BY PROGRAM (the guide's laid-datum.mjs) off the statement by which the dump's own 'gosem.cut.vars' lays the variable. In a bare row this is a premise. The card (YtojgjgldheenkaaDoorCards.lean) ties it to the program's text. -/
def laid_aquifer_castagnoli_nibbles {H : Type} : DataW H := .agg [.lit (.int .u32 0), .lit (.int .u32 274646895), .lit (.int .u32 549293790), .lit (.int .u32 820201905), .lit (.int .u32 1098587580), .lit (.int .u32 1361435347), .lit (.int .u32 1640403810), .lit (.int .u32 1905808397), .lit (.int .u32 2197175160), .lit (.int .u32 2460548119), .lit (.int .u32 2722870694), .lit (.int .u32 2987750089), .lit (.int .u32 3280807620), .lit (.int .u32 3553878443), .lit (.int .u32 3811616794), .lit (.int .u32 4084100981)]

/-- 'aquiferlaw01.CastagnoliSums': WHATEVER THE INPUT: true; the input reads as it did. -/
def castagnoliSumsSpec : ChangeSpec := { name := "castagnoliSums", fn := fun _ => fun
  | [d1, d2] => { results := [.lit (.bool true)], args := [d1, d2] }
  | _ => none }
def castagnoliSumsRow : OpenClaim := { program := "ytojgjgldheenkaadoor", sum := "322561f7e17cd58488e8582b6ed18c121921cc4cabd109c78801eb63680b9c85", func := "aquifer/aquiferlaw01.CastagnoliSums", spec := "castagnoliSums", named := ["aquifer/castagnoli.nibbles"], apart := false, laid := [("aquifer/castagnoli.nibbles", laid_aquifer_castagnoli_nibbles)] }
def CastagnoliSumsSaid : Prop := castagnoliSumsRow.holds Tryd.pinned (OpenSpec.ofChange castagnoliSumsSpec)

/-- ITS FALSE NEIGHBOUR: 'it returns false'. Refute it at one input. -/
def castagnoliSumsWrong : ChangeSpec := { name := "castagnoliSums", fn := fun _ => fun
  | [d1, d2] => { results := [.lit (.bool false)], args := [d1, d2] }
  | _ => none }
def CastagnoliSumsWrongFalsely : Prop := castagnoliSumsRow.holds Tryd.pinned (OpenSpec.ofChange castagnoliSumsWrong)

/-- 'aquiferlaw01.CastagnoliCombines': WHATEVER THE INPUT: true; the input reads as it did. -/
def castagnoliCombinesSpec : ChangeSpec := { name := "castagnoliCombines", fn := fun _ => fun
  | [d1, d2, d3] => { results := [.lit (.bool true)], args := [d1, d2, d3] }
  | _ => none }
def castagnoliCombinesRow : OpenClaim := { program := "ytojgjgldheenkaadoor", sum := "322561f7e17cd58488e8582b6ed18c121921cc4cabd109c78801eb63680b9c85", func := "aquifer/aquiferlaw01.CastagnoliCombines", spec := "castagnoliCombines", named := ["aquifer/castagnoli.nibbles"], apart := false, laid := [("aquifer/castagnoli.nibbles", laid_aquifer_castagnoli_nibbles)] }
def CastagnoliCombinesSaid : Prop := castagnoliCombinesRow.holds Tryd.pinned (OpenSpec.ofChange castagnoliCombinesSpec)

/-- ITS FALSE NEIGHBOUR: 'it returns false'. Refute it at one input. -/
def castagnoliCombinesWrong : ChangeSpec := { name := "castagnoliCombines", fn := fun _ => fun
  | [d1, d2, d3] => { results := [.lit (.bool false)], args := [d1, d2, d3] }
  | _ => none }
def CastagnoliCombinesWrongFalsely : Prop := castagnoliCombinesRow.holds Tryd.pinned (OpenSpec.ofChange castagnoliCombinesWrong)

/-- 'aquiferlaw01.CastagnoliParts': WHATEVER THE INPUT: true; the input reads as it did. -/
def castagnoliPartsSpec : ChangeSpec := { name := "castagnoliParts", fn := fun _ => fun
  | [d1, d2] => { results := [.lit (.bool true)], args := [d1, d2] }
  | _ => none }
def castagnoliPartsRow : OpenClaim := { program := "ytojgjgldheenkaadoor", sum := "322561f7e17cd58488e8582b6ed18c121921cc4cabd109c78801eb63680b9c85", func := "aquifer/aquiferlaw01.CastagnoliParts", spec := "castagnoliParts", named := ["aquifer/castagnoli.nibbles"], apart := false, laid := [("aquifer/castagnoli.nibbles", laid_aquifer_castagnoli_nibbles)] }
def CastagnoliPartsSaid : Prop := castagnoliPartsRow.holds Tryd.pinned (OpenSpec.ofChange castagnoliPartsSpec)

/-- ITS FALSE NEIGHBOUR: 'it returns false'. Refute it at one input. -/
def castagnoliPartsWrong : ChangeSpec := { name := "castagnoliParts", fn := fun _ => fun
  | [d1, d2] => { results := [.lit (.bool false)], args := [d1, d2] }
  | _ => none }
def CastagnoliPartsWrongFalsely : Prop := castagnoliPartsRow.holds Tryd.pinned (OpenSpec.ofChange castagnoliPartsWrong)

/-- 'aquiferlaw01.CastagnoliBurst': WHATEVER THE INPUT: true; the input reads as it did. -/
def castagnoliBurstSpec : ChangeSpec := { name := "castagnoliBurst", fn := fun _ => fun
  | [d1, d2, d3] => { results := [.lit (.bool true)], args := [d1, d2, d3] }
  | _ => none }
def castagnoliBurstRow : OpenClaim := { program := "ytojgjgldheenkaadoor", sum := "322561f7e17cd58488e8582b6ed18c121921cc4cabd109c78801eb63680b9c85", func := "aquifer/aquiferlaw01.CastagnoliBurst", spec := "castagnoliBurst", named := ["aquifer/castagnoli.nibbles"], apart := false, laid := [("aquifer/castagnoli.nibbles", laid_aquifer_castagnoli_nibbles)] }
def CastagnoliBurstSaid : Prop := castagnoliBurstRow.holds Tryd.pinned (OpenSpec.ofChange castagnoliBurstSpec)

/-- ITS FALSE NEIGHBOUR: 'it returns false'. Refute it at one input. -/
def castagnoliBurstWrong : ChangeSpec := { name := "castagnoliBurst", fn := fun _ => fun
  | [d1, d2, d3] => { results := [.lit (.bool false)], args := [d1, d2, d3] }
  | _ => none }
def CastagnoliBurstWrongFalsely : Prop := castagnoliBurstRow.holds Tryd.pinned (OpenSpec.ofChange castagnoliBurstWrong)

/-- 'aquiferlaw01.CastagnoliLinear': WHATEVER THE INPUT: true; the input reads as it did. -/
def castagnoliLinearSpec : ChangeSpec := { name := "castagnoliLinear", fn := fun _ => fun
  | [d1, d2, d3] => { results := [.lit (.bool true)], args := [d1, d2, d3] }
  | _ => none }
def castagnoliLinearRow : OpenClaim := { program := "ytojgjgldheenkaadoor", sum := "322561f7e17cd58488e8582b6ed18c121921cc4cabd109c78801eb63680b9c85", func := "aquifer/aquiferlaw01.CastagnoliLinear", spec := "castagnoliLinear", named := ["aquifer/castagnoli.nibbles"], apart := false, laid := [("aquifer/castagnoli.nibbles", laid_aquifer_castagnoli_nibbles)] }
def CastagnoliLinearSaid : Prop := castagnoliLinearRow.holds Tryd.pinned (OpenSpec.ofChange castagnoliLinearSpec)

/-- ITS FALSE NEIGHBOUR: 'it returns false'. Refute it at one input. -/
def castagnoliLinearWrong : ChangeSpec := { name := "castagnoliLinear", fn := fun _ => fun
  | [d1, d2, d3] => { results := [.lit (.bool false)], args := [d1, d2, d3] }
  | _ => none }
def CastagnoliLinearWrongFalsely : Prop := castagnoliLinearRow.holds Tryd.pinned (OpenSpec.ofChange castagnoliLinearWrong)

/-- 'aquiferlaw01.CastagnoliZeros': WHATEVER THE INPUT: true; the input reads as it did. -/
def castagnoliZerosSpec : ChangeSpec := { name := "castagnoliZeros", fn := fun _ => fun
  | [d1, d2, d3] => { results := [.lit (.bool true)], args := [d1, d2, d3] }
  | _ => none }
def castagnoliZerosRow : OpenClaim := { program := "ytojgjgldheenkaadoor", sum := "322561f7e17cd58488e8582b6ed18c121921cc4cabd109c78801eb63680b9c85", func := "aquifer/aquiferlaw01.CastagnoliZeros", spec := "castagnoliZeros", named := ["aquifer/castagnoli.nibbles"], apart := false, laid := [("aquifer/castagnoli.nibbles", laid_aquifer_castagnoli_nibbles)] }
def CastagnoliZerosSaid : Prop := castagnoliZerosRow.holds Tryd.pinned (OpenSpec.ofChange castagnoliZerosSpec)

/-- ITS FALSE NEIGHBOUR: 'it returns false'. Refute it at one input. -/
def castagnoliZerosWrong : ChangeSpec := { name := "castagnoliZeros", fn := fun _ => fun
  | [d1, d2, d3] => { results := [.lit (.bool false)], args := [d1, d2, d3] }
  | _ => none }
def CastagnoliZerosWrongFalsely : Prop := castagnoliZerosRow.holds Tryd.pinned (OpenSpec.ofChange castagnoliZerosWrong)

/- THE SECOND FORM. 'bulk': how many values and letters a reading holds, each counted each time it is reached (what is shared counts as often as it is met; a slice's spare places count too). A statement '..UptoSaid' is the law's where the arguments, and the package variables that the reading takes, are together of bulk at most 1048576: NARROWER than '..Said'. Prove '..Said' where nothing that the law and all that it calls make is longer than what came in: it says more and counts as full. Else prove '..UptoSaid'. A law counts once. -/
mutual
def uptoBulk {H : Type} : DataW H → Nat
  | .lit (.string bytes) => bytes.length + 1
  | .lit _ => 1
  | .nil => 1
  | .ptr d => uptoBulk d + 1
  | .slice elems spare => uptoBulkAll elems + uptoBulkAll spare + 1
  | .agg parts => uptoBulkAll parts + 1
  | .iface _ d => uptoBulk d + 1
  | .map entries => uptoBulkEntries entries + 1
  | .held _ => 1
def uptoBulkAll {H : Type} : List (DataW H) → Nat
  | [] => 0
  | d :: r => uptoBulk d + uptoBulkAll r
def uptoBulkEntries {H : Type} : List (Lit × DataW H) → Nat
  | [] => 0
  | x :: r => uptoBulkEntry x + uptoBulkEntries r
def uptoBulkEntry {H : Type} : Lit × DataW H → Nat
  | (.string bytes, d) => bytes.length + uptoBulk d + 1
  | (_, d) => uptoBulk d + 1
 end
def uptoSmall : (H : Type) → List (DataW H) → Bool := fun _ ds => decide (uptoBulkAll ds ≤ 1048576)
def OpenSpec.upto (s : _root_.Go.ChangeSpec) : _root_.Go.OpenSpec := { _root_.Go.OpenSpec.ofChange s with cond := some uptoSmall }

/-- 'aquiferlaw01.CastagnoliSums', WHERE WHAT IT READS IS OF BULK AT MOST 1048576: true; the input reads as it did. -/
def castagnoliSumsUptoRow : OpenClaim := { program := "ytojgjgldheenkaadoor", sum := "322561f7e17cd58488e8582b6ed18c121921cc4cabd109c78801eb63680b9c85", func := "aquifer/aquiferlaw01.CastagnoliSums", spec := "castagnoliSums", named := ["aquifer/castagnoli.nibbles"], apart := false, laid := [("aquifer/castagnoli.nibbles", laid_aquifer_castagnoli_nibbles)], narrowed := true }
def CastagnoliSumsUptoSaid : Prop := castagnoliSumsUptoRow.holds Tryd.pinned (OpenSpec.upto castagnoliSumsSpec)

/-- 'aquiferlaw01.CastagnoliCombines', WHERE WHAT IT READS IS OF BULK AT MOST 1048576: true; the input reads as it did. -/
def castagnoliCombinesUptoRow : OpenClaim := { program := "ytojgjgldheenkaadoor", sum := "322561f7e17cd58488e8582b6ed18c121921cc4cabd109c78801eb63680b9c85", func := "aquifer/aquiferlaw01.CastagnoliCombines", spec := "castagnoliCombines", named := ["aquifer/castagnoli.nibbles"], apart := false, laid := [("aquifer/castagnoli.nibbles", laid_aquifer_castagnoli_nibbles)], narrowed := true }
def CastagnoliCombinesUptoSaid : Prop := castagnoliCombinesUptoRow.holds Tryd.pinned (OpenSpec.upto castagnoliCombinesSpec)

/-- 'aquiferlaw01.CastagnoliParts', WHERE WHAT IT READS IS OF BULK AT MOST 1048576: true; the input reads as it did. -/
def castagnoliPartsUptoRow : OpenClaim := { program := "ytojgjgldheenkaadoor", sum := "322561f7e17cd58488e8582b6ed18c121921cc4cabd109c78801eb63680b9c85", func := "aquifer/aquiferlaw01.CastagnoliParts", spec := "castagnoliParts", named := ["aquifer/castagnoli.nibbles"], apart := false, laid := [("aquifer/castagnoli.nibbles", laid_aquifer_castagnoli_nibbles)], narrowed := true }
def CastagnoliPartsUptoSaid : Prop := castagnoliPartsUptoRow.holds Tryd.pinned (OpenSpec.upto castagnoliPartsSpec)

/-- 'aquiferlaw01.CastagnoliBurst', WHERE WHAT IT READS IS OF BULK AT MOST 1048576: true; the input reads as it did. -/
def castagnoliBurstUptoRow : OpenClaim := { program := "ytojgjgldheenkaadoor", sum := "322561f7e17cd58488e8582b6ed18c121921cc4cabd109c78801eb63680b9c85", func := "aquifer/aquiferlaw01.CastagnoliBurst", spec := "castagnoliBurst", named := ["aquifer/castagnoli.nibbles"], apart := false, laid := [("aquifer/castagnoli.nibbles", laid_aquifer_castagnoli_nibbles)], narrowed := true }
def CastagnoliBurstUptoSaid : Prop := castagnoliBurstUptoRow.holds Tryd.pinned (OpenSpec.upto castagnoliBurstSpec)

/-- 'aquiferlaw01.CastagnoliLinear', WHERE WHAT IT READS IS OF BULK AT MOST 1048576: true; the input reads as it did. -/
def castagnoliLinearUptoRow : OpenClaim := { program := "ytojgjgldheenkaadoor", sum := "322561f7e17cd58488e8582b6ed18c121921cc4cabd109c78801eb63680b9c85", func := "aquifer/aquiferlaw01.CastagnoliLinear", spec := "castagnoliLinear", named := ["aquifer/castagnoli.nibbles"], apart := false, laid := [("aquifer/castagnoli.nibbles", laid_aquifer_castagnoli_nibbles)], narrowed := true }
def CastagnoliLinearUptoSaid : Prop := castagnoliLinearUptoRow.holds Tryd.pinned (OpenSpec.upto castagnoliLinearSpec)

/-- 'aquiferlaw01.CastagnoliZeros', WHERE WHAT IT READS IS OF BULK AT MOST 1048576: true; the input reads as it did. -/
def castagnoliZerosUptoRow : OpenClaim := { program := "ytojgjgldheenkaadoor", sum := "322561f7e17cd58488e8582b6ed18c121921cc4cabd109c78801eb63680b9c85", func := "aquifer/aquiferlaw01.CastagnoliZeros", spec := "castagnoliZeros", named := ["aquifer/castagnoli.nibbles"], apart := false, laid := [("aquifer/castagnoli.nibbles", laid_aquifer_castagnoli_nibbles)], narrowed := true }
def CastagnoliZerosUptoSaid : Prop := castagnoliZerosUptoRow.holds Tryd.pinned (OpenSpec.upto castagnoliZerosSpec)

end Rows
end Go.Proofs.YtojgjgldheenkaaDoor
