/-
  NARROWER THAN 'FOR EVERY INPUT', by the rows' own cells (each row's printed sentence says how): PageSeals: laid · PageOpens: laid · PageCuts: laid · PageBack: laid · PageTurned: laid · PageLess: laid.
  DERIVED. THE GIVEN ROWS OF THIS SEAT. 6 by the template 'for every input the law returns true; each argument reads behind the call as it read before'; 0 by the template 'total and deterministic' (their statements: YtlcbkockmhfllaaDoorTotals.lean).
  GIVEN WITH THE SEED: the statements are not yours to turn. If you find one false, say at which input.
  Laid BY PROGRAM, IN A SANDBOX (cutbox-rows.mjs): the forced cells as the released guide's own fill.sh prints them over the translation aa249a21e1c074e4… (all of the seat's roots in one cut). By AI agents, Wed Nov 11 2026. No macro, syntax, notation, axiom, sorry.
-/
import Derived.Test.YtlcbkockmhfllaaDoorChecked
import GoSem.Claim
import GoSem.ClaimJoined
import GoSem.ClaimMapViews
import Derived.JoinedTies
import Derived.KernelRfl
namespace Go.Proofs.YtlcbkockmhfllaaDoor
/- THE CELL 'sum', in the pinned program and in every row, IS THE sha256 OF THE DUMP (.gsa) THAT YtlcbkockmhfllaaDoorProg.lean LOADS. Nothing in Lean hashes anything: it is a label: what it is worth is what the hold of that sum in a sandbox is worth. -/
noncomputable def Tryd.pinned : Pinned := { name := "ytlcbkockmhfllaadoor", sum := "aa249a21e1c074e48edf6c70821e577409fadb7f8ed0d9262d11f66d9dc04e47", checked := Tryd.checked }
namespace Rows
def none {H : Type} : Left H := { results := [], args := [] }

/- WHAT THE LISTED PACKAGE-LEVEL VARIABLES READ AS WHEN THE CALL BEGINS. Each datum BY PROGRAM (the guide's laid-datum.mjs) off the statement by which the dump's own 'gosem.cut.vars' lays the variable. In a bare row this is a premise. The card (YtlcbkockmhfllaaDoorCards.lean) ties it to the program's text. -/
def laid_aquifer_castagnoli_nibbles {H : Type} : DataW H := .agg [.lit (.int .u32 0), .lit (.int .u32 274646895), .lit (.int .u32 549293790), .lit (.int .u32 820201905), .lit (.int .u32 1098587580), .lit (.int .u32 1361435347), .lit (.int .u32 1640403810), .lit (.int .u32 1905808397), .lit (.int .u32 2197175160), .lit (.int .u32 2460548119), .lit (.int .u32 2722870694), .lit (.int .u32 2987750089), .lit (.int .u32 3280807620), .lit (.int .u32 3553878443), .lit (.int .u32 3811616794), .lit (.int .u32 4084100981)]

/-- 'aquiferlaw09.PageSeals': WHATEVER THE INPUT: true; the input reads as it did. -/
def pageSealsSpec : ChangeSpec := { name := "pageSeals", fn := fun _ => fun
  | [d1, d2, d3] => { results := [.lit (.bool true)], args := [d1, d2, d3] }
  | _ => none }
def pageSealsRow : OpenClaim := { program := "ytlcbkockmhfllaadoor", sum := "aa249a21e1c074e48edf6c70821e577409fadb7f8ed0d9262d11f66d9dc04e47", func := "aquifer/aquiferlaw09.PageSeals", spec := "pageSeals", named := ["aquifer/castagnoli.nibbles"], apart := false, laid := [("aquifer/castagnoli.nibbles", laid_aquifer_castagnoli_nibbles)] }
def PageSealsSaid : Prop := pageSealsRow.holds Tryd.pinned (OpenSpec.ofChange pageSealsSpec)

/-- ITS FALSE NEIGHBOUR: 'it returns false'. Refute it at one input. -/
def pageSealsWrong : ChangeSpec := { name := "pageSeals", fn := fun _ => fun
  | [d1, d2, d3] => { results := [.lit (.bool false)], args := [d1, d2, d3] }
  | _ => none }
def PageSealsWrongFalsely : Prop := pageSealsRow.holds Tryd.pinned (OpenSpec.ofChange pageSealsWrong)

/-- 'aquiferlaw09.PageOpens': WHATEVER THE INPUT: true; the input reads as it did. -/
def pageOpensSpec : ChangeSpec := { name := "pageOpens", fn := fun _ => fun
  | [d1, d2] => { results := [.lit (.bool true)], args := [d1, d2] }
  | _ => none }
def pageOpensRow : OpenClaim := { program := "ytlcbkockmhfllaadoor", sum := "aa249a21e1c074e48edf6c70821e577409fadb7f8ed0d9262d11f66d9dc04e47", func := "aquifer/aquiferlaw09.PageOpens", spec := "pageOpens", named := ["aquifer/castagnoli.nibbles"], apart := false, laid := [("aquifer/castagnoli.nibbles", laid_aquifer_castagnoli_nibbles)] }
def PageOpensSaid : Prop := pageOpensRow.holds Tryd.pinned (OpenSpec.ofChange pageOpensSpec)

/-- ITS FALSE NEIGHBOUR: 'it returns false'. Refute it at one input. -/
def pageOpensWrong : ChangeSpec := { name := "pageOpens", fn := fun _ => fun
  | [d1, d2] => { results := [.lit (.bool false)], args := [d1, d2] }
  | _ => none }
def PageOpensWrongFalsely : Prop := pageOpensRow.holds Tryd.pinned (OpenSpec.ofChange pageOpensWrong)

/-- 'aquiferlaw09.PageCuts': WHATEVER THE INPUT: true; the input reads as it did. -/
def pageCutsSpec : ChangeSpec := { name := "pageCuts", fn := fun _ => fun
  | [d] => { results := [.lit (.bool true)], args := [d] }
  | _ => none }
def pageCutsRow : OpenClaim := { program := "ytlcbkockmhfllaadoor", sum := "aa249a21e1c074e48edf6c70821e577409fadb7f8ed0d9262d11f66d9dc04e47", func := "aquifer/aquiferlaw09.PageCuts", spec := "pageCuts", named := ["aquifer/castagnoli.nibbles"], apart := false, laid := [("aquifer/castagnoli.nibbles", laid_aquifer_castagnoli_nibbles)] }
def PageCutsSaid : Prop := pageCutsRow.holds Tryd.pinned (OpenSpec.ofChange pageCutsSpec)

/-- ITS FALSE NEIGHBOUR: 'it returns false'. Refute it at one input. -/
def pageCutsWrong : ChangeSpec := { name := "pageCuts", fn := fun _ => fun
  | [d] => { results := [.lit (.bool false)], args := [d] }
  | _ => none }
def PageCutsWrongFalsely : Prop := pageCutsRow.holds Tryd.pinned (OpenSpec.ofChange pageCutsWrong)

/-- 'aquiferlaw09.PageBack': WHATEVER THE INPUT: true; the input reads as it did. -/
def pageBackSpec : ChangeSpec := { name := "pageBack", fn := fun _ => fun
  | [d1, d2, d3] => { results := [.lit (.bool true)], args := [d1, d2, d3] }
  | _ => none }
def pageBackRow : OpenClaim := { program := "ytlcbkockmhfllaadoor", sum := "aa249a21e1c074e48edf6c70821e577409fadb7f8ed0d9262d11f66d9dc04e47", func := "aquifer/aquiferlaw09.PageBack", spec := "pageBack", named := ["aquifer/castagnoli.nibbles"], apart := false, laid := [("aquifer/castagnoli.nibbles", laid_aquifer_castagnoli_nibbles)] }
def PageBackSaid : Prop := pageBackRow.holds Tryd.pinned (OpenSpec.ofChange pageBackSpec)

/-- ITS FALSE NEIGHBOUR: 'it returns false'. Refute it at one input. -/
def pageBackWrong : ChangeSpec := { name := "pageBack", fn := fun _ => fun
  | [d1, d2, d3] => { results := [.lit (.bool false)], args := [d1, d2, d3] }
  | _ => none }
def PageBackWrongFalsely : Prop := pageBackRow.holds Tryd.pinned (OpenSpec.ofChange pageBackWrong)

/-- 'aquiferlaw09.PageTurned': WHATEVER THE INPUT: true; the input reads as it did. -/
def pageTurnedSpec : ChangeSpec := { name := "pageTurned", fn := fun _ => fun
  | [d1, d2, d3] => { results := [.lit (.bool true)], args := [d1, d2, d3] }
  | _ => none }
def pageTurnedRow : OpenClaim := { program := "ytlcbkockmhfllaadoor", sum := "aa249a21e1c074e48edf6c70821e577409fadb7f8ed0d9262d11f66d9dc04e47", func := "aquifer/aquiferlaw09.PageTurned", spec := "pageTurned", named := ["aquifer/castagnoli.nibbles"], apart := false, laid := [("aquifer/castagnoli.nibbles", laid_aquifer_castagnoli_nibbles)] }
def PageTurnedSaid : Prop := pageTurnedRow.holds Tryd.pinned (OpenSpec.ofChange pageTurnedSpec)

/-- ITS FALSE NEIGHBOUR: 'it returns false'. Refute it at one input. -/
def pageTurnedWrong : ChangeSpec := { name := "pageTurned", fn := fun _ => fun
  | [d1, d2, d3] => { results := [.lit (.bool false)], args := [d1, d2, d3] }
  | _ => none }
def PageTurnedWrongFalsely : Prop := pageTurnedRow.holds Tryd.pinned (OpenSpec.ofChange pageTurnedWrong)

/-- 'aquiferlaw09.PageLess': WHATEVER THE INPUT: true; the input reads as it did. -/
def pageLessSpec : ChangeSpec := { name := "pageLess", fn := fun _ => fun
  | [d1, d2, d3] => { results := [.lit (.bool true)], args := [d1, d2, d3] }
  | _ => none }
def pageLessRow : OpenClaim := { program := "ytlcbkockmhfllaadoor", sum := "aa249a21e1c074e48edf6c70821e577409fadb7f8ed0d9262d11f66d9dc04e47", func := "aquifer/aquiferlaw09.PageLess", spec := "pageLess", named := ["aquifer/castagnoli.nibbles"], apart := false, laid := [("aquifer/castagnoli.nibbles", laid_aquifer_castagnoli_nibbles)] }
def PageLessSaid : Prop := pageLessRow.holds Tryd.pinned (OpenSpec.ofChange pageLessSpec)

/-- ITS FALSE NEIGHBOUR: 'it returns false'. Refute it at one input. -/
def pageLessWrong : ChangeSpec := { name := "pageLess", fn := fun _ => fun
  | [d1, d2, d3] => { results := [.lit (.bool false)], args := [d1, d2, d3] }
  | _ => none }
def PageLessWrongFalsely : Prop := pageLessRow.holds Tryd.pinned (OpenSpec.ofChange pageLessWrong)

/- THE SECOND FORM. 'bulk': how many values and letters a reading holds, each counted each time it is reached (what is shared counts as often as it is met; a slice's spare places count too). A statement '..UptoSaid' is the law's where the arguments, and the package variables that the reading takes, are together of bulk at most 1048576: NARROWER than '..Said'. Prove '..Said' where nothing that the law and all that it calls make is longer than what came in: it says more and counts as full. Else prove '..UptoSaid'. A law counts once. -/
mutual
def uptoBulk {H : Type} : DataW H → Nat
  | .lit (.string bytes) => bytes.length + 1
  | .lit _ => 1
  | .nil => 1
  | .ptr d => uptoBulk d + 1
  | .slice elems spare => uptoBulkAll elems + uptoBulkAll spare + 1
  | .agg parts => uptoBulkAll parts + 1
  | .iface _ d => uptoBulk d + 1
  | .map entries => uptoBulkEntries entries + 1
  | .held _ => 1
def uptoBulkAll {H : Type} : List (DataW H) → Nat
  | [] => 0
  | d :: r => uptoBulk d + uptoBulkAll r
def uptoBulkEntries {H : Type} : List (Lit × DataW H) → Nat
  | [] => 0
  | x :: r => uptoBulkEntry x + uptoBulkEntries r
def uptoBulkEntry {H : Type} : Lit × DataW H → Nat
  | (.string bytes, d) => bytes.length + uptoBulk d + 1
  | (_, d) => uptoBulk d + 1
 end
def uptoSmall : (H : Type) → List (DataW H) → Bool := fun _ ds => decide (uptoBulkAll ds ≤ 1048576)
def OpenSpec.upto (s : _root_.Go.ChangeSpec) : _root_.Go.OpenSpec := { _root_.Go.OpenSpec.ofChange s with cond := some uptoSmall }

/-- 'aquiferlaw09.PageSeals', WHERE WHAT IT READS IS OF BULK AT MOST 1048576: true; the input reads as it did. -/
def pageSealsUptoRow : OpenClaim := { program := "ytlcbkockmhfllaadoor", sum := "aa249a21e1c074e48edf6c70821e577409fadb7f8ed0d9262d11f66d9dc04e47", func := "aquifer/aquiferlaw09.PageSeals", spec := "pageSeals", named := ["aquifer/castagnoli.nibbles"], apart := false, laid := [("aquifer/castagnoli.nibbles", laid_aquifer_castagnoli_nibbles)], narrowed := true }
def PageSealsUptoSaid : Prop := pageSealsUptoRow.holds Tryd.pinned (OpenSpec.upto pageSealsSpec)

/-- 'aquiferlaw09.PageOpens', WHERE WHAT IT READS IS OF BULK AT MOST 1048576: true; the input reads as it did. -/
def pageOpensUptoRow : OpenClaim := { program := "ytlcbkockmhfllaadoor", sum := "aa249a21e1c074e48edf6c70821e577409fadb7f8ed0d9262d11f66d9dc04e47", func := "aquifer/aquiferlaw09.PageOpens", spec := "pageOpens", named := ["aquifer/castagnoli.nibbles"], apart := false, laid := [("aquifer/castagnoli.nibbles", laid_aquifer_castagnoli_nibbles)], narrowed := true }
def PageOpensUptoSaid : Prop := pageOpensUptoRow.holds Tryd.pinned (OpenSpec.upto pageOpensSpec)

/-- 'aquiferlaw09.PageCuts', WHERE WHAT IT READS IS OF BULK AT MOST 1048576: true; the input reads as it did. -/
def pageCutsUptoRow : OpenClaim := { program := "ytlcbkockmhfllaadoor", sum := "aa249a21e1c074e48edf6c70821e577409fadb7f8ed0d9262d11f66d9dc04e47", func := "aquifer/aquiferlaw09.PageCuts", spec := "pageCuts", named := ["aquifer/castagnoli.nibbles"], apart := false, laid := [("aquifer/castagnoli.nibbles", laid_aquifer_castagnoli_nibbles)], narrowed := true }
def PageCutsUptoSaid : Prop := pageCutsUptoRow.holds Tryd.pinned (OpenSpec.upto pageCutsSpec)

/-- 'aquiferlaw09.PageBack', WHERE WHAT IT READS IS OF BULK AT MOST 1048576: true; the input reads as it did. -/
def pageBackUptoRow : OpenClaim := { program := "ytlcbkockmhfllaadoor", sum := "aa249a21e1c074e48edf6c70821e577409fadb7f8ed0d9262d11f66d9dc04e47", func := "aquifer/aquiferlaw09.PageBack", spec := "pageBack", named := ["aquifer/castagnoli.nibbles"], apart := false, laid := [("aquifer/castagnoli.nibbles", laid_aquifer_castagnoli_nibbles)], narrowed := true }
def PageBackUptoSaid : Prop := pageBackUptoRow.holds Tryd.pinned (OpenSpec.upto pageBackSpec)

/-- 'aquiferlaw09.PageTurned', WHERE WHAT IT READS IS OF BULK AT MOST 1048576: true; the input reads as it did. -/
def pageTurnedUptoRow : OpenClaim := { program := "ytlcbkockmhfllaadoor", sum := "aa249a21e1c074e48edf6c70821e577409fadb7f8ed0d9262d11f66d9dc04e47", func := "aquifer/aquiferlaw09.PageTurned", spec := "pageTurned", named := ["aquifer/castagnoli.nibbles"], apart := false, laid := [("aquifer/castagnoli.nibbles", laid_aquifer_castagnoli_nibbles)], narrowed := true }
def PageTurnedUptoSaid : Prop := pageTurnedUptoRow.holds Tryd.pinned (OpenSpec.upto pageTurnedSpec)

/-- 'aquiferlaw09.PageLess', WHERE WHAT IT READS IS OF BULK AT MOST 1048576: true; the input reads as it did. -/
def pageLessUptoRow : OpenClaim := { program := "ytlcbkockmhfllaadoor", sum := "aa249a21e1c074e48edf6c70821e577409fadb7f8ed0d9262d11f66d9dc04e47", func := "aquifer/aquiferlaw09.PageLess", spec := "pageLess", named := ["aquifer/castagnoli.nibbles"], apart := false, laid := [("aquifer/castagnoli.nibbles", laid_aquifer_castagnoli_nibbles)], narrowed := true }
def PageLessUptoSaid : Prop := pageLessUptoRow.holds Tryd.pinned (OpenSpec.upto pageLessSpec)

end Rows
end Go.Proofs.YtlcbkockmhfllaaDoor
