/-
  NARROWER THAN 'FOR EVERY INPUT', by the rows' own cells (each row's printed sentence says how): BlakeOf: laid · BlakeEdges: laid · BlakePlays: laid · BlakeTexts: laid · BlakePieces: laid · BlakeNobody: laid.
  DERIVED. THE GIVEN ROWS OF THIS SEAT. 6 by the template 'for every input the law returns true; each argument reads behind the call as it read before'; 0 by the template 'total and deterministic' (their statements: YtaeeibllmpaebaaDoorTotals.lean).
  GIVEN WITH THE SEED: the statements are not yours to turn. If you find one false, say at which input.
  Laid BY PROGRAM, IN A SANDBOX (cutbox-rows.mjs): the forced cells as the released guide's own fill.sh prints them over the translation dcf8e88e48ebc91b… (all of the seat's roots in one cut). By AI agents, Wed Nov 11 2026. No macro, syntax, notation, axiom, sorry.
-/
import Derived.Test.YtaeeibllmpaebaaDoorChecked
import GoSem.Claim
import GoSem.ClaimJoined
import GoSem.ClaimMapViews
import Derived.JoinedTies
import Derived.KernelRfl
namespace Go.Proofs.YtaeeibllmpaebaaDoor
/- THE CELL 'sum', in the pinned program and in every row, IS THE sha256 OF THE DUMP (.gsa) THAT YtaeeibllmpaebaaDoorProg.lean LOADS. Nothing in Lean hashes anything: it is a label: what it is worth is what the hold of that sum in a sandbox is worth. -/
noncomputable def Tryd.pinned : Pinned := { name := "ytaeeibllmpaebaadoor", sum := "dcf8e88e48ebc91b4efa56341a3b39f1adbfc307f29ea83a20c43f1afcbef4a2", checked := Tryd.checked }
namespace Rows
def none {H : Type} : Left H := { results := [], args := [] }

/- WHAT THE LISTED PACKAGE-LEVEL VARIABLES READ AS WHEN THE CALL BEGINS. Each datum BY PROGRAM (the guide's laid-datum.mjs) off the statement by which the dump's own 'gosem.cut.vars' lays the variable. In a bare row this is a premise. The card (YtaeeibllmpaebaaDoorCards.lean) ties it to the program's text. -/
def laid_aquifer_blake_start {H : Type} : DataW H := .agg [.lit (.int .u32 1779033703), .lit (.int .u32 3144134277), .lit (.int .u32 1013904242), .lit (.int .u32 2773480762), .lit (.int .u32 1359893119), .lit (.int .u32 2600822924), .lit (.int .u32 528734635), .lit (.int .u32 1541459225)]
def laid_aquifer_blake_orders {H : Type} : DataW H := .agg [.agg [.lit (.int .u8 0), .lit (.int .u8 1), .lit (.int .u8 2), .lit (.int .u8 3), .lit (.int .u8 4), .lit (.int .u8 5), .lit (.int .u8 6), .lit (.int .u8 7), .lit (.int .u8 8), .lit (.int .u8 9), .lit (.int .u8 10), .lit (.int .u8 11), .lit (.int .u8 12), .lit (.int .u8 13), .lit (.int .u8 14), .lit (.int .u8 15)], .agg [.lit (.int .u8 14), .lit (.int .u8 10), .lit (.int .u8 4), .lit (.int .u8 8), .lit (.int .u8 9), .lit (.int .u8 15), .lit (.int .u8 13), .lit (.int .u8 6), .lit (.int .u8 1), .lit (.int .u8 12), .lit (.int .u8 0), .lit (.int .u8 2), .lit (.int .u8 11), .lit (.int .u8 7), .lit (.int .u8 5), .lit (.int .u8 3)], .agg [.lit (.int .u8 11), .lit (.int .u8 8), .lit (.int .u8 12), .lit (.int .u8 0), .lit (.int .u8 5), .lit (.int .u8 2), .lit (.int .u8 15), .lit (.int .u8 13), .lit (.int .u8 10), .lit (.int .u8 14), .lit (.int .u8 3), .lit (.int .u8 6), .lit (.int .u8 7), .lit (.int .u8 1), .lit (.int .u8 9), .lit (.int .u8 4)], .agg [.lit (.int .u8 7), .lit (.int .u8 9), .lit (.int .u8 3), .lit (.int .u8 1), .lit (.int .u8 13), .lit (.int .u8 12), .lit (.int .u8 11), .lit (.int .u8 14), .lit (.int .u8 2), .lit (.int .u8 6), .lit (.int .u8 5), .lit (.int .u8 10), .lit (.int .u8 4), .lit (.int .u8 0), .lit (.int .u8 15), .lit (.int .u8 8)], .agg [.lit (.int .u8 9), .lit (.int .u8 0), .lit (.int .u8 5), .lit (.int .u8 7), .lit (.int .u8 2), .lit (.int .u8 4), .lit (.int .u8 10), .lit (.int .u8 15), .lit (.int .u8 14), .lit (.int .u8 1), .lit (.int .u8 11), .lit (.int .u8 12), .lit (.int .u8 6), .lit (.int .u8 8), .lit (.int .u8 3), .lit (.int .u8 13)], .agg [.lit (.int .u8 2), .lit (.int .u8 12), .lit (.int .u8 6), .lit (.int .u8 10), .lit (.int .u8 0), .lit (.int .u8 11), .lit (.int .u8 8), .lit (.int .u8 3), .lit (.int .u8 4), .lit (.int .u8 13), .lit (.int .u8 7), .lit (.int .u8 5), .lit (.int .u8 15), .lit (.int .u8 14), .lit (.int .u8 1), .lit (.int .u8 9)], .agg [.lit (.int .u8 12), .lit (.int .u8 5), .lit (.int .u8 1), .lit (.int .u8 15), .lit (.int .u8 14), .lit (.int .u8 13), .lit (.int .u8 4), .lit (.int .u8 10), .lit (.int .u8 0), .lit (.int .u8 7), .lit (.int .u8 6), .lit (.int .u8 3), .lit (.int .u8 9), .lit (.int .u8 2), .lit (.int .u8 8), .lit (.int .u8 11)], .agg [.lit (.int .u8 13), .lit (.int .u8 11), .lit (.int .u8 7), .lit (.int .u8 14), .lit (.int .u8 12), .lit (.int .u8 1), .lit (.int .u8 3), .lit (.int .u8 9), .lit (.int .u8 5), .lit (.int .u8 0), .lit (.int .u8 15), .lit (.int .u8 4), .lit (.int .u8 8), .lit (.int .u8 6), .lit (.int .u8 2), .lit (.int .u8 10)], .agg [.lit (.int .u8 6), .lit (.int .u8 15), .lit (.int .u8 14), .lit (.int .u8 9), .lit (.int .u8 11), .lit (.int .u8 3), .lit (.int .u8 0), .lit (.int .u8 8), .lit (.int .u8 12), .lit (.int .u8 2), .lit (.int .u8 13), .lit (.int .u8 7), .lit (.int .u8 1), .lit (.int .u8 4), .lit (.int .u8 10), .lit (.int .u8 5)], .agg [.lit (.int .u8 10), .lit (.int .u8 2), .lit (.int .u8 8), .lit (.int .u8 4), .lit (.int .u8 7), .lit (.int .u8 6), .lit (.int .u8 1), .lit (.int .u8 5), .lit (.int .u8 15), .lit (.int .u8 11), .lit (.int .u8 9), .lit (.int .u8 14), .lit (.int .u8 3), .lit (.int .u8 12), .lit (.int .u8 13), .lit (.int .u8 0)]]

/-- 'aquiferlaw02.BlakeOf': WHATEVER THE INPUT: true; the input reads as it did. -/
def blakeOfSpec : ChangeSpec := { name := "blakeOf", fn := fun _ => fun
  | [d] => { results := [.lit (.bool true)], args := [d] }
  | _ => none }
def blakeOfRow : OpenClaim := { program := "ytaeeibllmpaebaadoor", sum := "dcf8e88e48ebc91b4efa56341a3b39f1adbfc307f29ea83a20c43f1afcbef4a2", func := "aquifer/aquiferlaw02.BlakeOf", spec := "blakeOf", named := ["aquifer/blake.start", "aquifer/blake.orders"], apart := false, laid := [("aquifer/blake.start", laid_aquifer_blake_start), ("aquifer/blake.orders", laid_aquifer_blake_orders)] }
def BlakeOfSaid : Prop := blakeOfRow.holds Tryd.pinned (OpenSpec.ofChange blakeOfSpec)

/-- ITS FALSE NEIGHBOUR: 'it returns false'. Refute it at one input. -/
def blakeOfWrong : ChangeSpec := { name := "blakeOf", fn := fun _ => fun
  | [d] => { results := [.lit (.bool false)], args := [d] }
  | _ => none }
def BlakeOfWrongFalsely : Prop := blakeOfRow.holds Tryd.pinned (OpenSpec.ofChange blakeOfWrong)

/-- 'aquiferlaw02.BlakeEdges': WHATEVER THE INPUT: true; the input reads as it did. -/
def blakeEdgesSpec : ChangeSpec := { name := "blakeEdges", fn := fun _ => fun
  | [d1, d2] => { results := [.lit (.bool true)], args := [d1, d2] }
  | _ => none }
def blakeEdgesRow : OpenClaim := { program := "ytaeeibllmpaebaadoor", sum := "dcf8e88e48ebc91b4efa56341a3b39f1adbfc307f29ea83a20c43f1afcbef4a2", func := "aquifer/aquiferlaw02.BlakeEdges", spec := "blakeEdges", named := ["aquifer/blake.start", "aquifer/blake.orders"], apart := false, laid := [("aquifer/blake.start", laid_aquifer_blake_start), ("aquifer/blake.orders", laid_aquifer_blake_orders)] }
def BlakeEdgesSaid : Prop := blakeEdgesRow.holds Tryd.pinned (OpenSpec.ofChange blakeEdgesSpec)

/-- ITS FALSE NEIGHBOUR: 'it returns false'. Refute it at one input. -/
def blakeEdgesWrong : ChangeSpec := { name := "blakeEdges", fn := fun _ => fun
  | [d1, d2] => { results := [.lit (.bool false)], args := [d1, d2] }
  | _ => none }
def BlakeEdgesWrongFalsely : Prop := blakeEdgesRow.holds Tryd.pinned (OpenSpec.ofChange blakeEdgesWrong)

/-- 'aquiferlaw02.BlakePlays': WHATEVER THE INPUT: true; the input reads as it did. -/
def blakePlaysSpec : ChangeSpec := { name := "blakePlays", fn := fun _ => fun
  | [d1, d2] => { results := [.lit (.bool true)], args := [d1, d2] }
  | _ => none }
def blakePlaysRow : OpenClaim := { program := "ytaeeibllmpaebaadoor", sum := "dcf8e88e48ebc91b4efa56341a3b39f1adbfc307f29ea83a20c43f1afcbef4a2", func := "aquifer/aquiferlaw02.BlakePlays", spec := "blakePlays", named := ["aquifer/blake.start", "aquifer/blake.orders"], apart := false, laid := [("aquifer/blake.start", laid_aquifer_blake_start), ("aquifer/blake.orders", laid_aquifer_blake_orders)] }
def BlakePlaysSaid : Prop := blakePlaysRow.holds Tryd.pinned (OpenSpec.ofChange blakePlaysSpec)

/-- ITS FALSE NEIGHBOUR: 'it returns false'. Refute it at one input. -/
def blakePlaysWrong : ChangeSpec := { name := "blakePlays", fn := fun _ => fun
  | [d1, d2] => { results := [.lit (.bool false)], args := [d1, d2] }
  | _ => none }
def BlakePlaysWrongFalsely : Prop := blakePlaysRow.holds Tryd.pinned (OpenSpec.ofChange blakePlaysWrong)

/-- 'aquiferlaw02.BlakeTexts': WHATEVER THE INPUT: true; the input reads as it did. -/
def blakeTextsSpec : ChangeSpec := { name := "blakeTexts", fn := fun _ => fun
  | [d1, d2] => { results := [.lit (.bool true)], args := [d1, d2] }
  | _ => none }
def blakeTextsRow : OpenClaim := { program := "ytaeeibllmpaebaadoor", sum := "dcf8e88e48ebc91b4efa56341a3b39f1adbfc307f29ea83a20c43f1afcbef4a2", func := "aquifer/aquiferlaw02.BlakeTexts", spec := "blakeTexts", named := ["aquifer/blake.start", "aquifer/blake.orders"], apart := false, laid := [("aquifer/blake.start", laid_aquifer_blake_start), ("aquifer/blake.orders", laid_aquifer_blake_orders)] }
def BlakeTextsSaid : Prop := blakeTextsRow.holds Tryd.pinned (OpenSpec.ofChange blakeTextsSpec)

/-- ITS FALSE NEIGHBOUR: 'it returns false'. Refute it at one input. -/
def blakeTextsWrong : ChangeSpec := { name := "blakeTexts", fn := fun _ => fun
  | [d1, d2] => { results := [.lit (.bool false)], args := [d1, d2] }
  | _ => none }
def BlakeTextsWrongFalsely : Prop := blakeTextsRow.holds Tryd.pinned (OpenSpec.ofChange blakeTextsWrong)

/-- 'aquiferlaw02.BlakePieces': WHATEVER THE INPUT: true; the input reads as it did. -/
def blakePiecesSpec : ChangeSpec := { name := "blakePieces", fn := fun _ => fun
  | [d1, d2] => { results := [.lit (.bool true)], args := [d1, d2] }
  | _ => none }
def blakePiecesRow : OpenClaim := { program := "ytaeeibllmpaebaadoor", sum := "dcf8e88e48ebc91b4efa56341a3b39f1adbfc307f29ea83a20c43f1afcbef4a2", func := "aquifer/aquiferlaw02.BlakePieces", spec := "blakePieces", named := ["aquifer/blake.start", "aquifer/blake.orders"], apart := false, laid := [("aquifer/blake.start", laid_aquifer_blake_start), ("aquifer/blake.orders", laid_aquifer_blake_orders)] }
def BlakePiecesSaid : Prop := blakePiecesRow.holds Tryd.pinned (OpenSpec.ofChange blakePiecesSpec)

/-- ITS FALSE NEIGHBOUR: 'it returns false'. Refute it at one input. -/
def blakePiecesWrong : ChangeSpec := { name := "blakePieces", fn := fun _ => fun
  | [d1, d2] => { results := [.lit (.bool false)], args := [d1, d2] }
  | _ => none }
def BlakePiecesWrongFalsely : Prop := blakePiecesRow.holds Tryd.pinned (OpenSpec.ofChange blakePiecesWrong)

/-- 'aquiferlaw02.BlakeNobody': WHATEVER THE INPUT: true; the input reads as it did. -/
def blakeNobodySpec : ChangeSpec := { name := "blakeNobody", fn := fun _ => fun
  | [d] => { results := [.lit (.bool true)], args := [d] }
  | _ => none }
def blakeNobodyRow : OpenClaim := { program := "ytaeeibllmpaebaadoor", sum := "dcf8e88e48ebc91b4efa56341a3b39f1adbfc307f29ea83a20c43f1afcbef4a2", func := "aquifer/aquiferlaw02.BlakeNobody", spec := "blakeNobody", named := ["aquifer/blake.start", "aquifer/blake.orders"], apart := false, laid := [("aquifer/blake.start", laid_aquifer_blake_start), ("aquifer/blake.orders", laid_aquifer_blake_orders)] }
def BlakeNobodySaid : Prop := blakeNobodyRow.holds Tryd.pinned (OpenSpec.ofChange blakeNobodySpec)

/-- ITS FALSE NEIGHBOUR: 'it returns false'. Refute it at one input. -/
def blakeNobodyWrong : ChangeSpec := { name := "blakeNobody", fn := fun _ => fun
  | [d] => { results := [.lit (.bool false)], args := [d] }
  | _ => none }
def BlakeNobodyWrongFalsely : Prop := blakeNobodyRow.holds Tryd.pinned (OpenSpec.ofChange blakeNobodyWrong)

/- THE SECOND FORM. 'bulk': how many values and letters a reading holds, each counted each time it is reached (what is shared counts as often as it is met; a slice's spare places count too). A statement '..UptoSaid' is the law's where the arguments, and the package variables that the reading takes, are together of bulk at most 1048576: NARROWER than '..Said'. Prove '..Said' where nothing that the law and all that it calls make is longer than what came in: it says more and counts as full. Else prove '..UptoSaid'. A law counts once. -/
mutual
def uptoBulk {H : Type} : DataW H → Nat
  | .lit (.string bytes) => bytes.length + 1
  | .lit _ => 1
  | .nil => 1
  | .ptr d => uptoBulk d + 1
  | .slice elems spare => uptoBulkAll elems + uptoBulkAll spare + 1
  | .agg parts => uptoBulkAll parts + 1
  | .iface _ d => uptoBulk d + 1
  | .map entries => uptoBulkEntries entries + 1
  | .held _ => 1
def uptoBulkAll {H : Type} : List (DataW H) → Nat
  | [] => 0
  | d :: r => uptoBulk d + uptoBulkAll r
def uptoBulkEntries {H : Type} : List (Lit × DataW H) → Nat
  | [] => 0
  | x :: r => uptoBulkEntry x + uptoBulkEntries r
def uptoBulkEntry {H : Type} : Lit × DataW H → Nat
  | (.string bytes, d) => bytes.length + uptoBulk d + 1
  | (_, d) => uptoBulk d + 1
 end
def uptoSmall : (H : Type) → List (DataW H) → Bool := fun _ ds => decide (uptoBulkAll ds ≤ 1048576)
def OpenSpec.upto (s : _root_.Go.ChangeSpec) : _root_.Go.OpenSpec := { _root_.Go.OpenSpec.ofChange s with cond := some uptoSmall }

/-- 'aquiferlaw02.BlakeOf', WHERE WHAT IT READS IS OF BULK AT MOST 1048576: true; the input reads as it did. -/
def blakeOfUptoRow : OpenClaim := { program := "ytaeeibllmpaebaadoor", sum := "dcf8e88e48ebc91b4efa56341a3b39f1adbfc307f29ea83a20c43f1afcbef4a2", func := "aquifer/aquiferlaw02.BlakeOf", spec := "blakeOf", named := ["aquifer/blake.start", "aquifer/blake.orders"], apart := false, laid := [("aquifer/blake.start", laid_aquifer_blake_start), ("aquifer/blake.orders", laid_aquifer_blake_orders)], narrowed := true }
def BlakeOfUptoSaid : Prop := blakeOfUptoRow.holds Tryd.pinned (OpenSpec.upto blakeOfSpec)

/-- 'aquiferlaw02.BlakeEdges', WHERE WHAT IT READS IS OF BULK AT MOST 1048576: true; the input reads as it did. -/
def blakeEdgesUptoRow : OpenClaim := { program := "ytaeeibllmpaebaadoor", sum := "dcf8e88e48ebc91b4efa56341a3b39f1adbfc307f29ea83a20c43f1afcbef4a2", func := "aquifer/aquiferlaw02.BlakeEdges", spec := "blakeEdges", named := ["aquifer/blake.start", "aquifer/blake.orders"], apart := false, laid := [("aquifer/blake.start", laid_aquifer_blake_start), ("aquifer/blake.orders", laid_aquifer_blake_orders)], narrowed := true }
def BlakeEdgesUptoSaid : Prop := blakeEdgesUptoRow.holds Tryd.pinned (OpenSpec.upto blakeEdgesSpec)

/-- 'aquiferlaw02.BlakePlays', WHERE WHAT IT READS IS OF BULK AT MOST 1048576: true; the input reads as it did. -/
def blakePlaysUptoRow : OpenClaim := { program := "ytaeeibllmpaebaadoor", sum := "dcf8e88e48ebc91b4efa56341a3b39f1adbfc307f29ea83a20c43f1afcbef4a2", func := "aquifer/aquiferlaw02.BlakePlays", spec := "blakePlays", named := ["aquifer/blake.start", "aquifer/blake.orders"], apart := false, laid := [("aquifer/blake.start", laid_aquifer_blake_start), ("aquifer/blake.orders", laid_aquifer_blake_orders)], narrowed := true }
def BlakePlaysUptoSaid : Prop := blakePlaysUptoRow.holds Tryd.pinned (OpenSpec.upto blakePlaysSpec)

/-- 'aquiferlaw02.BlakeTexts', WHERE WHAT IT READS IS OF BULK AT MOST 1048576: true; the input reads as it did. -/
def blakeTextsUptoRow : OpenClaim := { program := "ytaeeibllmpaebaadoor", sum := "dcf8e88e48ebc91b4efa56341a3b39f1adbfc307f29ea83a20c43f1afcbef4a2", func := "aquifer/aquiferlaw02.BlakeTexts", spec := "blakeTexts", named := ["aquifer/blake.start", "aquifer/blake.orders"], apart := false, laid := [("aquifer/blake.start", laid_aquifer_blake_start), ("aquifer/blake.orders", laid_aquifer_blake_orders)], narrowed := true }
def BlakeTextsUptoSaid : Prop := blakeTextsUptoRow.holds Tryd.pinned (OpenSpec.upto blakeTextsSpec)

/-- 'aquiferlaw02.BlakePieces', WHERE WHAT IT READS IS OF BULK AT MOST 1048576: true; the input reads as it did. -/
def blakePiecesUptoRow : OpenClaim := { program := "ytaeeibllmpaebaadoor", sum := "dcf8e88e48ebc91b4efa56341a3b39f1adbfc307f29ea83a20c43f1afcbef4a2", func := "aquifer/aquiferlaw02.BlakePieces", spec := "blakePieces", named := ["aquifer/blake.start", "aquifer/blake.orders"], apart := false, laid := [("aquifer/blake.start", laid_aquifer_blake_start), ("aquifer/blake.orders", laid_aquifer_blake_orders)], narrowed := true }
def BlakePiecesUptoSaid : Prop := blakePiecesUptoRow.holds Tryd.pinned (OpenSpec.upto blakePiecesSpec)

/-- 'aquiferlaw02.BlakeNobody', WHERE WHAT IT READS IS OF BULK AT MOST 1048576: true; the input reads as it did. -/
def blakeNobodyUptoRow : OpenClaim := { program := "ytaeeibllmpaebaadoor", sum := "dcf8e88e48ebc91b4efa56341a3b39f1adbfc307f29ea83a20c43f1afcbef4a2", func := "aquifer/aquiferlaw02.BlakeNobody", spec := "blakeNobody", named := ["aquifer/blake.start", "aquifer/blake.orders"], apart := false, laid := [("aquifer/blake.start", laid_aquifer_blake_start), ("aquifer/blake.orders", laid_aquifer_blake_orders)], narrowed := true }
def BlakeNobodyUptoSaid : Prop := blakeNobodyUptoRow.holds Tryd.pinned (OpenSpec.upto blakeNobodySpec)

end Rows
end Go.Proofs.YtaeeibllmpaebaaDoor
