/- Proved: what the document's noughts, Truncate, Write and Read answer. -/
import Derived.Test.YtefpaebbendnmaaDoorRSpl
namespace Go.Proofs.YtefpaebbendnmaaDoor
open Go.RowKit
open Ck (T cnt cntZ zs tr trE trT rd rdE rdT wr wrE wrT pad)
theorem pad_size (s : ByteArray) (n : Nat) : (mk (pad (bl s) n)).size = max s.size n := by rw [mk_size, Ck.pad_length, bl_length]
theorem pad_drop (s d : T) (o : Nat) (h : o + d.length < (pad s o).length) : (pad s o).drop (o + d.length) = s.drop (o + d.length) := by
  rw [Ck.pad_length] at h
  rw [Ck.pad_same (by omega)]
end Go.Proofs.YtefpaebbendnmaaDoor
