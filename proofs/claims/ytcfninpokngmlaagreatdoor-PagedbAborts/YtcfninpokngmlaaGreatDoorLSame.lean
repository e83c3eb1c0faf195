/- Proved: what the laws' comparison of two lists of texts answers. -/
import Derived.Test.YtcfninpokngmlaaGreatDoorPOpen
namespace Go.Proofs.YtcfninpokngmlaaGreatDoor
open Go.RowKit
theorem toList_ne {a b : ByteArray} (h : ¬ a = b) : (a.toList == b.toList) = false := by
  rw [beq_eq_false_iff_ne]
  intro e
  exact h (Wl.ext_list (by rw [ByteArray.toList_eq, ByteArray.toList_eq] at e; exact e))
end Go.Proofs.YtcfninpokngmlaaGreatDoor
